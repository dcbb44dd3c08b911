/- What a point within the picture is, told by the four edges as the document does. -/
import Derived.Test.YtogalmkeipigeaaPoint
import Derived.Test.YtogalmkeipigeaaRefE
set_option linter.unusedSimpArgs false
set_option linter.unusedVariables false
namespace Go.Proofs.Ytogalmkeipigeaa
open Go.RowKit

/-- The document's words: three edges at least; else one upright and one across. -/
def jointB (up down left right : Bool) : Bool := (up && down && left) || (up && down && right) || (left && right && up) || (left && right && down)
def bendB (up down left right : Bool) : Bool := (up || down) && (left || right)
theorem pointB_bools : ∀ u r d l : Bool, oneB u + oneB r + oneB d + oneB l ≠ 1 → pointB u r d l = if jointB u d l r then 2 else if bendB u d l r then 1 else 0 := by decide
theorem pointB_in (a b d e : Int) : pointB (a != b) (b != e) (d != e) (a != d) = if jointB (a != b) (d != e) (a != d) (b != e) then 2 else if bendB (a != b) (d != e) (a != d) (b != e) then 1 else 0 := by
  refine pointB_bools _ _ _ _ fun h => ?_
  by_cases h1 : a = b <;> by_cases h2 : b = e <;> by_cases h3 : d = e <;> by_cases h4 : a = d <;> simp [h1, h2, h3, h4, oneB] at h <;> omega
theorem apartB_in {g : Int × Int → Option Int} {W H : Nat} (G : Grid g W H) {p q : Int × Int} (hp : inPic W H p) (hq : inPic W H q) : apartB g p q = (atG g p != atG g q) := by
  have h1 := (G.at_in hp).1
  have h2 := (G.at_in hq).1
  have e1 : (atG g p != -1) = true := by simp; omega
  have e2 : (atG g q != -1) = true := by simp; omega
  unfold apartB
  rw [e1, e2, Bool.and_true, Bool.and_true]
/-- A point within: as the document says. -/
theorem pointR_in {g : Int × Int → Option Int} {W H : Nat} (G : Grid g W H) {x y : Int} (hx1 : 1 ≤ x) (hx2 : x < W) (hy1 : 1 ≤ y) (hy2 : y < H) :
    pointR g x y = if jointB (atG g (x - 1, y - 1) != atG g (x, y - 1)) (atG g (x - 1, y) != atG g (x, y)) (atG g (x - 1, y - 1) != atG g (x - 1, y)) (atG g (x, y - 1) != atG g (x, y)) then 2
      else if bendB (atG g (x - 1, y - 1) != atG g (x, y - 1)) (atG g (x - 1, y) != atG g (x, y)) (atG g (x - 1, y - 1) != atG g (x - 1, y)) (atG g (x, y - 1) != atG g (x, y)) then 1 else 0 := by
  have pa : inPic W H (x - 1, y - 1) := ⟨by simp only; omega, by simp only; omega, by simp only; omega, by simp only; omega⟩
  have pb : inPic W H (x, y - 1) := ⟨by simp only; omega, by simp only; omega, by simp only; omega, by simp only; omega⟩
  have pd : inPic W H (x - 1, y) := ⟨by simp only; omega, by simp only; omega, by simp only; omega, by simp only; omega⟩
  have pe : inPic W H (x, y) := ⟨by simp only; omega, by simp only; omega, by simp only; omega, by simp only; omega⟩
  unfold pointR
  rw [apartB_in G pa pb, apartB_in G pb pe, apartB_in G pe pd, apartB_in G pd pa, ← pointB_in]
  congr 1
  · exact bne_comm
  · exact bne_comm
theorem apartB_out {g : Int × Int → Option Int} {W H : Nat} (G : Grid g W H) {p q : Int × Int} (h : ¬ inPic W H p ∨ ¬ inPic W H q) : apartB g p q = false := by
  unfold apartB
  rcases h with h | h
  · rw [G.at_out h]; simp
  · rw [G.at_out h]; simp
theorem out_x {W H : Nat} {x y : Int} (h : x < 0 ∨ (W : Int) ≤ x) : ¬ inPic W H (x, y) := fun hp => by
  obtain ⟨h1, h2, _, _⟩ := hp
  simp only at h1 h2
  omega
theorem out_y {W H : Nat} {x y : Int} (h : y < 0 ∨ (H : Int) ≤ y) : ¬ inPic W H (x, y) := fun hp => by
  obtain ⟨_, _, h1, h2⟩ := hp
  simp only at h1 h2
  omega
theorem pointB_3 (b : Bool) : pointB b false false false = (if b then 3 else 0) ∧ pointB false b false false = (if b then 3 else 0) ∧ pointB false false b false = (if b then 3 else 0) ∧ pointB false false false b = (if b then 3 else 0) := by
  cases b <;> decide
section
variable {g : Int × Int → Option Int} {W H : Nat} {x y : Int}
/-- The points of the border: the upper one, the lower one, the left one, the right one; and its corners. -/
theorem pointR_top (G : Grid g W H) (hx1 : 1 ≤ x) (hx2 : x < W) : pointR g x 0 = if (atG g (x - 1, 0) != atG g (x, 0)) then 3 else 0 := by
  have h1 := G.h1
  unfold pointR
  rw [apartB_out G (.inl (out_y (by omega))), apartB_out G (.inl (out_y (by omega))), apartB_in G (p := (x, 0)) (q := (x - 1, 0)) ⟨by simp only; omega, by simp only; omega, by simp only; omega, by simp only; omega⟩ ⟨by simp only; omega, by simp only; omega, by simp only; omega, by simp only; omega⟩, apartB_out G (.inr (out_y (by omega))), (pointB_3 _).2.2.1, bne_comm]
theorem pointR_bottom (G : Grid g W H) (hx1 : 1 ≤ x) (hx2 : x < W) : pointR g x H = if (atG g (x - 1, (H : Int) - 1) != atG g (x, (H : Int) - 1)) then 3 else 0 := by
  have h1 := G.h1
  unfold pointR
  rw [apartB_in G (p := (x - 1, (H : Int) - 1)) (q := (x, (H : Int) - 1)) ⟨by simp only; omega, by simp only; omega, by simp only; omega, by simp only; omega⟩ ⟨by simp only; omega, by simp only; omega, by simp only; omega, by simp only; omega⟩, apartB_out G (.inr (out_y (by omega))), apartB_out G (.inl (out_y (by omega))), apartB_out G (.inl (out_y (by omega))), (pointB_3 _).1]
theorem pointR_left (G : Grid g W H) (hy1 : 1 ≤ y) (hy2 : y < H) : pointR g 0 y = if (atG g (0, y - 1) != atG g (0, y)) then 3 else 0 := by
  have h1 := G.w1
  unfold pointR
  rw [apartB_out G (.inl (out_x (by omega))), apartB_in G (p := (0, y - 1)) (q := (0, y)) ⟨by simp only; omega, by simp only; omega, by simp only; omega, by simp only; omega⟩ ⟨by simp only; omega, by simp only; omega, by simp only; omega, by simp only; omega⟩, apartB_out G (.inr (out_x (by omega))), apartB_out G (.inl (out_x (by omega))), (pointB_3 _).2.1]
theorem pointR_right (G : Grid g W H) (hy1 : 1 ≤ y) (hy2 : y < H) : pointR g W y = if (atG g ((W : Int) - 1, y - 1) != atG g ((W : Int) - 1, y)) then 3 else 0 := by
  have h1 := G.w1
  unfold pointR
  rw [apartB_out G (.inr (out_x (by omega))), apartB_out G (.inl (out_x (by omega))), apartB_out G (.inl (out_x (by omega))), apartB_in G (p := ((W : Int) - 1, y)) (q := ((W : Int) - 1, y - 1)) ⟨by simp only; omega, by simp only; omega, by simp only; omega, by simp only; omega⟩ ⟨by simp only; omega, by simp only; omega, by simp only; omega, by simp only; omega⟩, (pointB_3 _).2.2.2, bne_comm]
theorem pointR_corner (G : Grid g W H) (hx : x = 0 ∨ x = W) (hy : y = 0 ∨ y = H) : pointR g x y = 0 := by
  unfold pointR
  have e1 : apartB g (x - 1, y - 1) (x, y - 1) = false := apartB_out G (by rcases hx with rfl | rfl; exact .inl (out_x (by omega)); exact .inr (out_x (by omega)))
  have e2 : apartB g (x, y - 1) (x, y) = false := apartB_out G (by rcases hy with rfl | rfl; exact .inl (out_y (by omega)); exact .inr (out_y (by omega)))
  have e3 : apartB g (x, y) (x - 1, y) = false := apartB_out G (by rcases hx with rfl | rfl; exact .inr (out_x (by omega)); exact .inl (out_x (by omega)))
  have e4 : apartB g (x - 1, y) (x - 1, y - 1) = false := apartB_out G (by rcases hy with rfl | rfl; exact .inr (out_y (by omega)); exact .inl (out_y (by omega)))
  rw [e1, e2, e3, e4]
  decide
end
end Go.Proofs.Ytogalmkeipigeaa

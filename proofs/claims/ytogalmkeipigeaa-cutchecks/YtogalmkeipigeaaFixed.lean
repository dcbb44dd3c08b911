/- What the document's examples come to. -/
import Derived.Test.YtogalmkeipigeaaSaw
import Derived.Test.YtogalmkeipigeaaLines
import Derived.Test.YtogalmkeipigeaaInside
import Derived.Test.YtogalmkeipigeaaRefJoin
set_option linter.unusedSimpArgs false
set_option linter.unusedVariables false
namespace Go.Proofs.Ytogalmkeipigeaa
open Go.RowKit

def zsA : List Int := [0, 0, 1, 1, 0, 2, 2, 1, 3, 3, 3, 3]
def zsB : List Int := [0, 0, 1, 2, 3, 1]
def zsC : List Int := [0, 0, 0, 0, 1, 0, 0, 0, 0]

/-! ### Pieces that hang together, by a search -/
def growL (g : Int × Int → Option Int) (k : Int) (S : List (Int × Int)) : List (Int × Int) := S ++ (S.flatMap besideL).filter fun p => decide (atG g p = k)
def reachL (g : Int × Int → Option Int) (k : Int) (r : Int × Int) : Nat → List (Int × Int)
  | 0 => [r]
  | n + 1 => growL g k (reachL g k r n)
theorem reachL_conn {g : Int × Int → Option Int} {k : Int} {r : Int × Int} (hr : atG g r = k) : ∀ (n : Nat) (p : Int × Int), p ∈ reachL g k r n → Conn g r p ∧ atG g p = k := by
  intro n
  induction n with
  | zero => intro p hp; simp only [reachL, List.mem_singleton] at hp; subst hp; exact ⟨.refl, hr⟩
  | succ n ih =>
    intro p hp
    simp only [reachL, growL, List.mem_append, List.mem_filter, List.mem_flatMap, decide_eq_true_eq] at hp
    rcases hp with hp | ⟨⟨q, hq, hb⟩, hk⟩
    · exact ih p hp
    · obtain ⟨h1, h2⟩ := ih q hq
      exact ⟨.step h1 hb (hk.trans h2.symm), hk⟩
theorem whole_by {W H : Nat} {zs : List Int} (C : CutN W H zs) {k : Int} (r : Int × Int) (n : Nat) (hr : atG (laidG W zs zs.length) r = k)
    (h : ∀ i, i < zs.length → atG (laidG W zs zs.length) (cellOf W i) = k → cellOf W i ∈ reachL (laidG W zs zs.length) k r n) : WholeP (laidG W zs zs.length) W H k := by
  intro p q hp hq hpk hqk
  obtain ⟨i, hi, rfl⟩ := C.of_in hp
  obtain ⟨j, hj, rfl⟩ := C.of_in hq
  exact (reachL_conn hr n _ (h i hi hpk)).1.symm.trans (reachL_conn hr n _ (h j hj hqk)).1

theorem cnA : CutN 4 3 zsA := ⟨by decide, by decide, by decide, by decide, by decide, by decide⟩
theorem cnB : CutN 3 2 zsB := ⟨by decide, by decide, by decide, by decide, by decide, by decide⟩
theorem cnC : CutN 3 3 zsC := ⟨by decide, by decide, by decide, by decide, by decide, by decide⟩

theorem ckA : checkR 4 3 zsA = (4, 0) := by
  have hg : greatest zsA = 3 := by decide
  have := checkR_0 cnA (by decide) (fun j hj => by
    rcases (by omega : j = 0 ∨ j = 1 ∨ j = 2) with rfl | rfl | rfl <;> decide) (fun j hj => by
    rcases (by omega : j = 0 ∨ j = 1 ∨ j = 2 ∨ j = 3) with rfl | rfl | rfl | rfl
    · exact whole_by cnA (0, 0) 3 (by decide +kernel) (by decide +kernel)
    · exact whole_by cnA (2, 0) 3 (by decide +kernel) (by decide +kernel)
    · exact whole_by cnA (1, 1) 3 (by decide +kernel) (by decide +kernel)
    · exact whole_by cnA (0, 2) 3 (by decide +kernel) (by decide +kernel))
  exact this
theorem ckB : checkR 3 2 zsB = (4, 0) := by
  have hg : greatest zsB = 3 := by decide
  have := checkR_0 cnB (by decide) (fun j hj => by
    rcases (by omega : j = 0 ∨ j = 1 ∨ j = 2) with rfl | rfl | rfl <;> decide) (fun j hj => by
    rcases (by omega : j = 0 ∨ j = 1 ∨ j = 2 ∨ j = 3) with rfl | rfl | rfl | rfl
    · exact whole_by cnB (0, 0) 3 (by decide +kernel) (by decide +kernel)
    · exact whole_by cnB (2, 0) 3 (by decide +kernel) (by decide +kernel)
    · exact whole_by cnB (0, 1) 3 (by decide +kernel) (by decide +kernel)
    · exact whole_by cnB (1, 1) 3 (by decide +kernel) (by decide +kernel))
  exact this
theorem ckC : checkR 3 3 zsC = (2, 0) := by
  have hg : greatest zsC = 1 := by decide
  have := checkR_0 cnC (by decide) (fun j hj => by
    rcases (by omega : j = 0) with rfl; decide) (fun j hj => by
    rcases (by omega : j = 0 ∨ j = 1) with rfl | rfl
    · exact whole_by cnC (0, 0) 4 (by decide +kernel) (by decide +kernel)
    · exact whole_by cnC (1, 1) 1 (by decide +kernel) (by decide +kernel))
  exact this

theorem sidesA : sidesR 4 3 zsA 0 = [(-1, 4), (1, 1), (2, 2), (3, 1)] := by decide +kernel
theorem linesA : linesR 4 3 zsA = ((9, 2, 3, 3), 0) := by
  unfold linesR
  rw [if_neg (by rw [ckA]; decide)]
  decide +kernel
theorem joinA : joinR 4 3 zsA 3 1 = ((4, 3, [0, 0, 1, 1, 0, 2, 2, 1, 1, 1, 1, 1]), 0) := by
  have h : (checkR ((4 : Nat) : Int) ((3 : Nat) : Int) zsA).2 = 0 := by rw [show checkR ((4 : Nat) : Int) ((3 : Nat) : Int) zsA = checkR 4 3 zsA from rfl, ckA]
  have := joinR_yes (a := 3) (b := 1) h
  rw [show joinR 4 3 zsA 3 1 = joinR ((4 : Nat) : Int) ((3 : Nat) : Int) zsA 3 1 from rfl, this]
  decide +kernel
theorem sawA : sawR 4 3 zsA = ([], 11) := by
  unfold sawR
  rw [if_neg (by rw [ckA]; decide)]
  have : sawL (laidG (4 : Int).toNat zsA zsA.length) ((4 : Int).toNat * (3 : Int).toNat) 0 0 (4 : Int).toNat (3 : Int).toNat = none := by decide +kernel
  rw [this]
theorem sawB : sawR 3 2 zsB = ([(true, 2, 0, 2), (false, 1, 0, 2), (true, 1, 1, 2)], 0) := by
  unfold sawR
  rw [if_neg (by rw [ckB]; decide)]
  have : sawL (laidG (3 : Int).toNat zsB zsB.length) ((3 : Int).toNat * (2 : Int).toNat) 0 0 (3 : Int).toNat (2 : Int).toNat = some [(true, 2, 0, 2), (false, 1, 0, 2), (true, 1, 1, 2)] := by decide +kernel
  rw [this]
theorem insideC {R : Nat → Bool} (h : OutInv (laidG 3 zsC zsC.length) 3 3 0 2 2 [] R) : insideTo R 0 2 = [1] := by
  have h1 : R 1 = false := by
    cases hr : R 1 with
    | false => rfl
    | true =>
      obtain ⟨p, hp, hne, hf, _⟩ := (h.is cnC.grid (by omega) 1 (by omega)).1 hr
      obtain rfl : p = 1 := by omega
      exact absurd hf (by decide +kernel)
  simp [insideTo, h1]
end Go.Proofs.Ytogalmkeipigeaa

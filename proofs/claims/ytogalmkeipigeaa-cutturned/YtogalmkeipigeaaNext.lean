/- The document's next: is some cell next to that of a place reached? -/
import Derived.Test.YtogalmkeipigeaaWholes
import Derived.Test.YtogalmkeipigeaaArr
import Derived.BigQuiet
set_option linter.unusedSimpArgs false
set_option linter.unusedVariables false
namespace Go.Proofs.Ytogalmkeipigeaa
open Go.RowKit

set_option maxRecDepth 100000 in
set_option maxHeartbeats 8000000 in
theorem next_walk (W H n i x y rb cap cap' : Nat) (ao : Option Addr) (R : Nat → Bool) (hx : i % W = x) (hy : i / W = y) (hW : 1 ≤ W) (hW2 : W ≤ 12) (hH1 : 1 ≤ H) (hH : H ≤ 12) (hn : n ≤ 144) (hi : i < n)
    (hl : 0 < x → 1 ≤ i) (hr : x + 1 < W → i + 1 < n) (hu : 0 < y → W ≤ i) (hd : y + 1 < H → i + W < n) (w : World) (hrb : w.heap[rb]? = some (.cells (boolCells n R) 4)) :
    Calls Try.prog 68 #[cutV W H ao n cap, .slice (some ⟨rb, 0, none⟩) n cap', .int .i64 i] w fun e w' => e = .returned (.bool (nextB W H R i)) ∧ Mod noB w w' := by
  have hlt := (Array.getElem?_eq_some_iff.1 hrb).1
  have hcells : ∀ j, j < n → w.cell? ⟨rb, j, none⟩ = some (.bool (R j)) := fun j hj => by
    have := fcells_cell (f := fun k => Value.bool (R k)) hrb hj; exact this
  have HE : Hold (nextB W H R i = ((decide (0 < x) && R (i - 1) || decide (x < W - 1) && R (i + 1)) || decide (0 < y) && R (i - W) || decide (y < H - 1) && R (i + W))) := ⟨by rw [nextB, hx, hy]⟩
  have T1 : (Hold ((decide (0 < x) && R (i - 1)) = true) ∧ (0 : Int) < (x : Int) ∧ w.cell? ⟨rb, i - 1, none⟩ = some (.bool true) ∧ (0 : Int) ≤ (i : Int) - 1 ∧ (i : Int) - 1 < (n : Int) ∧ ((i : Int) - 1).toNat = i - 1) ∨
      (Hold ((decide (0 < x) && R (i - 1)) = false) ∧ (0 : Int) < (x : Int) ∧ w.cell? ⟨rb, i - 1, none⟩ = some (.bool false) ∧ (0 : Int) ≤ (i : Int) - 1 ∧ (i : Int) - 1 < (n : Int) ∧ ((i : Int) - 1).toNat = i - 1) ∨ (Hold ((decide (0 < x) && R (i - 1)) = false) ∧ ¬ 0 < x) := by
    by_cases c : 0 < x
    · have := hl c
      cases hR : R (i - 1) with
      | true => exact .inl ⟨⟨by simp [c, hR]⟩, by omega, hR ▸ hcells _ (by omega), by omega, by omega, by omega⟩
      | false => exact .inr (.inl ⟨⟨by simp⟩, by omega, hR ▸ hcells _ (by omega), by omega, by omega, by omega⟩)
    · exact .inr (.inr ⟨⟨by simp [c]⟩, c⟩)
  have T2 : (Hold ((decide (x < W - 1) && R (i + 1)) = true) ∧ (x : Int) < (W : Int) - 1 ∧ w.cell? ⟨rb, i + 1, none⟩ = some (.bool true) ∧ i + 1 < n ∧ (i : Int) + 1 < (n : Int)) ∨
      (Hold ((decide (x < W - 1) && R (i + 1)) = false) ∧ (x : Int) < (W : Int) - 1 ∧ w.cell? ⟨rb, i + 1, none⟩ = some (.bool false) ∧ i + 1 < n ∧ (i : Int) + 1 < (n : Int)) ∨ (Hold ((decide (x < W - 1) && R (i + 1)) = false) ∧ ¬ ((x : Int) < (W : Int) - 1)) := by
    by_cases c : x < W - 1
    · have := hr (by omega)
      cases hR : R (i + 1) with
      | true => exact .inl ⟨⟨by simp [c]⟩, by omega, hR ▸ hcells _ (by omega), by omega, by omega⟩
      | false => exact .inr (.inl ⟨⟨by simp⟩, by omega, hR ▸ hcells _ (by omega), by omega, by omega⟩)
    · exact .inr (.inr ⟨⟨by simp [c]⟩, by omega⟩)
  have T3 : (Hold ((decide (0 < y) && R (i - W)) = true) ∧ (0 : Int) < (y : Int) ∧ w.cell? ⟨rb, i - W, none⟩ = some (.bool true) ∧ (0 : Int) ≤ (i : Int) - (W : Int) ∧ (i : Int) - (W : Int) < (n : Int) ∧ ((i : Int) - (W : Int)).toNat = i - W) ∨
      (Hold ((decide (0 < y) && R (i - W)) = false) ∧ (0 : Int) < (y : Int) ∧ w.cell? ⟨rb, i - W, none⟩ = some (.bool false) ∧ (0 : Int) ≤ (i : Int) - (W : Int) ∧ (i : Int) - (W : Int) < (n : Int) ∧ ((i : Int) - (W : Int)).toNat = i - W) ∨ (Hold ((decide (0 < y) && R (i - W)) = false) ∧ ¬ 0 < y) := by
    by_cases c : 0 < y
    · have := hu c
      cases hR : R (i - W) with
      | true => exact .inl ⟨⟨by simp [c]⟩, by omega, hR ▸ hcells _ (by omega), by omega, by omega, by omega⟩
      | false => exact .inr (.inl ⟨⟨by simp⟩, by omega, hR ▸ hcells _ (by omega), by omega, by omega, by omega⟩)
    · exact .inr (.inr ⟨⟨by simp [c]⟩, c⟩)
  have T4 : (Hold ((decide (y < H - 1) && R (i + W)) = true) ∧ (y : Int) < (H : Int) - 1 ∧ w.cell? ⟨rb, i + W, none⟩ = some (.bool true) ∧ i + W < n ∧ (i : Int) + (W : Int) < (n : Int)) ∨
      (Hold ((decide (y < H - 1) && R (i + W)) = false) ∧ (y : Int) < (H : Int) - 1 ∧ w.cell? ⟨rb, i + W, none⟩ = some (.bool false) ∧ i + W < n ∧ (i : Int) + (W : Int) < (n : Int)) ∨ (Hold ((decide (y < H - 1) && R (i + W)) = false) ∧ ¬ ((y : Int) < (H : Int) - 1)) := by
    by_cases c : y < H - 1
    · have := hd (by omega)
      cases hR : R (i + W) with
      | true => exact .inl ⟨⟨by simp [c]⟩, by omega, hR ▸ hcells _ (by omega), by omega, by omega⟩
      | false => exact .inr (.inl ⟨⟨by simp⟩, by omega, hR ▸ hcells _ (by omega), by omega, by omega⟩)
    · exact .inr (.inr ⟨⟨by simp [c]⟩, by omega⟩)
  have hWpos : (0 : Int) < (W : Int) := by omega
  have hW0 : ¬ (W = 0) := by omega
  have htm : (i : Int).tmod (W : Int) = (x : Int) := by rw [Int.tmod_eq_emod_of_nonneg (by omega), ← hx]; rfl
  have htd : (i : Int).tdiv (W : Int) = (y : Int) := by rw [Int.tdiv_eq_ediv_of_nonneg (by omega), ← hy]; rfl
  have hxW : x < W := by rw [← hx]; exact Nat.mod_lt _ (by omega)
  have hyi : y ≤ i := by rw [← hy]; exact Nat.div_le_self _ _
  generalize (decide (0 < x) && R (i - 1)) = a1 at *
  generalize (decide (x < W - 1) && R (i + 1)) = a2 at *
  generalize (decide (0 < y) && R (i - W)) = a3 at *
  generalize (decide (y < H - 1) && R (i + W)) = a4 at *
  clear hx hy hcells hrb hl hr hu hd
  rcases T1 with ⟨H1, e1, e2, e3, e4, e5⟩ | T1
  · clear T2 T3 T4
    go_enter Try.func68, Try.ntmps68
    go_wp2
    go_quiet (fail)
    go_wp2
    go_ret
    exact ⟨ret_bool (by rw [HE.out, H1.out]; simp), ((Mod.refl _ _).alloc _).drewN _⟩
  rcases T2 with ⟨H2, f1, f2, f3, f4⟩ | T2
  · clear T3 T4
    rcases T1 with ⟨H1, e1, e2, e3, e4, e5⟩ | ⟨H1, e1⟩
    all_goals
      go_enter Try.func68, Try.ntmps68
      go_wp2
      go_quiet (fail)
      go_wp2
      go_ret
      exact ⟨ret_bool (by rw [HE.out, H2.out]; simp), ((Mod.refl _ _).alloc _).drewN _⟩
  rcases T3 with ⟨H3, g1, g2, g3, g4, g5⟩ | T3
  · clear T4
    rcases T1 with ⟨H1, e1, e2, e3, e4, e5⟩ | ⟨H1, e1⟩ <;> rcases T2 with ⟨H2, f1, f2, f3, f4⟩ | ⟨H2, f1⟩
    all_goals
      go_enter Try.func68, Try.ntmps68
      go_wp2
      go_quiet (fail)
      go_wp2
      go_ret
      exact ⟨ret_bool (by rw [HE.out, H3.out]; simp), ((Mod.refl _ _).alloc _).drewN _⟩
  rcases T4 with ⟨H4, k1, k2, k3, k4⟩ | T4
  · rcases T1 with ⟨H1, e1, e2, e3, e4, e5⟩ | ⟨H1, e1⟩ <;> rcases T2 with ⟨H2, f1, f2, f3, f4⟩ | ⟨H2, f1⟩ <;> rcases T3 with ⟨H3, g1, g2, g3, g4, g5⟩ | ⟨H3, g1⟩
    all_goals
      go_enter Try.func68, Try.ntmps68
      go_wp2
      go_quiet (fail)
      go_wp2
      go_ret
      exact ⟨ret_bool (by rw [HE.out, H4.out]; simp), ((Mod.refl _ _).alloc _).drewN _⟩
  · rcases T1 with ⟨H1, e1, e2, e3, e4, e5⟩ | ⟨H1, e1⟩ <;> rcases T2 with ⟨H2, f1, f2, f3, f4⟩ | ⟨H2, f1⟩ <;> rcases T3 with ⟨H3, g1, g2, g3, g4, g5⟩ | ⟨H3, g1⟩ <;> rcases T4 with ⟨H4, k1, k2, k3, k4⟩ | ⟨H4, k1⟩
    all_goals
      go_enter Try.func68, Try.ntmps68
      go_wp2
      go_quiet (fail)
      go_wp2
      go_ret
      exact ⟨ret_bool (by rw [HE.out, H1.out, H2.out, H3.out, H4.out]; simp), ((Mod.refl _ _).alloc _).drewN _⟩
end Go.Proofs.Ytogalmkeipigeaa

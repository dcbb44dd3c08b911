/- isCut: does a value have the form of a cut. -/
import Derived.Test.YtogalmkeipigeaaSlices
set_option linter.unusedSimpArgs false
set_option linter.unusedVariables false
namespace Go.Proofs.Ytogalmkeipigeaa
open Go.RowKit

@[reducible] def cutV (W H : Int) (ao : Option Addr) (n cap : Nat) : Value := .agg #[.int .i64 W, .int .i64 H, .slice ao n cap]
/-- A cut's form: both sides from 1 to 12, as many cells, numbers from 0 to 39. -/
def isCutB (W H : Int) (zs : List Int) : Bool := decide (1 ≤ W ∧ W ≤ 12 ∧ 1 ≤ H ∧ H ≤ 12) && decide ((zs.length : Int) = W * H) && !(zs.any fun z => decide (z < 0) || decide (40 ≤ z))

theorem ret_bool {a b : Bool} (h : a = b) : Ending.returned (.bool a) = .returned (.bool b) := by rw [h]

set_option maxRecDepth 100000 in
set_option maxHeartbeats 2000000 in
theorem isCut_any (W H : Int) (ao : Option Addr) (zs : List Int) (cap : Nat) (w : World) (hs : IntsAt w ao zs) :
    Calls Try.prog 41 #[cutV W H ao zs.length cap] w fun e w' => e = .returned (.bool (isCutB W H zs)) ∧ Mod noB w w' := by
  have hsm := hs.small
  have HI := Hold.mk (hs.mono ((Below.refl _ w).alloc (Nat.le_refl _) (.cells #[.int .i64 W, .int .i64 H, .slice ao zs.length cap] 24)))
  clear hs
  have HZ : Hold (∃ b, zs.any (fun z => decide (z < 0) || decide (40 ≤ z)) = b) := ⟨_, rfl⟩
  obtain ⟨b, hb⟩ := HZ.out
  have HB := Hold.mk hb
  have HC := Hold.mk (containsFunc_any ao zs cap 61 _ _ HI.out enter61 (fun n => isCut1_any n _))
  rw [hb] at HC
  clear hb HZ
  by_cases h1 : W < 1
  · go_enter Try.func41, Try.ntmps41
    go_wp2
    go_ret
    exact ⟨ret_bool (by rw [isCutB, decide_eq_false (by omega)]; rfl), (Mod.refl _ _).alloc _⟩
  by_cases h2 : 12 < W
  · go_enter Try.func41, Try.ntmps41
    go_wp2
    go_ret
    exact ⟨ret_bool (by rw [isCutB, decide_eq_false (by omega)]; rfl), (Mod.refl _ _).alloc _⟩
  by_cases h3 : H < 1
  · go_enter Try.func41, Try.ntmps41
    go_wp2
    go_ret
    exact ⟨ret_bool (by rw [isCutB, decide_eq_false (by omega)]; rfl), (Mod.refl _ _).alloc _⟩
  by_cases h4 : 12 < H
  · go_enter Try.func41, Try.ntmps41
    go_wp2
    go_ret
    exact ⟨ret_bool (by rw [isCutB, decide_eq_false (by omega)]; rfl), (Mod.refl _ _).alloc _⟩
  have m1 : 0 ≤ W * H := Int.mul_nonneg (by omega) (by omega)
  have m2 : W * H ≤ 12 * 12 := Int.mul_le_mul (by omega) (by omega) (by omega) (by omega)
  by_cases h5 : (zs.length : Int) = W * H
  · have h5' : ((zs.length : Int) == W * H) = true := by simpa using h5
    have H5 := Hold.mk h5
    have m3 : -9223372036854775808 ≤ W * H := by omega
    have m4 : W * H ≤ 9223372036854775807 := by omega
    clear h5
    go_enter Try.func41, Try.ntmps41
    go_wp2_with (go_at_call 62; refine HC.out.mono ?_; rintro e w' ⟨rfl, rfl⟩)
    go_ret
    exact ⟨ret_bool (by rw [isCutB, decide_eq_true (by omega), decide_eq_true H5.out, HB.out]; rfl), (Mod.refl _ _).alloc _⟩
  · have h5' : ((zs.length : Int) == W * H) = false := by simpa using h5
    have H5 := Hold.mk h5
    clear h5
    go_enter Try.func41, Try.ntmps41
    go_wp2
    go_ret
    exact ⟨ret_bool (by rw [isCutB, decide_eq_false H5.out]; simp), (Mod.refl _ _).alloc _⟩
end Go.Proofs.Ytogalmkeipigeaa

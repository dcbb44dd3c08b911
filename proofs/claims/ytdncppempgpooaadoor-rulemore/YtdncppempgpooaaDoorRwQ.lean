/- What the laws leave out, of plans: heavy. -/
import Derived.Test.YtdncppempgpooaaDoorRwF
set_option linter.unusedSimpArgs false
set_option linter.unusedVariables false
namespace Go.Proofs.YtdncppempgpooaaDoor
open Go.RowKit Go.Shelf

theorem pow_bd2 {a : Nat} (h : a ≤ 30) : 1 ≤ 2 ^ a ∧ 2 ^ a ≤ 1073741824 := by
  refine ⟨Nat.one_le_two_pow, ?_⟩
  exact Nat.le_trans (Nat.pow_le_pow_right (by decide) h) (by decide)

/-- A call that yields some bool. -/
def SomeB (e : Ending) : Prop := ∃ b, e = .returned (.bool b)
set_option maxRecDepth 100000 in
set_option maxHeartbeats 2000000 in
theorem heavy_any (ao : Option Addr) (cap n : Nat) (x y z : Int) (lo : Option Addr) (ln lcap : Nat) (most : Int) (w : World) (hn : n ≤ 9223372036854775807) (hl : ln ≤ 9223372036854775807) :
    Calls Tryd.prog 24 #[.agg #[.slice ao n cap, .int .i64 x, .int .i64 y, .int .i64 z], .slice lo ln lcap, .int .i64 most] w fun e w' => SomeB e ∧ Mod noB w w' := by
  have HF := Hold.mk (show Kept (w.alloc (.cells #[.slice ao n cap, .int .i64 x, .int .i64 y, .int .i64 z] 24)) (fun W => W.heap[w.heap.size]? = some (.cells #[.slice ao n cap, .int .i64 x, .int .i64 y, .int .i64 z] 24) ∧ Mod noB w W) from fun W h => ⟨h.at (World.alloc_heap_new w _) id, ((Mod.refl noB w).alloc _).trans h⟩)
  by_cases h1 : 5 < (n : Int)
  · go_enter Tryd.func24, Tryd.ntmps24
    go_wp2
    go_ret
    exact ⟨⟨_, rfl⟩, HF.out.now.2⟩
  · by_cases h2 : 7 < (ln : Int)
    · go_enter Tryd.func24, Tryd.ntmps24
      go_wp2
      go_ret
      exact ⟨⟨_, rfl⟩, HF.out.now.2⟩
    · go_enter Tryd.func24, Tryd.ntmps24
      go_wp2
      generalize w.alloc (.cells #[.slice ao n cap, .int .i64 x, .int .i64 y, .int .i64 z] 24) = W0 at *
      go_loopw [7, 8] (fun v i wr => ∃ k p : Nat, 1 ≤ k ∧ (k ≤ ln ∨ k = 1) ∧ i = .int .i64 k ∧ v = .int .i64 p ∧ p = 2 ^ (n * (k - 1)) ∧ Mod noB W0 wr) (fun _ i _ => ln - (intOf i).toNat)
      case atStart => exact ⟨1, 1, Nat.le_refl _, .inr rfl, rfl, rfl, rfl, Mod.refl _ _⟩
      case round =>
        obtain ⟨k, p, hk1, hk2, rfl, rfl, hp, hm⟩ := hrel
        have HW := Hold.mk (HF.out.later hm)
        have HM := Hold.mk hm
        have ga := cellsAt HW.out.now.1 0
        clear hm
        by_cases hlt : k < ln
        · have hle : n * (k - 1) ≤ 25 := Nat.le_trans (Nat.mul_le_mul (by omega : n ≤ 5) (by omega : k - 1 ≤ 5)) (by decide)
          have hpb := pow_bd2 (a := n * (k - 1)) (by omega)
          have hnx : p * 2 ^ n = 2 ^ (n * (k + 1 - 1)) := by
            rw [hp, ← Nat.pow_add]
            congr 1
            have : k + 1 - 1 = (k - 1) + 1 := by omega
            rw [this, Nat.mul_add, Nat.mul_one]
          have hpw := pow_bd (n := n) (by omega)
          rw [← hp] at hpb
          have HNX := Hold.mk hnx
          have hw64 : wrap64 ((p : Int) * 2 ^ n) = ((p * 2 ^ n : Nat) : Int) := by
            have e : (p : Int) * 2 ^ n = ((p * 2 ^ n : Nat) : Int) := by push_cast; rfl
            rw [e]; exact IntWalk.wrap64_in _ (by have := Nat.mul_le_mul hpb.2 hpw.2; have h0 := Nat.zero_le (p * 2 ^ n); generalize p * 2 ^ n = v at *; omega)
          clear hp hnx hle
          go_wp2
          go_roundw
          case rel => exact ⟨k + 1, p * 2 ^ n, by omega, by omega, by go_num, by rw [hw64], HNX.out, HM.out⟩
          case measure => simp [intOf]; omega
        · have hnl : ¬ (k : Int) < (ln : Int) := by omega
          clear hp
          go_wp2
          go_ret
          exact ⟨⟨_, rfl⟩, HW.out.now.2⟩
end Go.Proofs.YtdncppempgpooaaDoor

/- The smallest functions of cut and of the document's answers: what each call returns; nothing that was there before is changed. -/
import Derived.Test.YtogalmkeipigeaaMap
import Derived.Test.YtogalmkeipigeaaLoop
import Derived.WalkLawsBesides
import Derived.BigQuiet
import Derived.Deep.QuietTactic
set_option linter.unusedSimpArgs false
set_option linter.unusedVariables false
namespace Go.Proofs.Ytogalmkeipigeaa
open Go.RowKit

@[reducible] def picV (W H N : Int) (mb : Nat) : Value := .agg #[.int .i64 W, .int .i64 H, .int .i64 N, .map (some mb)]

/-- The piece of a cell; -1 outside the picture. -/
def atG (g : Int × Int → Option Int) (p : Int × Int) : Int := (g p).getD (-1)

set_option maxRecDepth 100000 in
set_option maxHeartbeats 400000 in
theorem at_any (W H N : Int) (mb : Nat) (p : Int × Int) (w : World) (g : Int × Int → Option Int) (hm : MapIs Try.prog 106 cellV w mb g) (h1 : wf64 p.1) (h2 : wf64 p.2) :
    Calls Try.prog 71 #[picV W H N mb, cellV p] w fun e w' => e = .returned (.int .i64 (atG g p)) ∧ Below w.heap.size w w' := by
  obtain ⟨l, hl⟩ := key106 h1 h2
  have hrun := ((hm.alloc (.cells #[.int .i64 W, .int .i64 H, .int .i64 N, .map (some mb)] 71)).alloc (.cells #[.int .i64 p.1, .int .i64 p.2] 106)).look2 law106 hl Try.underlying69 (zero3 _)
  cases hg : g p with
  | none =>
    simp only [hg, Option.getD_none, Option.isSome_none] at hrun
    have HG := Hold.mk hg
    clear hm hg
    go_enter Try.func71, Try.ntmps71
    go_wp2
    go_ret
    exact ⟨by rw [atG, HG.out]; rfl, ((Below.refl _ _).alloc (Nat.le_refl _) _).alloc (by simp) _⟩
  | some n =>
    simp only [hg, Option.getD_some, Option.isSome_some] at hrun
    have HG := Hold.mk hg
    clear hm hg
    go_enter Try.func71, Try.ntmps71
    go_wp2
    go_ret
    exact ⟨by rw [atG, HG.out]; rfl, ((Below.refl _ _).alloc (Nat.le_refl _) _).alloc (by simp) _⟩

set_option maxHeartbeats 400000 in
theorem in_any (n lo hi : Int) (w : World) :
    Calls Try.prog 59 #[.int .i64 n, .int .i64 lo, .int .i64 hi] w fun e w' => e = .returned (.bool (decide (lo ≤ n) && decide (n ≤ hi))) ∧ w = w' := by
  by_cases h1 : lo ≤ n <;> by_cases h2 : n ≤ hi
  all_goals
    go_enter Try.func59, Try.ntmps59
    go_wp2
    go_ret
    exact ⟨by simp [h1, h2], rfl⟩

set_option maxHeartbeats 400000 in
theorem isCut1_any (n : Int) (w : World) :
    Calls Try.prog 61 #[.int .i64 n] w fun e w' => e = .returned (.bool (decide (n < 0) || decide (40 ≤ n))) ∧ w = w' := by
  by_cases h1 : n < 0 <;> by_cases h2 : 40 ≤ n
  all_goals
    go_enter Try.func61, Try.ntmps61
    go_wp2
    go_ret
    exact ⟨by simp [h1, h2], rfl⟩

set_option maxHeartbeats 400000 in
theorem count1_any (n : Int) (w : World) :
    Calls Try.prog 67 #[.int .i64 n] w fun e w' => e = .returned (.bool (decide (1 < n))) ∧ w = w' := by
  by_cases h1 : 1 < n
  all_goals
    go_enter Try.func67, Try.ntmps67
    go_wp2
    go_ret
    exact ⟨by simp [h1], rfl⟩

set_option maxHeartbeats 400000 in
theorem has_any (W H N : Int) (mb : Nat) (n : Int) (w : World) :
    Calls Try.prog 47 #[picV W H N mb, .int .i64 n] w fun e w' => e = .returned (.bool (decide (0 ≤ n) && decide (n < N))) ∧ Below w.heap.size w w' := by
  by_cases h1 : 0 ≤ n <;> by_cases h2 : n < N
  all_goals
    go_enter Try.func47, Try.ntmps47
    go_wp2
    go_ret
    exact ⟨by simp [h1, h2], (Below.refl _ _).alloc (Nat.le_refl _) _⟩

theorem at_two (W H N : Int) (mb : Nat) (a b : Int) (w : World) (g : Int × Int → Option Int) (hm : MapIs Try.prog 106 cellV w mb g) (h1 : wf64 a) (h2 : wf64 b) :
    Calls Try.prog 71 #[.agg #[.int .i64 W, .int .i64 H, .int .i64 N, .map (some mb)], .agg #[.int .i64 a, .int .i64 b]] w fun e w' => e = .returned (.int .i64 (atG g (a, b))) ∧ Mod noB w w' :=
  (at_any W H N mb (a, b) w g hm h1 h2).mono fun _ _ h => ⟨h.1, Mod.of_below h.2 rfl⟩
end Go.Proofs.Ytogalmkeipigeaa

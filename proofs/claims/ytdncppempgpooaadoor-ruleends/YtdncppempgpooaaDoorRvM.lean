/- The document's in, span. -/
import Derived.Test.YtdncppempgpooaaDoorRuU
set_option linter.unusedSimpArgs false
set_option linter.unusedVariables false
namespace Go.Proofs.YtdncppempgpooaaDoor
open Go.RowKit Go.Shelf

set_option maxHeartbeats 400000 in
theorem refIn_any (n lo hi : Int) (w : World) : Calls Tryd.prog 43 #[.int .i64 n, .int .i64 lo, .int .i64 hi] w fun e w' => e = .returned (.bool (fromB lo hi n)) ∧ w' = w := by
  by_cases h1 : lo ≤ n <;> by_cases h2 : n ≤ hi
  all_goals
    have he : Hold (fromB lo hi n = (decide (lo ≤ n) && decide (n ≤ hi))) := ⟨rfl⟩
    go_enter Tryd.func43, Tryd.ntmps43
    go_wp2
    go_ret
    exact ⟨by rw [he.out]; simp [*]; try omega, rfl⟩

def spanB (lo hi : Int) (s : Int × Int) : Bool := decide (lo ≤ s.1) && decide (s.1 ≤ s.2) && decide (s.2 ≤ hi)
set_option maxHeartbeats 400000 in
theorem refSpan_any (s : Int × Int) (lo hi : Int) (w : World) : Calls Tryd.prog 59 #[spV s, .int .i64 lo, .int .i64 hi] w fun e w' => e = .returned (.bool (spanB lo hi s)) ∧ Mod noB w w' := by
  obtain ⟨a, b⟩ := s
  by_cases h1 : lo ≤ a <;> by_cases h2 : a ≤ b <;> by_cases h3 : b ≤ hi
  all_goals
    have he : Hold (spanB lo hi (a, b) = (decide (lo ≤ a) && decide (a ≤ b) && decide (b ≤ hi))) := ⟨rfl⟩
    go_enter Tryd.func59, Tryd.ntmps59
    go_wp2
    go_ret
    exact ⟨by rw [he.out]; simp [*]; try omega, (Mod.refl _ _).alloc _⟩
theorem spanB_away (s : Int × Int) : spanB 0 10000 s = awayB s := rfl
end Go.Proofs.YtdncppempgpooaaDoor

/- The document's Both and DifferBy. -/
import Derived.Test.YtnjbamikfjdofaaRefA
set_option linter.unusedSimpArgs false
set_option linter.unusedVariables false
namespace Go.Proofs.Ytnjbamikfjdofaa
open Go.RowKit Go.Shelf

/-- A tab and a hole of two sides; none: the sides as they came. -/
def bothR (a b : Edg) : (Edg × Edg) × Bool := if a.k = 1 ∧ b.k = 2 then ((a, b), true) else if b.k = 1 ∧ a.k = 2 then ((b, a), true) else ((a, b), false)

theorem both_ordered (a b : Edg) : (bothR a b).2 = (orderedR a b).2 ∧ ((bothR a b).2 = true → (bothR a b).1 = (orderedR a b).1) := by
  unfold bothR orderedR
  by_cases h1 : a.k = 1 <;> by_cases h2 : b.k = 2 <;> by_cases h3 : b.k = 1 <;> by_cases h4 : a.k = 2 <;> simp_all

set_option maxRecDepth 100000 in
set_option maxHeartbeats 4000000 in
theorem both_any (a b : Edg) (w : World) : Calls Try.prog 37 #[edV a, edV b] w fun r w' => r = .returned (.tuple #[edV (bothR a b).1.1, edV (bothR a b).1.2, .bool (bothR a b).2]) ∧ Mod noB w w' := by
  obtain ⟨ak, aa, aw, ad⟩ := a
  obtain ⟨bk, ba, bw, bd⟩ := b
  by_cases h : ak = 1 ∧ bk = 2
  · obtain ⟨rfl, rfl⟩ := h
    go_enter Try.func37, Try.ntmps37
    go_wp2
    go_region
    all_goals go_wp2
    all_goals
      refine bodyPost_ret (v := .tuple #[edV ⟨1, aa, aw, ad⟩, edV ⟨2, ba, bw, bd⟩, .bool true]) (by simp [results, Try.results37, go_sem, *]) rfl ⟨rfl, ?_⟩
      exact (((((Mod.refl _ _).alloc _).alloc _).alloc _).alloc _).drew
  · by_cases h2 : bk = 1 ∧ ak = 2
    · obtain ⟨rfl, rfl⟩ := h2
      go_enter Try.func37, Try.ntmps37
      go_wp2
      go_region
      all_goals go_wp2
      all_goals
        refine bodyPost_ret (v := .tuple #[edV ⟨1, ba, bw, bd⟩, edV ⟨2, aa, aw, ad⟩, .bool true]) (by simp [results, Try.results37, go_sem, *]) rfl ⟨rfl, ?_⟩
        exact (((((Mod.refl _ _).alloc _).alloc _).alloc _).alloc _).drew
    · have hR : Hold (bothR ⟨ak, aa, aw, ad⟩ ⟨bk, ba, bw, bd⟩ = ((⟨ak, aa, aw, ad⟩, ⟨bk, ba, bw, bd⟩), false)) := ⟨by simp only [bothR, h, h2, if_false]⟩
      rw [hR.out]
      clear hR
      by_cases h3 : ak = 1 <;> by_cases h4 : bk = 1
      · have h5 : ¬ bk = 2 := fun e => h ⟨h3, e⟩
        have h6 : ¬ ak = 2 := fun e => h2 ⟨h4, e⟩
        subst h3; subst h4
        go_enter Try.func37, Try.ntmps37
        go_wp2
        go_region
        all_goals go_wp2
        all_goals
          refine bodyPost_ret (v := .tuple #[edV ⟨1, aa, aw, ad⟩, edV ⟨1, ba, bw, bd⟩, .bool false]) (by simp [results, Try.results37, go_sem, *]) rfl ⟨rfl, ?_⟩
          exact (((((Mod.refl _ _).alloc _).alloc _).alloc _).alloc _).drew
      · have h5 : ¬ bk = 2 := fun e => h ⟨h3, e⟩
        subst h3
        clear h h2
        go_enter Try.func37, Try.ntmps37
        go_wp2
        go_region
        all_goals go_wp2
        all_goals
          refine bodyPost_ret (v := .tuple #[edV ⟨1, aa, aw, ad⟩, edV ⟨bk, ba, bw, bd⟩, .bool false]) (by simp [results, Try.results37, go_sem, *]) rfl ⟨rfl, ?_⟩
          exact (((((Mod.refl _ _).alloc _).alloc _).alloc _).alloc _).drew
      · have h6 : ¬ ak = 2 := fun e => h2 ⟨h4, e⟩
        subst h4
        clear h h2
        go_enter Try.func37, Try.ntmps37
        go_wp2
        go_region
        all_goals go_wp2
        all_goals
          refine bodyPost_ret (v := .tuple #[edV ⟨ak, aa, aw, ad⟩, edV ⟨1, ba, bw, bd⟩, .bool false]) (by simp [results, Try.results37, go_sem, *]) rfl ⟨rfl, ?_⟩
          exact (((((Mod.refl _ _).alloc _).alloc _).alloc _).alloc _).drew
      · clear h h2
        go_enter Try.func37, Try.ntmps37
        go_wp2
        go_region
        all_goals go_wp2
        all_goals
          refine bodyPost_ret (v := .tuple #[edV ⟨ak, aa, aw, ad⟩, edV ⟨bk, ba, bw, bd⟩, .bool false]) (by simp [results, Try.results37, go_sem, *]) rfl ⟨rfl, ?_⟩
          exact (((((Mod.refl _ _).alloc _).alloc _).alloc _).alloc _).drew
end Go.Proofs.Ytnjbamikfjdofaa

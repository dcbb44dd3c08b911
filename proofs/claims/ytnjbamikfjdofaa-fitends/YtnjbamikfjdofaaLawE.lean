/- FitEnds: what is between a tab and a hole: the walk where there is none. -/
import Derived.Test.YtnjbamikfjdofaaEndsM
import Derived.Test.YtnjbamikfjdofaaAnew
import Derived.Test.YtnjbamikfjdofaaRefB
import Derived.Deep.DeepCutAuto
import Derived.Deep.CutRange
set_option linter.unusedSimpArgs false
set_option linter.unusedVariables false
namespace Go.Proofs.Ytnjbamikfjdofaa
open Go.RowKit Go.Shelf

/-- What came in lies in three blocks. -/
def EK (p : Ply) (a b : Edg) (w w' : World) : Prop := ((Mod noB w w' ∧ w'.heap[w.heap.size]? = some (.cells (plC p) 25)) ∧ w'.heap[w.heap.size + 1]? = some (.cells (edC a) 27)) ∧ w'.heap[w.heap.size + 1 + 1]? = some (.cells (edC b) 27)
theorem ek_kept (p : Ply) (a b : Edg) (w : World) : Kept (((w.alloc (.cells (plC p) 25)).alloc (.cells (edC a) 27)).alloc (.cells (edC b) 27)) (EK p a b w) := fun w' h => by
  rw [allocL3] at h
  exact ⟨⟨⟨(allocL_mod noB _ w).trans h, at_allocL _ h 0 _ rfl⟩, at_allocL _ h 1 _ rfl⟩, at_allocL _ h 2 _ rfl⟩

set_option maxRecDepth 100000 in
set_option maxHeartbeats 4000000 in
theorem ends_err (p : Ply) (a b : Edg) (w : World) (er ef N : Int) (hc : er = 1 ∧ ef = 1 ∨ er = 6 ∧ ef = 0)
    (F1 : Hold (∀ w, Calls Try.prog 15 #[plV p, edV a, edV b] w fun e w' => e = .returned (.tuple #[.int .i64 N, .int .i64 ef]) ∧ Mod noB w w'))
    (G1 : Hold (∀ w, Calls Try.prog 17 #[plV p, edV a, edV b] w fun e w' => e = .returned (.tuple #[gpV zeroG, .int .i64 er]) ∧ Mod noB w w')) :
    Calls Try.prog 8 #[plV p, edV a, edV b] w fun e w' => e = .returned (.bool true) ∧ Mod noB w w' := by
  have HF := Hold.mk (ek_kept p a b w)
  rcases hc with ⟨rfl, rfl⟩ | ⟨rfl, rfl⟩
  all_goals
    go_enter Try.func8, Try.ntmps8
    go_wp2_with (first
      | (go_at_call 17; refine (G1.out _).mono ?_; rintro e w1 ⟨rfl, hM⟩; replace HF := Hold.mk (HF.out.later hM); obtain ⟨p0, p1, p2, p3, p4⟩ := PlayAt.of HF.out.now.1.1.2; have hp := at_ltS HF.out.now.1.1.2; obtain ⟨a0, a1, a2, a3, a4, a5, a6⟩ := EdgeAt.of HF.out.now.1.2; have ha := at_ltS HF.out.now.1.2; obtain ⟨b0, b1, b2, b3, b4, b5, b6⟩ := EdgeAt.of HF.out.now.2; have hb := at_ltS HF.out.now.2; clear hM)
      | (go_at_call 15; refine (F1.out _).mono ?_; rintro e w2 ⟨rfl, hM⟩; clear p0 p1 p2 p3 p4 hp a0 a1 a2 a3 a4 a5 a6 ha b0 b1 b2 b3 b4 b5 b6 hb; replace HF := Hold.mk ((HF.out.later (((Mod.refl noB w1).alloc _).trans hM)).and (kept_block (hM.at (World.alloc_heap_new w1 _) id))); have x0 := cellsAt HF.out.now.2 0; have x1 := cellsAt HF.out.now.2 1; have x2 := cellsAt HF.out.now.2 2; have x3 := cellsAt HF.out.now.2 3; have x4 := cellsAt HF.out.now.2 4; have x5 := cellsAt HF.out.now.2 5; have hx := at_ltS HF.out.now.2; clear hM)
      | (go_at_call 21; refine (alive_any _).mono ?_; rintro e w9 ⟨rfl, hM⟩; replace HF := Hold.mk (HF.out.later hM); clear hM))
    go_ret
    exact ⟨rfl, HF.out.now.1.1.1.1⟩
end Go.Proofs.Ytnjbamikfjdofaa

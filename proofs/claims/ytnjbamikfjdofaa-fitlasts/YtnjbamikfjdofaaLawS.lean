/- FitSides: Fit, Between and Worn return the document's numbers, spans and sides. -/
import Derived.Test.YtnjbamikfjdofaaRefG
import Derived.Test.YtnjbamikfjdofaaRefI
import Derived.Test.YtnjbamikfjdofaaAlive
set_option linter.unusedSimpArgs false
set_option linter.unusedVariables false
namespace Go.Proofs.Ytnjbamikfjdofaa
open Go.RowKit Go.Shelf

theorem law_kept (p : Ply) (a b : Edg) (r : Int × Int) (w : World) : Kept ((((w.alloc (.cells (plC p) 25)).alloc (.cells (edC a) 27)).alloc (.cells (edC b) 27)).alloc (.cells #[.int .i64 r.1, .int .i64 r.2] 23)) (fun w' => (((Mod noB w w' ∧ w'.heap[w.heap.size]? = some (.cells (plC p) 25)) ∧ w'.heap[w.heap.size + 1]? = some (.cells (edC a) 27)) ∧ w'.heap[w.heap.size + 1 + 1]? = some (.cells (edC b) 27)) ∧ w'.heap[w.heap.size + 1 + 1 + 1]? = some (.cells #[.int .i64 r.1, .int .i64 r.2] 23)) := fun w' h => by
  rw [allocL4] at h
  exact ⟨⟨⟨⟨(allocL_mod noB _ w).trans h, at_allocL _ h 0 _ rfl⟩, at_allocL _ h 1 _ rfl⟩, at_allocL _ h 2 _ rfl⟩, at_allocL _ h 3 _ rfl⟩

set_option maxRecDepth 100000 in
set_option maxHeartbeats 8000000 in
theorem sides_walk (p : Ply) (a b : Edg) (r : Int × Int) (n : Int) (w : World) (k e1 : Int) (g : Gp) (e2 : Int) (x : Edg) (e3 : Int)
    (F1 : Hold (∀ w, Calls Try.prog 15 #[plV p, edV a, edV b] w fun e w' => e = .returned (.tuple #[.int .i64 k, .int .i64 e1]) ∧ Mod noB w w'))
    (F2 : Hold (∀ w, Calls Try.prog 16 #[plV p, edV a, edV b] w fun e w' => e = .returned (.tuple #[.int .i64 k, .int .i64 e1]) ∧ Mod noB w w'))
    (G1 : Hold (∀ w, Calls Try.prog 17 #[plV p, edV a, edV b] w fun e w' => e = .returned (.tuple #[gpV g, .int .i64 e2]) ∧ Mod noB w w'))
    (G2 : Hold (∀ w, Calls Try.prog 18 #[plV p, edV a, edV b] w fun e w' => e = .returned (.tuple #[gpV g, .int .i64 e2]) ∧ Mod noB w w'))
    (W1 : Hold (∀ w, Calls Try.prog 19 #[edV a, spV r, .int .i64 n] w fun e w' => e = .returned (.tuple #[edV x, .int .i64 e3]) ∧ Mod noB w w'))
    (W2 : Hold (∀ w, Calls Try.prog 20 #[edV a, spV r, .int .i64 n] w fun e w' => e = .returned (.tuple #[edV x, .int .i64 e3]) ∧ Mod noB w w')) :
    Calls Try.prog 3 #[plV p, edV a, edV b, spV r, .int .i64 n] w fun e w' => e = .returned (.bool true) ∧ Mod noB w w' := by
  have HF := Hold.mk (law_kept p a b r w)
  go_enter Try.func3, Try.ntmps3
  go_wp2_with (first
    | (go_at_call 15; refine (F1.out _).mono ?_; rintro e w1 ⟨rfl, hM⟩; have HF := Hold.mk (HF.out.later hM); obtain ⟨p0, p1, p2, p3, p4⟩ := PlayAt.of HF.out.now.1.1.1.2; have hp := at_lt HF.out.now.1.1.1.2; obtain ⟨a0, a1, a2, a3, a4, a5, a6⟩ := EdgeAt.of HF.out.now.1.1.2; have ha := at_lt HF.out.now.1.1.2; obtain ⟨b0, b1, b2, b3, b4, b5, b6⟩ := EdgeAt.of HF.out.now.1.2; have hb := at_lt HF.out.now.1.2; clear hM)
    | (go_at_call 16; refine (F2.out _).mono ?_; rintro e w2 ⟨rfl, hM⟩; clear p0 p1 p2 p3 p4 hp a0 a1 a2 a3 a4 a5 a6 ha b0 b1 b2 b3 b4 b5 b6 hb; have HF := Hold.mk (HF.out.later hM); obtain ⟨p0, p1, p2, p3, p4⟩ := PlayAt.of HF.out.now.1.1.1.2; have hp := at_lt HF.out.now.1.1.1.2; obtain ⟨a0, a1, a2, a3, a4, a5, a6⟩ := EdgeAt.of HF.out.now.1.1.2; have ha := at_lt HF.out.now.1.1.2; obtain ⟨b0, b1, b2, b3, b4, b5, b6⟩ := EdgeAt.of HF.out.now.1.2; have hb := at_lt HF.out.now.1.2; clear hM)
    | (go_at_call 17; refine (G1.out _).mono ?_; rintro e w3 ⟨rfl, hM⟩; clear p0 p1 p2 p3 p4 hp a0 a1 a2 a3 a4 a5 a6 ha b0 b1 b2 b3 b4 b5 b6 hb; have HF := Hold.mk (HF.out.later hM); obtain ⟨p0, p1, p2, p3, p4⟩ := PlayAt.of HF.out.now.1.1.1.2; have hp := at_lt HF.out.now.1.1.1.2; obtain ⟨a0, a1, a2, a3, a4, a5, a6⟩ := EdgeAt.of HF.out.now.1.1.2; have ha := at_lt HF.out.now.1.1.2; obtain ⟨b0, b1, b2, b3, b4, b5, b6⟩ := EdgeAt.of HF.out.now.1.2; have hb := at_lt HF.out.now.1.2; clear hM)
    | (go_at_call 18; refine (G2.out _).mono ?_; rintro e w4 ⟨rfl, hM⟩; clear p0 p1 p2 p3 p4 hp a0 a1 a2 a3 a4 a5 a6 ha b0 b1 b2 b3 b4 b5 b6 hb; have HF := Hold.mk ((HF.out.later (((Mod.refl noB w3).alloc _).trans hM)).and (kept_block (hM.at (World.alloc_heap_new w3 _) id))); obtain ⟨a0, a1, a2, a3, a4, a5, a6⟩ := EdgeAt.of HF.out.now.1.1.1.2; have ha := at_lt HF.out.now.1.1.1.2; have r0 := cellsAt HF.out.now.1.2 0; have r1 := cellsAt HF.out.now.1.2 1; have hr := at_lt HF.out.now.1.2; clear hM)
    | (go_at_call 19; refine (W1.out _).mono ?_; rintro e w5 ⟨rfl, hM⟩; clear a0 a1 a2 a3 a4 a5 a6 ha r0 r1 hr; have HF := Hold.mk ((HF.out.later (((Mod.refl noB w4).alloc _).trans hM)).and (kept_block (hM.at (World.alloc_heap_new w4 _) id))); obtain ⟨a0, a1, a2, a3, a4, a5, a6⟩ := EdgeAt.of HF.out.now.1.1.1.1.2; have ha := at_lt HF.out.now.1.1.1.1.2; have r0 := cellsAt HF.out.now.1.1.2 0; have r1 := cellsAt HF.out.now.1.1.2 1; have hr := at_lt HF.out.now.1.1.2; clear hM)
    | (go_at_call 20; refine (W2.out _).mono ?_; rintro e w6 ⟨rfl, hM⟩; clear a0 a1 a2 a3 a4 a5 a6 ha r0 r1 hr; have HF := Hold.mk ((HF.out.later (((Mod.refl noB w5).alloc _).trans hM)).and (kept_block (hM.at (World.alloc_heap_new w5 _) id)))
       have x0 := cellsAt HF.out.now.1.1.2 0; have x1 := cellsAt HF.out.now.1.1.2 1; have x2 := cellsAt HF.out.now.1.1.2 2; have x3 := cellsAt HF.out.now.1.1.2 3; have x4 := cellsAt HF.out.now.1.1.2 4; have x5 := cellsAt HF.out.now.1.1.2 5; have hx := at_lt HF.out.now.1.1.2
       have y0 := cellsAt HF.out.now.1.2 0; have y1 := cellsAt HF.out.now.1.2 1; have y2 := cellsAt HF.out.now.1.2 2; have y3 := cellsAt HF.out.now.1.2 3; have y4 := cellsAt HF.out.now.1.2 4; have y5 := cellsAt HF.out.now.1.2 5; have hy := at_lt HF.out.now.1.2
       obtain ⟨z0, z1, z2, z3, z4, z5, z6⟩ := EdgeAt.of (e := x) HF.out.now.2; have hz := at_lt HF.out.now.2
       clear hM)
    | (go_at_call 21; refine (alive_any _).mono ?_; rintro e w7 ⟨rfl, hM⟩; have HF := Hold.mk (HF.out.later (((Mod.refl noB w6).alloc _).trans hM)); clear hM))
  go_ret
  exact ⟨rfl, HF.out.now.1.1.1.1.1.1.1⟩

theorem fitSides_any (p : Ply) (a b : Edg) (r : Int × Int) (n : Int) (w : World) :
    Calls Try.prog 3 #[plV p, edV a, edV b, spV r, .int .i64 n] w fun e w' => e = .returned (.bool true) ∧ Mod noB w w' :=
  sides_walk p a b r n w _ _ _ _ _ _ ⟨fun w => fit_any p a b w⟩ ⟨fun w => refFit_any p a b w⟩ ⟨fun w => between_any p a b w⟩ ⟨fun w => refBetween_any p a b w⟩ ⟨fun w => wornE_any a r n w⟩ ⟨fun w => refWorn_any a r n w⟩
end Go.Proofs.Ytnjbamikfjdofaa

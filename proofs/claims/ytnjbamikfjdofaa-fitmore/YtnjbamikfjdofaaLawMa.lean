/- FitMore: the walk where there is no verdict. -/
import Derived.Test.YtnjbamikfjdofaaAnew
import Derived.Deep.DeepCutAuto
import Derived.Deep.CutRange
set_option linter.unusedSimpArgs false
set_option linter.unusedVariables false
namespace Go.Proofs.Ytnjbamikfjdofaa
open Go.RowKit Go.Shelf

set_option maxRecDepth 100000 in
set_option maxHeartbeats 8000000 in
theorem more_err (p : Ply) (a b : Edg) (r : Int × Int) (c : Int) (w : World)
    (F1 : Hold (∀ w, Calls Try.prog 15 #[plV p, edV a, edV b] w fun e w' => e = .returned (.tuple #[.int .i64 0, .int .i64 1]) ∧ Mod noB w w'))
    (G1 : Hold (∀ w, Calls Try.prog 17 #[plV p, edV a, edV b] w fun e w' => e = .returned (.tuple #[gpV zeroG, .int .i64 1]) ∧ Mod noB w w'))
    (L1 : Hold (∀ w, Calls Try.prog 22 #[plV p, edV a, edV b, spV r] w fun e w' => e = .returned (.tuple #[.int .i64 0, .int .i64 0, .int .i64 1]) ∧ Mod noB w w'))
    (F2 : Hold (∀ w, Calls Try.prog 15 #[plV p, edV b, edV a] w fun e w' => e = .returned (.tuple #[.int .i64 0, .int .i64 1]) ∧ Mod noB w w'))
    (G2 : Hold (∀ w, Calls Try.prog 17 #[plV p, edV b, edV a] w fun e w' => e = .returned (.tuple #[gpV zeroG, .int .i64 1]) ∧ Mod noB w w'))
    (L2 : Hold (∀ w, Calls Try.prog 22 #[plV p, edV b, edV a, spV r] w fun e w' => e = .returned (.tuple #[.int .i64 0, .int .i64 0, .int .i64 1]) ∧ Mod noB w w')) :
    Calls Try.prog 12 #[plV p, edV a, edV b, spV r, .int .u8 c] w fun e w' => e = .returned (.bool true) ∧ Mod noB w w' := by
  have HF := Hold.mk (lk_kept p a b r w)
  go_enter Try.func12, Try.ntmps12
  go_wp2_with (first
    | (go_at_call 15; have Kx := F1; refine (F1.out _).mono ?_; rintro e w1 ⟨rfl, hM⟩; replace HF := Hold.mk (HF.out.later hM); obtain ⟨p0, p1, p2, p3, p4⟩ := PlayAt.of HF.out.now.1.1.1.2; have hp := at_ltS HF.out.now.1.1.1.2; obtain ⟨a0, a1, a2, a3, a4, a5, a6⟩ := EdgeAt.of HF.out.now.1.1.2; have ha := at_ltS HF.out.now.1.1.2; obtain ⟨b0, b1, b2, b3, b4, b5, b6⟩ := EdgeAt.of HF.out.now.1.2; have hb := at_ltS HF.out.now.1.2; have r0 := cellsAt HF.out.now.2 0; have r1 := cellsAt HF.out.now.2 1; have hr := at_ltS HF.out.now.2; clear hM F1 Kx)
    | (go_at_call 15; have Kx := F2; refine (F2.out _).mono ?_; rintro e w2 ⟨rfl, hM⟩; clear p0 p1 p2 p3 p4 hp a0 a1 a2 a3 a4 a5 a6 ha b0 b1 b2 b3 b4 b5 b6 hb r0 r1 hr; replace HF := Hold.mk (HF.out.later hM); obtain ⟨p0, p1, p2, p3, p4⟩ := PlayAt.of HF.out.now.1.1.1.2; have hp := at_ltS HF.out.now.1.1.1.2; obtain ⟨a0, a1, a2, a3, a4, a5, a6⟩ := EdgeAt.of HF.out.now.1.1.2; have ha := at_ltS HF.out.now.1.1.2; obtain ⟨b0, b1, b2, b3, b4, b5, b6⟩ := EdgeAt.of HF.out.now.1.2; have hb := at_ltS HF.out.now.1.2; have r0 := cellsAt HF.out.now.2 0; have r1 := cellsAt HF.out.now.2 1; have hr := at_ltS HF.out.now.2; clear hM F2 Kx)
    | (go_at_call 17; have Kx := G1; refine (G1.out _).mono ?_; rintro e w3 ⟨rfl, hM⟩; clear p0 p1 p2 p3 p4 hp a0 a1 a2 a3 a4 a5 a6 ha b0 b1 b2 b3 b4 b5 b6 hb r0 r1 hr; replace HF := Hold.mk (HF.out.later hM); obtain ⟨p0, p1, p2, p3, p4⟩ := PlayAt.of HF.out.now.1.1.1.2; have hp := at_ltS HF.out.now.1.1.1.2; obtain ⟨a0, a1, a2, a3, a4, a5, a6⟩ := EdgeAt.of HF.out.now.1.1.2; have ha := at_ltS HF.out.now.1.1.2; obtain ⟨b0, b1, b2, b3, b4, b5, b6⟩ := EdgeAt.of HF.out.now.1.2; have hb := at_ltS HF.out.now.1.2; have r0 := cellsAt HF.out.now.2 0; have r1 := cellsAt HF.out.now.2 1; have hr := at_ltS HF.out.now.2; clear hM G1 Kx)
    | (go_at_call 17; have Kx := G2; refine (G2.out _).mono ?_; rintro e w4 ⟨rfl, hM⟩; clear p0 p1 p2 p3 p4 hp a0 a1 a2 a3 a4 a5 a6 ha b0 b1 b2 b3 b4 b5 b6 hb r0 r1 hr; replace HF := Hold.mk ((HF.out.later (((Mod.refl noB w3).alloc _).trans hM)).and (kept_block (hM.at (World.alloc_heap_new w3 _) id))); obtain ⟨p0, p1, p2, p3, p4⟩ := PlayAt.of HF.out.now.1.1.1.1.2; have hp := at_ltS HF.out.now.1.1.1.1.2; obtain ⟨a0, a1, a2, a3, a4, a5, a6⟩ := EdgeAt.of HF.out.now.1.1.1.2; have ha := at_ltS HF.out.now.1.1.1.2; obtain ⟨b0, b1, b2, b3, b4, b5, b6⟩ := EdgeAt.of HF.out.now.1.1.2; have hb := at_ltS HF.out.now.1.1.2; have r0 := cellsAt HF.out.now.1.2 0; have r1 := cellsAt HF.out.now.1.2 1; have hr := at_ltS HF.out.now.1.2; clear hM G2 Kx)
    | (go_at_call 22; have Kx := L1; refine (L1.out _).mono ?_; rintro e w5 ⟨rfl, hM⟩; clear p0 p1 p2 p3 p4 hp a0 a1 a2 a3 a4 a5 a6 ha b0 b1 b2 b3 b4 b5 b6 hb r0 r1 hr; replace HF := Hold.mk ((HF.out.later (((Mod.refl noB w4).alloc _).trans hM)).and (kept_block (hM.at (World.alloc_heap_new w4 _) id))); obtain ⟨p0, p1, p2, p3, p4⟩ := PlayAt.of HF.out.now.1.1.1.1.1.2; have hp := at_ltS HF.out.now.1.1.1.1.1.2; obtain ⟨a0, a1, a2, a3, a4, a5, a6⟩ := EdgeAt.of HF.out.now.1.1.1.1.2; have ha := at_ltS HF.out.now.1.1.1.1.2; obtain ⟨b0, b1, b2, b3, b4, b5, b6⟩ := EdgeAt.of HF.out.now.1.1.1.2; have hb := at_ltS HF.out.now.1.1.1.2; have r0 := cellsAt HF.out.now.1.1.2 0; have r1 := cellsAt HF.out.now.1.1.2 1; have hr := at_ltS HF.out.now.1.1.2; clear hM L1 Kx)
    | (go_at_call 22; have Kx := L2; refine (L2.out _).mono ?_; rintro e w6 ⟨rfl, hM⟩; clear p0 p1 p2 p3 p4 hp a0 a1 a2 a3 a4 a5 a6 ha b0 b1 b2 b3 b4 b5 b6 hb r0 r1 hr; replace HF := Hold.mk (HF.out.later hM); obtain ⟨p0, p1, p2, p3, p4⟩ := PlayAt.of HF.out.now.1.1.1.1.1.2; have hp := at_ltS HF.out.now.1.1.1.1.1.2; obtain ⟨a0, a1, a2, a3, a4, a5, a6⟩ := EdgeAt.of HF.out.now.1.1.1.1.2; have ha := at_ltS HF.out.now.1.1.1.1.2; obtain ⟨b0, b1, b2, b3, b4, b5, b6⟩ := EdgeAt.of HF.out.now.1.1.1.2; have hb := at_ltS HF.out.now.1.1.1.2; have r0 := cellsAt HF.out.now.1.1.2 0; have r1 := cellsAt HF.out.now.1.1.2 1; have hr := at_ltS HF.out.now.1.1.2; have x0 := cellsAt HF.out.now.1.2 0; have x1 := cellsAt HF.out.now.1.2 1; have x2 := cellsAt HF.out.now.1.2 2; have x3 := cellsAt HF.out.now.1.2 3; have x4 := cellsAt HF.out.now.1.2 4; have x5 := cellsAt HF.out.now.1.2 5; have hx := at_ltS HF.out.now.1.2; have y0 := cellsAt HF.out.now.2 0; have y1 := cellsAt HF.out.now.2 1; have y2 := cellsAt HF.out.now.2 2; have y3 := cellsAt HF.out.now.2 3; have y4 := cellsAt HF.out.now.2 4; have y5 := cellsAt HF.out.now.2 5; have hy := at_ltS HF.out.now.2; clear hM L2 Kx)
    | (go_at_call 21; refine (alive_any _).mono ?_; rintro e w9 ⟨rfl, hM⟩; replace HF := Hold.mk (HF.out.later hM); clear hM))
  go_ret
  exact ⟨rfl, HF.out.now.1.1.1.1.1.1⟩
end Go.Proofs.Ytnjbamikfjdofaa

/- FitEnds: what is between a tab and a hole: the walk where there are both. -/
import Derived.Test.YtnjbamikfjdofaaLawEbX
import Derived.Test.YtnjbamikfjdofaaLawEbY
import Derived.Test.YtnjbamikfjdofaaLawEbZ
set_option linter.unusedSimpArgs false
set_option linter.unusedVariables false
namespace Go.Proofs.Ytnjbamikfjdofaa
open Go.RowKit Go.Shelf

set_option maxRecDepth 100000 in
set_option maxHeartbeats 32000000 in
theorem ends_ok (p : Ply) (a b t u : Edg) (x y z : Int × Int) (w : World) (N Lx Mx Ly My Lz Mz : Int) (A1 A2 A3 B1 B2 B3 : Bool)
    (pb1 : 0 ≤ p.slack) (pb2 : p.slack ≤ 500) (pb3 : 0 ≤ p.loose) (pb4 : p.loose ≤ 500) (pb5 : 0 ≤ p.damp.1) (pb6 : p.damp.1 ≤ p.damp.2) (pb7 : p.damp.2 ≤ 100)
    (HE : Hold (EndsOf N x y z p.slack p.loose p.damp A1 A2 A3 B1 B2 B3))
    (HX : Hold (Lx = min (min (x.1 * (1000 + p.damp.1)) (x.1 * (1000 + p.damp.1))) (x.1 * (1000 + p.damp.2)) ∧ Mx = max (max (x.2 * (1000 + p.damp.1)) (x.2 * (1000 + p.damp.1))) (x.2 * (1000 + p.damp.2))))
    (HY : Hold (Ly = min (min (y.1 * (1000 + p.damp.1)) (y.1 * (1000 + p.damp.1))) (y.1 * (1000 + p.damp.2)) ∧ My = max (max (y.2 * (1000 + p.damp.1)) (y.2 * (1000 + p.damp.1))) (y.2 * (1000 + p.damp.2))))
    (HZ : Hold (Lz = min (min (z.1 * (1000 + p.damp.1)) (z.1 * (1000 + p.damp.1))) (z.1 * (1000 + p.damp.2)) ∧ Mz = max (max (z.2 * (1000 + p.damp.1)) (z.2 * (1000 + p.damp.1))) (z.2 * (1000 + p.damp.2))))
    (SX : Hold (Small 10000000 x ∧ x.1 ≤ x.2)) (SY : Hold (Small 10000000 y ∧ y.1 ≤ y.2)) (SZ : Hold (Small 10000000 z ∧ z.1 ≤ z.2))
    (F1 : Hold (∀ w, Calls Try.prog 15 #[plV p, edV a, edV b] w fun e w' => e = .returned (.tuple #[.int .i64 N, .int .i64 0]) ∧ Mod noB w w'))
    (G1 : Hold (∀ w, Calls Try.prog 17 #[plV p, edV a, edV b] w fun e w' => e = .returned (.tuple #[gpV ((Lx / 1000, -(-Mx / 1000)), (Ly / 1000, -(-My / 1000)), (Lz / 1000, -(-Mz / 1000))), .int .i64 0]) ∧ Mod noB w w'))
    (HP : Hold (∀ w, Calls Try.prog 35 #[plV p] w fun e w' => e = .returned (.bool true) ∧ Mod noB w w'))
    (HO : Hold (∀ w, Calls Try.prog 37 #[edV a, edV b] w fun r w' => r = .returned (.tuple #[edV t, edV u, .bool true]) ∧ Mod noB w w'))
    (HD : Hold (∀ w, Calls Try.prog 40 #[plV p, edV t, edV u] w fun e w' => e = .returned (dfV x y z) ∧ Mod noB w w'))
    (HDn : Hold (∀ n w, (-1000000000000 ≤ n ∧ n ≤ 1000000000000) → Calls Try.prog 41 #[.int .i64 n, .int .i64 1000] w fun e w' => e = .returned (.int .i64 (n / 1000)) ∧ Mod noB w w'))
    (HUp : Hold (∀ n w, (-1000000000000 ≤ n ∧ n ≤ 1000000000000) → Calls Try.prog 42 #[.int .i64 n, .int .i64 1000] w fun e w' => e = .returned (.int .i64 (-(-n / 1000))) ∧ Mod noB w w')) :
    Calls Try.prog 8 #[plV p, edV a, edV b] w fun e w' => e = .returned (.bool true) ∧ Mod noB w w' := by
  have HF := Hold.mk (ek_kept p a b w)
  obtain ⟨g, hg⟩ : ∃ g : Gp, g = ((Lx / 1000, -(-Mx / 1000)), (Ly / 1000, -(-My / 1000)), (Lz / 1000, -(-Mz / 1000))) := ⟨_, rfl⟩
  rw [← hg] at G1
  have HG := Hold.mk hg
  clear hg
  go_enter Try.func8, Try.ntmps8
  go_wp2_with (first
    | (go_at_call 17; refine (G1.out _).mono ?_; rintro e w1 ⟨rfl, hM⟩; replace HF := Hold.mk (HF.out.later hM); obtain ⟨p0, p1, p2, p3, p4⟩ := PlayAt.of HF.out.now.1.1.2; have hp := at_ltS HF.out.now.1.1.2; obtain ⟨a0, a1, a2, a3, a4, a5, a6⟩ := EdgeAt.of HF.out.now.1.2; have ha := at_ltS HF.out.now.1.2; obtain ⟨b0, b1, b2, b3, b4, b5, b6⟩ := EdgeAt.of HF.out.now.2; have hb := at_ltS HF.out.now.2; clear hM)
    | (go_at_call 15; refine (F1.out _).mono ?_; rintro e w2 ⟨rfl, hM⟩; clear p0 p1 p2 p3 p4 hp a0 a1 a2 a3 a4 a5 a6 ha b0 b1 b2 b3 b4 b5 b6 hb; replace HF := Hold.mk ((HF.out.later (((Mod.refl noB w1).alloc _).trans hM)).and (kept_block (hM.at (World.alloc_heap_new w1 _) id))); obtain ⟨p0, p1, p2, p3, p4⟩ := PlayAt.of HF.out.now.1.1.1.2; have hp := at_ltS HF.out.now.1.1.1.2; clear hM)
    | (go_at_call 35; refine (HP.out _).mono ?_; rintro e w3 ⟨rfl, hM⟩; clear p0 p1 p2 p3 p4 hp; replace HF := Hold.mk (HF.out.later hM); obtain ⟨a0, a1, a2, a3, a4, a5, a6⟩ := EdgeAt.of HF.out.now.1.1.2; have ha := at_ltS HF.out.now.1.1.2; obtain ⟨b0, b1, b2, b3, b4, b5, b6⟩ := EdgeAt.of HF.out.now.1.2; have hb := at_ltS HF.out.now.1.2; clear hM)
    | (go_at_call 37; refine (HO.out _).mono ?_; rintro e w4 ⟨rfl, hM⟩; clear a0 a1 a2 a3 a4 a5 a6 ha b0 b1 b2 b3 b4 b5 b6 hb; replace HF := Hold.mk (HF.out.later hM); obtain ⟨p0, p1, p2, p3, p4⟩ := PlayAt.of HF.out.now.1.1.1.2; have hp := at_ltS HF.out.now.1.1.1.2; clear hM)
    | (go_at_call 40; refine (HD.out _).mono ?_; rintro e w5 ⟨rfl, hM⟩; clear p0 p1 p2 p3 p4 hp; replace HF := Hold.mk (HF.out.later ((((Mod.refl noB w4).alloc _).alloc _).trans hM)); clear hM))
  have HL : Hold (Kept ((w5.alloc (.cells (dfC x y z) 68)).alloc (.cells (dfC x y z) 23)) (EL p g x y z w w1.heap.size (w5.heap.size + 1))) := ⟨fun w' hm => by
    have hm5 := (((Mod.refl noB w5).alloc (.cells (dfC x y z) 68)).alloc (.cells (dfC x y z) 23)).trans hm
    have h := HF.out w' hm5
    have hB := hm.at (World.alloc_heap_new (w5.alloc (.cells (dfC x y z) 68)) _) id
    rw [World.size_alloc] at hB
    exact ⟨⟨h.1.1.1, h.2⟩, hB⟩⟩
  clear HF
  go_loopw [15, 16, 96] (fun al ne i wr => ∃ (k : Int) (A B : Bool), i = .int .i64 k ∧ al = .bool A ∧ ne = .bool B ∧ ((k = 0 ∧ true = A ∧ false = B) ∨ (k = 1 ∧ A1 = A ∧ B1 = B) ∨ (k = 2 ∧ A2 = A ∧ B2 = B) ∨ (k = 3 ∧ A3 = A ∧ B3 = B)) ∧ Hold (Kept wr (EL p g x y z w w1.heap.size (w5.heap.size + 1)))) (fun _ _ i _ => 3 - (intOf i).toNat)
  case atStart => exact ⟨0, true, false, rfl, rfl, rfl, .inl ⟨rfl, rfl, rfl⟩, HL⟩
  case round =>
    clear HL
    obtain ⟨k, A, B, rfl, rfl, rfl, hk, HK⟩ := hrel
    obtain ⟨p0, p1, p2, p3, p4⟩ := PlayAt.of HK.out.now.1.1.2
    have hp := at_ltS HK.out.now.1.1.2
    have hgl := at_ltS HK.out.now.1.2
    have hxl := at_ltS HK.out.now.2
    have g0 := cellsAt HK.out.now.1.2 0; have g1 := cellsAt HK.out.now.1.2 1; have g2 := cellsAt HK.out.now.1.2 2; have g3 := cellsAt HK.out.now.1.2 3; have g4 := cellsAt HK.out.now.1.2 4; have g5 := cellsAt HK.out.now.1.2 5
    have q0 := cellsAt HK.out.now.2 0; have q1 := cellsAt HK.out.now.2 1; have q2 := cellsAt HK.out.now.2 2; have q3 := cellsAt HK.out.now.2 3; have q4 := cellsAt HK.out.now.2 4; have q5 := cellsAt HK.out.now.2 5
    rcases hk with ⟨rfl, rfl, rfl⟩ | ⟨rfl, rfl, rfl⟩ | ⟨rfl, rfl, rfl⟩ | ⟨rfl, rfl, rfl⟩
    · exact ends_armX (w2 := w2) (w3 := w3) (w4 := w4) pb1 pb2 pb3 pb4 pb5 pb6 pb7 HE HX HY HZ SX SY SZ HDn HUp HG HK p0 p1 p2 p3 p4 hp hgl hxl g0 g1 g2 g3 g4 g5 q0 q1 q2 q3 q4 q5
    · exact ends_armY (w2 := w2) (w3 := w3) (w4 := w4) pb1 pb2 pb3 pb4 pb5 pb6 pb7 HE HX HY HZ SX SY SZ HDn HUp HG HK p0 p1 p2 p3 p4 hp hgl hxl g0 g1 g2 g3 g4 g5 q0 q1 q2 q3 q4 q5
    · exact ends_armZ (w2 := w2) (w3 := w3) (w4 := w4) pb1 pb2 pb3 pb4 pb5 pb6 pb7 HE HX HY HZ SX SY SZ HDn HUp HG HK p0 p1 p2 p3 p4 hp hgl hxl g0 g1 g2 g3 g4 g5 q0 q1 q2 q3 q4 q5
    · clear g0 g1 g2 g3 g4 g5 q0 q1 q2 q3 q4 q5 hgl hxl p0 p1 p2 p3 p4 hp
      have e1 := HE.out.full
      have e2 := HE.out.none
      rcases HE.out.zot with e0 | e0 | e0
      · rw [e0] at e1 e2
        have e3 : A3 = false := by rw [← e1]; rfl
        have e4 : B3 = true := by rw [← e2]; rfl
        clear e1 e2
        subst e3 e4 e0
        go_wp2_with (go_at_call 21; refine (alive_any _).mono ?_; rintro e w9 ⟨rfl, hM⟩; replace HK := Hold.mk (HK.out.later hM); clear hM)
        go_ret
        exact ⟨rfl, HK.out.now.1.1.1⟩
      · rw [e0] at e1 e2
        have e3 : A3 = false := by rw [← e1]; rfl
        have e4 : B3 = false := by rw [← e2]; rfl
        clear e1 e2
        subst e3 e4 e0
        go_wp2_with (go_at_call 21; refine (alive_any _).mono ?_; rintro e w9 ⟨rfl, hM⟩; replace HK := Hold.mk (HK.out.later hM); clear hM)
        go_ret
        exact ⟨rfl, HK.out.now.1.1.1⟩
      · rw [e0] at e1 e2
        have e3 : A3 = true := by rw [← e1]; rfl
        have e4 : B3 = false := by rw [← e2]; rfl
        clear e1 e2
        subst e3 e4 e0
        go_wp2_with (go_at_call 21; refine (alive_any _).mono ?_; rintro e w9 ⟨rfl, hM⟩; replace HK := Hold.mk (HK.out.later hM); clear hM)
        go_ret
        exact ⟨rfl, HK.out.now.1.1.1⟩
end Go.Proofs.Ytnjbamikfjdofaa

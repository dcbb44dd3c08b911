/- The document's fit and Fit: the same numbers as the program's. -/
import Derived.Test.YtnjbamikfjdofaaRefD
set_option linter.unusedSimpArgs false
set_option linter.unusedVariables false
namespace Go.Proofs.Ytnjbamikfjdofaa
open Go.RowKit Go.Shelf

theorem ref49_any (p : Ply) (a b : Edg) (w : World) (hp : playB p = true) (ha : sideB a = true) (hb : sideB b = true) :
    Calls Try.prog 49 #[plV p, edV a, edV b] w fun e w' => e = .returned (.int .i64 (fitR p a b)) ∧ Mod noB w w' := by
  obtain ⟨hb2, hb1⟩ := both_ordered a b
  have HB := fun w => both_any a b w
  cases ho : (orderedR a b).2 with
  | false =>
    rw [ho] at hb2
    rw [hb2] at HB
    rw [show fitR p a b = 0 by simp [fitR, ho]]
    exact fit49_none p a b _ _ w ⟨HB⟩
  | true =>
    rw [ho] at hb2
    have hb3 := hb1 hb2
    rw [hb2, hb3] at HB
    have hf : fitR p a b = least3 (v1R p (orderedR a b).1.1 (orderedR a b).1.2) (v2R p (orderedR a b).1.1 (orderedR a b).1.2) (v3R p (orderedR a b).1.1 (orderedR a b).1.2) := by simp [fitR, ho]
    obtain ⟨kt, kh⟩ := both_kinds ho
    obtain ⟨st, sh⟩ := both_sides ha hb
    obtain ⟨et, eh⟩ := ordered_small ha hb ho
    generalize (orderedR a b).1.1 = t at *
    generalize (orderedR a b).1.2 = h at *
    have ot := side_ordered st (by omega)
    have oh := side_ordered sh (by omega)
    obtain ⟨⟨l1, l2⟩, ⟨k1, k2⟩, ⟨o1, o2⟩, d1, d2, d3⟩ := play_facts hp
    have hd := differ_ordered ot oh p.len
    have hs := differ_small et eh (n := p.len) (by omega)
    have HD := fun w => differ_any p t h w et eh (by omega)
    rw [hf]
    unfold v1R v2R v3R
    have v1 := verdict_all (d := p.damp) hd.1 (show -p.slack ≤ 0 by omega) k1 d1 d2
    have v2 := verdict_all (d := p.damp) hd.2.1 (Int.le_refl 0) o1 d1 d2
    have v3 := verdict_all (d := p.damp) hd.2.2 (Int.le_refl 0) o1 d1 d2
    rw [v1, v2, v3]
    have c1 := some_of_all (d := p.damp) hd.1 (show -p.slack ≤ 0 by omega) k1 d1 d2
    have c2 := some_of_all (d := p.damp) hd.2.1 (Int.le_refl 0) o1 d1 d2
    have c3 := some_of_all (d := p.damp) hd.2.2 (Int.le_refl 0) o1 d1 d2
    have A1 := fun w => all_any (offR t h p.len) (-p.slack) p.slack p.damp w hs.1 (by omega) (by omega) (by omega)
    have A2 := fun w => all_any (wideR t h) 0 p.loose p.damp w hs.2.1 (by omega) (by omega) (by omega)
    have A3 := fun w => all_any (deepR t h) 0 p.loose p.damp w hs.2.2 (by omega) (by omega) (by omega)
    have S1 := fun w => some_any (offR t h p.len) (-p.slack) p.slack p.damp w hs.1 hd.1 (by omega) (by omega) (by omega)
    have S2 := fun w => some_any (wideR t h) 0 p.loose p.damp w hs.2.1 hd.2.1 (by omega) (by omega) (by omega)
    have S3 := fun w => some_any (deepR t h) 0 p.loose p.damp w hs.2.2 hd.2.2 (by omega) (by omega) (by omega)
    refine fit49_walk p a b t h _ _ _ w _ _ _ _ _ _ _ k1 k2 ⟨HB⟩ ⟨HD⟩ ⟨A1⟩ ⟨A2⟩ ⟨A3⟩ ⟨S1⟩ ⟨S2⟩ ⟨S3⟩ ?_
    generalize allB (offR t h p.len) (-p.slack) p.slack p.damp = x1 at *
    generalize allB (wideR t h) 0 p.loose p.damp = x2 at *
    generalize allB (deepR t h) 0 p.loose p.damp = x3 at *
    generalize someB (offR t h p.len) (-p.slack) p.slack p.damp = y1 at *
    generalize someB (wideR t h) 0 p.loose p.damp = y2 at *
    generalize someB (deepR t h) 0 p.loose p.damp = y3 at *
    clear A1 A2 A3 S1 S2 S3 v1 v2 v3 HB HD hf
    cases x1 <;> cases x2 <;> cases x3 <;> cases y1 <;> cases y2 <;> cases y3 <;> first | (exfalso; revert c1 c2 c3; decide) | (clear c1 c2 c3; decide)

set_option maxRecDepth 100000 in
set_option maxHeartbeats 2000000 in
theorem refFit_no (p : Ply) (a b : Edg) (w : World) (bp ba bb : Bool)
    (HP : Hold (∀ w, Calls Try.prog 35 #[plV p] w fun r w' => r = .returned (.bool bp) ∧ Mod noB w w'))
    (HA : Hold (∀ w, Calls Try.prog 36 #[edV a] w fun r w' => r = .returned (.bool ba) ∧ Mod noB w w'))
    (HB : Hold (∀ w, Calls Try.prog 36 #[edV b] w fun r w' => r = .returned (.bool bb) ∧ Mod noB w w'))
    (hc : bp = false ∨ bp = true ∧ ba = false ∨ bp = true ∧ ba = true ∧ bb = false) :
    Calls Try.prog 16 #[plV p, edV a, edV b] w fun e w' => e = .returned (.tuple #[.int .i64 0, .int .i64 1]) ∧ Mod noB w w' := by
  have HF := Hold.mk (three_kept p a b w)
  rcases hc with rfl | ⟨rfl, rfl⟩ | ⟨rfl, rfl, rfl⟩
  all_goals
    go_enter Try.func16, Try.ntmps16
    go_wp2_with (first
      | (go_at_call 35; refine (HP.out _).mono ?_; rintro e w1 ⟨rfl, hM⟩; have HF := Hold.mk (HF.out.later hM); obtain ⟨p0, p1, p2, p3, p4⟩ := PlayAt.of HF.out.now.1.1.2; obtain ⟨a0, a1, a2, a3, a4, a5, a6⟩ := EdgeAt.of HF.out.now.1.2; obtain ⟨b0, b1, b2, b3, b4, b5, b6⟩ := EdgeAt.of HF.out.now.2; clear hM)
      | (go_at_call 36; have Kx := HA; refine (HA.out _).mono ?_; rintro e w2 ⟨rfl, hM⟩; clear p0 p1 p2 p3 p4 a0 a1 a2 a3 a4 a5 a6 b0 b1 b2 b3 b4 b5 b6; have HF := Hold.mk (HF.out.later hM); obtain ⟨p0, p1, p2, p3, p4⟩ := PlayAt.of HF.out.now.1.1.2; obtain ⟨a0, a1, a2, a3, a4, a5, a6⟩ := EdgeAt.of HF.out.now.1.2; obtain ⟨b0, b1, b2, b3, b4, b5, b6⟩ := EdgeAt.of HF.out.now.2; clear hM HA Kx)
      | (go_at_call 36; have Kx := HB; refine (HB.out _).mono ?_; rintro e w3 ⟨rfl, hM⟩; clear p0 p1 p2 p3 p4 a0 a1 a2 a3 a4 a5 a6 b0 b1 b2 b3 b4 b5 b6; have HF := Hold.mk (HF.out.later hM); obtain ⟨p0, p1, p2, p3, p4⟩ := PlayAt.of HF.out.now.1.1.2; obtain ⟨a0, a1, a2, a3, a4, a5, a6⟩ := EdgeAt.of HF.out.now.1.2; obtain ⟨b0, b1, b2, b3, b4, b5, b6⟩ := EdgeAt.of HF.out.now.2; clear hM HB Kx))
    go_ret2
    exact ⟨rfl, HF.out.now.1.1.1⟩

set_option maxRecDepth 100000 in
set_option maxHeartbeats 2000000 in
theorem refFit_yes (p : Ply) (a b : Edg) (w : World) (k : Int)
    (HP : Hold (∀ w, Calls Try.prog 35 #[plV p] w fun r w' => r = .returned (.bool true) ∧ Mod noB w w'))
    (HA : Hold (∀ w, Calls Try.prog 36 #[edV a] w fun r w' => r = .returned (.bool true) ∧ Mod noB w w'))
    (HB : Hold (∀ w, Calls Try.prog 36 #[edV b] w fun r w' => r = .returned (.bool true) ∧ Mod noB w w'))
    (HC : Hold (∀ w, Calls Try.prog 49 #[plV p, edV a, edV b] w fun r w' => r = .returned (.int .i64 k) ∧ Mod noB w w')) :
    Calls Try.prog 16 #[plV p, edV a, edV b] w fun e w' => e = .returned (.tuple #[.int .i64 k, .int .i64 0]) ∧ Mod noB w w' := by
  have HF := Hold.mk (three_kept p a b w)
  all_goals
    go_enter Try.func16, Try.ntmps16
    go_wp2_with (first
      | (go_at_call 35; refine (HP.out _).mono ?_; rintro e w1 ⟨rfl, hM⟩; have HF := Hold.mk (HF.out.later hM); obtain ⟨p0, p1, p2, p3, p4⟩ := PlayAt.of HF.out.now.1.1.2; obtain ⟨a0, a1, a2, a3, a4, a5, a6⟩ := EdgeAt.of HF.out.now.1.2; obtain ⟨b0, b1, b2, b3, b4, b5, b6⟩ := EdgeAt.of HF.out.now.2; clear hM)
      | (go_at_call 36; have Kx := HA; refine (HA.out _).mono ?_; rintro e w2 ⟨rfl, hM⟩; clear p0 p1 p2 p3 p4 a0 a1 a2 a3 a4 a5 a6 b0 b1 b2 b3 b4 b5 b6; have HF := Hold.mk (HF.out.later hM); obtain ⟨p0, p1, p2, p3, p4⟩ := PlayAt.of HF.out.now.1.1.2; obtain ⟨a0, a1, a2, a3, a4, a5, a6⟩ := EdgeAt.of HF.out.now.1.2; obtain ⟨b0, b1, b2, b3, b4, b5, b6⟩ := EdgeAt.of HF.out.now.2; clear hM HA Kx)
      | (go_at_call 36; have Kx := HB; refine (HB.out _).mono ?_; rintro e w3 ⟨rfl, hM⟩; clear p0 p1 p2 p3 p4 a0 a1 a2 a3 a4 a5 a6 b0 b1 b2 b3 b4 b5 b6; have HF := Hold.mk (HF.out.later hM); obtain ⟨p0, p1, p2, p3, p4⟩ := PlayAt.of HF.out.now.1.1.2; obtain ⟨a0, a1, a2, a3, a4, a5, a6⟩ := EdgeAt.of HF.out.now.1.2; obtain ⟨b0, b1, b2, b3, b4, b5, b6⟩ := EdgeAt.of HF.out.now.2; clear hM HB Kx)
      | (go_at_call 49; refine (HC.out _).mono ?_; rintro e w4 ⟨rfl, hM⟩; clear p0 p1 p2 p3 p4 a0 a1 a2 a3 a4 a5 a6 b0 b1 b2 b3 b4 b5 b6; have HF := Hold.mk (HF.out.later hM); clear hM))
    go_ret2
    exact ⟨rfl, HF.out.now.1.1.1⟩

theorem refFit_any (p : Ply) (a b : Edg) (w : World) :
    Calls Try.prog 16 #[plV p, edV a, edV b] w fun e w' => e = .returned (.tuple #[.int .i64 (fitE p a b).1, .int .i64 (fitE p a b).2]) ∧ Mod noB w w' := by
  have HP := fun w => refPlay_any p w
  have HA := fun w => refSide_any a w
  have HB := fun w => refSide_any b w
  by_cases h : playB p = true ∧ sideB a = true ∧ sideB b = true
  · obtain ⟨h1, h2, h3⟩ := h
    rw [h1] at HP
    rw [h2] at HA
    rw [h3] at HB
    rw [show fitE p a b = (fitR p a b, 0) by simp [fitE, h1, h2, h3]]
    exact refFit_yes p a b w _ ⟨HP⟩ ⟨HA⟩ ⟨HB⟩ ⟨fun w => ref49_any p a b w h1 h2 h3⟩
  · have he : fitE p a b = (0, 1) := by
      unfold fitE
      revert h
      cases playB p <;> cases sideB a <;> cases sideB b <;> simp
    rw [he]
    refine refFit_no p a b w _ _ _ ⟨HP⟩ ⟨HA⟩ ⟨HB⟩ ?_
    revert h
    cases playB p <;> cases sideB a <;> cases sideB b <;> simp
end Go.Proofs.Ytnjbamikfjdofaa

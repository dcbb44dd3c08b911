/- The document's lasts and Last: the same numbers as the program's. -/
import Derived.Test.YtnjbamikfjdofaaLastM
import Derived.Test.YtnjbamikfjdofaaLawS
set_option linter.unusedSimpArgs false
set_option linter.unusedVariables false
namespace Go.Proofs.Ytnjbamikfjdofaa
open Go.RowKit Go.Shelf

set_option maxRecDepth 100000 in
set_option maxHeartbeats 4000000 in
theorem lasts_walk (p : Ply) (a b : Edg) (r : Int × Int) (n : Int) (w : World) (x y : Edg) (e1 e2 k : Int) (res : Bool) (hc : (e1 == 0) = false ∧ res = false ∨ (e1 = 0 ∧ (e2 == 0) = false ∧ res = false) ∨ (e1 = 0 ∧ e2 = 0 ∧ res = (k == 2)))
    (W1 : Hold (∀ w, Calls Try.prog 20 #[edV a, spV r, .int .i64 n] w fun e w' => e = .returned (.tuple #[edV x, .int .i64 e1]) ∧ Mod noB w w'))
    (W2 : Hold (∀ w, Calls Try.prog 20 #[edV b, spV r, .int .i64 n] w fun e w' => e = .returned (.tuple #[edV y, .int .i64 e2]) ∧ Mod noB w w'))
    (HK : Hold (e1 = 0 → e2 = 0 → ∀ w, Calls Try.prog 49 #[plV p, edV x, edV y] w fun e w' => e = .returned (.int .i64 k) ∧ Mod noB w w')) :
    Calls Try.prog 62 #[plV p, edV a, edV b, spV r, .int .i64 n] w fun e w' => e = .returned (.bool res) ∧ Mod noB w w' := by
  have HF := Hold.mk (law_kept p a b r w)
  rcases hc with ⟨h1, rfl⟩ | ⟨rfl, h1, rfl⟩ | ⟨rfl, rfl, rfl⟩
  rotate_left 2
  · have HK2 := Hold.mk (HK.out rfl rfl)
    clear HK
    go_enter Try.func62, Try.ntmps62
    go_wp2_with (first
      | (go_at_call 20; have Kx := W1; refine (W1.out _).mono ?_; rintro e w1 ⟨rfl, hM⟩; have HF := Hold.mk (HF.out.later hM); obtain ⟨p0, p1, p2, p3, p4⟩ := PlayAt.of HF.out.now.1.1.1.2; have hp := at_lt HF.out.now.1.1.1.2; obtain ⟨b0, b1, b2, b3, b4, b5, b6⟩ := EdgeAt.of HF.out.now.1.2; have hb := at_lt HF.out.now.1.2; have r0 := cellsAt HF.out.now.2 0; have r1 := cellsAt HF.out.now.2 1; have hr := at_lt HF.out.now.2; clear hM W1 Kx)
      | (go_at_call 20; have Kx := W2; refine (W2.out _).mono ?_; rintro e w2 ⟨rfl, hM⟩; clear p0 p1 p2 p3 p4 hp b0 b1 b2 b3 b4 b5 b6 hb r0 r1 hr; have HF := Hold.mk ((HF.out.later (((Mod.refl noB w1).alloc _).trans hM)).and (kept_block (hM.at (World.alloc_heap_new w1 _) id))); obtain ⟨p0, p1, p2, p3, p4⟩ := PlayAt.of HF.out.now.1.1.1.1.2; have hp := at_lt HF.out.now.1.1.1.1.2; obtain ⟨x0, x1, x2, x3, x4, x5, x6⟩ := EdgeAt.of (e := x) HF.out.now.2; have hx := at_lt HF.out.now.2; clear hM W2 Kx)
      | (go_at_call 49; refine (HK2.out _).mono ?_; rintro e w3 ⟨rfl, hM⟩; clear p0 p1 p2 p3 p4 hp; clear x0 x1 x2 x3 x4 x5 x6 hx; have HF := Hold.mk (HF.out.later (((Mod.refl noB w2).alloc _).trans hM)); clear hM))
    go_ret
    exact ⟨rfl, HF.out.now.1.1.1.1.1⟩
  all_goals
    clear HK
    go_enter Try.func62, Try.ntmps62
    go_wp2_with (first
      | (go_at_call 20; have Kx := W1; refine (W1.out _).mono ?_; rintro e w1 ⟨rfl, hM⟩; have HF := Hold.mk (HF.out.later hM); obtain ⟨p0, p1, p2, p3, p4⟩ := PlayAt.of HF.out.now.1.1.1.2; have hp := at_lt HF.out.now.1.1.1.2; obtain ⟨b0, b1, b2, b3, b4, b5, b6⟩ := EdgeAt.of HF.out.now.1.2; have hb := at_lt HF.out.now.1.2; have r0 := cellsAt HF.out.now.2 0; have r1 := cellsAt HF.out.now.2 1; have hr := at_lt HF.out.now.2; clear hM W1 Kx)
      | (go_at_call 20; have Kx := W2; refine (W2.out _).mono ?_; rintro e w2 ⟨rfl, hM⟩; clear p0 p1 p2 p3 p4 hp b0 b1 b2 b3 b4 b5 b6 hb r0 r1 hr; have HF := Hold.mk (HF.out.later (((Mod.refl noB w1).alloc _).trans hM)); clear hM W2 Kx))
    go_ret
    exact ⟨rfl, HF.out.now.1.1.1.1.alloc _⟩

theorem lasts_any (p : Ply) (a b : Edg) (r : Int × Int) (n : Int) (w : World) (hp : playB p = true) (ha : sideB a = true) (hb : sideB b = true) (hka : a.k ≠ 0) (hkb : b.k ≠ 0) (hr : withinB r 0 100 = true) (h0 : 0 ≤ n) (h1 : n ≤ 20000) :
    Calls Try.prog 62 #[plV p, edV a, edV b, spV r, .int .i64 n] w fun e w' => e = .returned (.bool (goodE p a b r n)) ∧ Mod noB w w' := by
  have ea := wornE_ok ha hka hr h0 h1
  have eb := wornE_ok hb hkb hr h0 h1
  have sa : (wornE a r n).2 = 0 → sideB (wornE a r n).1 = true := by
    rw [ea]
    cases h : wornB a r n with
    | false => intro h'; simp at h'
    | true => exact fun _ => side_worn ha (side_wide ha hka).1 h
  have sb : (wornE b r n).2 = 0 → sideB (wornE b r n).1 = true := by
    rw [eb]
    cases h : wornB b r n with
    | false => intro h'; simp at h'
    | true => exact fun _ => side_worn hb (side_wide hb hkb).1 h
  refine lasts_walk p a b r n w _ _ _ _ (fitR p (wornE a r n).1 (wornE b r n).1) _ ?_ ⟨fun w => refWorn_any a r n w⟩ ⟨fun w => refWorn_any b r n w⟩ ⟨fun h1 h2 w => ref49_any p _ _ w hp (sa h1) (sb h2)⟩
  unfold goodE
  by_cases h1 : (wornE a r n).2 = 0
  · by_cases h2 : (wornE b r n).2 = 0
    · refine .inr (.inr ⟨h1, h2, ?_⟩)
      have hf : fitE p (wornE a r n).1 (wornE b r n).1 = (fitR p (wornE a r n).1 (wornE b r n).1, 0) := by simp [fitE, hp, sa h1, sb h2]
      rw [h1, h2, hf]
      have : ((fitR p (wornE a r n).1 (wornE b r n).1, (0 : Int)) == ((2 : Int), (0 : Int))) = (fitR p (wornE a r n).1 (wornE b r n).1 == 2) := by
        show (fitR p (wornE a r n).1 (wornE b r n).1 == 2 && ((0 : Int) == 0)) = _
        simp
      rw [this]
      simp
    · refine .inr (.inl ⟨h1, by simpa using h2, ?_⟩)
      have : ((wornE b r n).2 == 0) = false := by simpa using h2
      rw [this]
      simp
  · have : ((wornE a r n).2 == 0) = false := by simpa using h1
    exact .inl ⟨this, by rw [this]; simp⟩

set_option maxRecDepth 100000 in
set_option maxHeartbeats 4000000 in
theorem refLast_1 (p : Ply) (a b : Edg) (r : Int × Int) (w : World) (bp ba bb : Bool) (hc : bp = false ∨ bp = true ∧ ba = false ∨ bp = true ∧ ba = true ∧ bb = false)
    (HP : Hold (∀ w, Calls Try.prog 35 #[plV p] w fun r w' => r = .returned (.bool bp) ∧ Mod noB w w'))
    (HA : Hold (∀ w, Calls Try.prog 36 #[edV a] w fun r w' => r = .returned (.bool ba) ∧ Mod noB w w'))
    (HB : Hold (∀ w, Calls Try.prog 36 #[edV b] w fun r w' => r = .returned (.bool bb) ∧ Mod noB w w'))
:
    Calls Try.prog 23 #[plV p, edV a, edV b, spV r] w fun e w' => e = .returned (.tuple #[.int .i64 0, .int .i64 0, .int .i64 1]) ∧ Mod noB w w' := by
  have HF := Hold.mk (law_kept p a b r w)
  rcases hc with rfl | ⟨rfl, rfl⟩ | ⟨rfl, rfl, rfl⟩
  all_goals
    go_enter Try.func23, Try.ntmps23
    go_wp2_with (first
      | (go_at_call 35; refine (HP.out _).mono ?_; rintro e w1 ⟨rfl, hM⟩; have HF := Hold.mk (HF.out.later hM); obtain ⟨a0, a1, a2, a3, a4, a5, a6⟩ := EdgeAt.of HF.out.now.1.1.2; have ha := at_lt HF.out.now.1.1.2; obtain ⟨b0, b1, b2, b3, b4, b5, b6⟩ := EdgeAt.of HF.out.now.1.2; have hb := at_lt HF.out.now.1.2; have r0 := cellsAt HF.out.now.2 0; have r1 := cellsAt HF.out.now.2 1; have hr := at_lt HF.out.now.2; clear hM)
      | (go_at_call 36; have Kx := HA; refine (HA.out _).mono ?_; rintro e w2 ⟨rfl, hM⟩; clear a0 a1 a2 a3 a4 a5 a6 ha b0 b1 b2 b3 b4 b5 b6 hb r0 r1 hr; have HF := Hold.mk (HF.out.later hM); obtain ⟨a0, a1, a2, a3, a4, a5, a6⟩ := EdgeAt.of HF.out.now.1.1.2; have ha := at_lt HF.out.now.1.1.2; obtain ⟨b0, b1, b2, b3, b4, b5, b6⟩ := EdgeAt.of HF.out.now.1.2; have hb := at_lt HF.out.now.1.2; have r0 := cellsAt HF.out.now.2 0; have r1 := cellsAt HF.out.now.2 1; have hr := at_lt HF.out.now.2; clear hM HA Kx)
      | (go_at_call 36; have Kx := HB; refine (HB.out _).mono ?_; rintro e w3 ⟨rfl, hM⟩; clear a0 a1 a2 a3 a4 a5 a6 ha b0 b1 b2 b3 b4 b5 b6 hb r0 r1 hr; have HF := Hold.mk (HF.out.later hM); obtain ⟨a0, a1, a2, a3, a4, a5, a6⟩ := EdgeAt.of HF.out.now.1.1.2; have ha := at_lt HF.out.now.1.1.2; obtain ⟨b0, b1, b2, b3, b4, b5, b6⟩ := EdgeAt.of HF.out.now.1.2; have hb := at_lt HF.out.now.1.2; have r0 := cellsAt HF.out.now.2 0; have r1 := cellsAt HF.out.now.2 1; have hr := at_lt HF.out.now.2; clear hM HB Kx))
    go_ret3
    exact ⟨rfl, HF.out.now.1.1.1.1⟩

set_option maxRecDepth 100000 in
set_option maxHeartbeats 4000000 in
theorem refLast_2 (p : Ply) (a b : Edg) (r : Int × Int) (w : World)
    (HP : Hold (∀ w, Calls Try.prog 35 #[plV p] w fun r w' => r = .returned (.bool true) ∧ Mod noB w w'))
    (HA : Hold (∀ w, Calls Try.prog 36 #[edV a] w fun r w' => r = .returned (.bool true) ∧ Mod noB w w'))
    (HB : Hold (∀ w, Calls Try.prog 36 #[edV b] w fun r w' => r = .returned (.bool true) ∧ Mod noB w w'))
    (HR : Hold (∀ w, Calls Try.prog 59 #[spV r, .int .i64 0, .int .i64 100] w fun r w' => r = .returned (.bool false) ∧ Mod noB w w')) :
    Calls Try.prog 23 #[plV p, edV a, edV b, spV r] w fun e w' => e = .returned (.tuple #[.int .i64 0, .int .i64 0, .int .i64 2]) ∧ Mod noB w w' := by
  have HF := Hold.mk (law_kept p a b r w)
  go_enter Try.func23, Try.ntmps23
  go_wp2_with (first
      | (go_at_call 35; refine (HP.out _).mono ?_; rintro e w1 ⟨rfl, hM⟩; have HF := Hold.mk (HF.out.later hM); obtain ⟨a0, a1, a2, a3, a4, a5, a6⟩ := EdgeAt.of HF.out.now.1.1.2; have ha := at_lt HF.out.now.1.1.2; obtain ⟨b0, b1, b2, b3, b4, b5, b6⟩ := EdgeAt.of HF.out.now.1.2; have hb := at_lt HF.out.now.1.2; have r0 := cellsAt HF.out.now.2 0; have r1 := cellsAt HF.out.now.2 1; have hr := at_lt HF.out.now.2; clear hM)
      | (go_at_call 36; have Kx := HA; refine (HA.out _).mono ?_; rintro e w2 ⟨rfl, hM⟩; clear a0 a1 a2 a3 a4 a5 a6 ha b0 b1 b2 b3 b4 b5 b6 hb r0 r1 hr; have HF := Hold.mk (HF.out.later hM); obtain ⟨a0, a1, a2, a3, a4, a5, a6⟩ := EdgeAt.of HF.out.now.1.1.2; have ha := at_lt HF.out.now.1.1.2; obtain ⟨b0, b1, b2, b3, b4, b5, b6⟩ := EdgeAt.of HF.out.now.1.2; have hb := at_lt HF.out.now.1.2; have r0 := cellsAt HF.out.now.2 0; have r1 := cellsAt HF.out.now.2 1; have hr := at_lt HF.out.now.2; clear hM HA Kx)
      | (go_at_call 36; have Kx := HB; refine (HB.out _).mono ?_; rintro e w3 ⟨rfl, hM⟩; clear a0 a1 a2 a3 a4 a5 a6 ha b0 b1 b2 b3 b4 b5 b6 hb r0 r1 hr; have HF := Hold.mk (HF.out.later hM); obtain ⟨a0, a1, a2, a3, a4, a5, a6⟩ := EdgeAt.of HF.out.now.1.1.2; have ha := at_lt HF.out.now.1.1.2; obtain ⟨b0, b1, b2, b3, b4, b5, b6⟩ := EdgeAt.of HF.out.now.1.2; have hb := at_lt HF.out.now.1.2; have r0 := cellsAt HF.out.now.2 0; have r1 := cellsAt HF.out.now.2 1; have hr := at_lt HF.out.now.2; clear hM HB Kx)
      | (go_at_call 59; refine (HR.out _).mono ?_; rintro e w4 ⟨rfl, hM⟩; have HF := Hold.mk (HF.out.later hM); clear hM))
  go_ret3
  exact ⟨rfl, HF.out.now.1.1.1.1⟩

set_option maxRecDepth 100000 in
set_option maxHeartbeats 4000000 in
theorem refLast_6 (p : Ply) (a b x y : Edg) (r : Int × Int) (w : World)
    (HP : Hold (∀ w, Calls Try.prog 35 #[plV p] w fun r w' => r = .returned (.bool true) ∧ Mod noB w w'))
    (HA : Hold (∀ w, Calls Try.prog 36 #[edV a] w fun r w' => r = .returned (.bool true) ∧ Mod noB w w'))
    (HB : Hold (∀ w, Calls Try.prog 36 #[edV b] w fun r w' => r = .returned (.bool true) ∧ Mod noB w w'))
    (HR : Hold (∀ w, Calls Try.prog 59 #[spV r, .int .i64 0, .int .i64 100] w fun r w' => r = .returned (.bool true) ∧ Mod noB w w'))
    (HO : Hold (∀ w, Calls Try.prog 37 #[edV a, edV b] w fun r w' => r = .returned (.tuple #[edV x, edV y, .bool false]) ∧ Mod noB w w')) :
    Calls Try.prog 23 #[plV p, edV a, edV b, spV r] w fun e w' => e = .returned (.tuple #[.int .i64 0, .int .i64 0, .int .i64 6]) ∧ Mod noB w w' := by
  have HF := Hold.mk (law_kept p a b r w)
  go_enter Try.func23, Try.ntmps23
  go_wp2_with (first
      | (go_at_call 35; refine (HP.out _).mono ?_; rintro e w1 ⟨rfl, hM⟩; have HF := Hold.mk (HF.out.later hM); obtain ⟨a0, a1, a2, a3, a4, a5, a6⟩ := EdgeAt.of HF.out.now.1.1.2; have ha := at_lt HF.out.now.1.1.2; obtain ⟨b0, b1, b2, b3, b4, b5, b6⟩ := EdgeAt.of HF.out.now.1.2; have hb := at_lt HF.out.now.1.2; have r0 := cellsAt HF.out.now.2 0; have r1 := cellsAt HF.out.now.2 1; have hr := at_lt HF.out.now.2; clear hM)
      | (go_at_call 36; have Kx := HA; refine (HA.out _).mono ?_; rintro e w2 ⟨rfl, hM⟩; clear a0 a1 a2 a3 a4 a5 a6 ha b0 b1 b2 b3 b4 b5 b6 hb r0 r1 hr; have HF := Hold.mk (HF.out.later hM); obtain ⟨a0, a1, a2, a3, a4, a5, a6⟩ := EdgeAt.of HF.out.now.1.1.2; have ha := at_lt HF.out.now.1.1.2; obtain ⟨b0, b1, b2, b3, b4, b5, b6⟩ := EdgeAt.of HF.out.now.1.2; have hb := at_lt HF.out.now.1.2; have r0 := cellsAt HF.out.now.2 0; have r1 := cellsAt HF.out.now.2 1; have hr := at_lt HF.out.now.2; clear hM HA Kx)
      | (go_at_call 36; have Kx := HB; refine (HB.out _).mono ?_; rintro e w3 ⟨rfl, hM⟩; clear a0 a1 a2 a3 a4 a5 a6 ha b0 b1 b2 b3 b4 b5 b6 hb r0 r1 hr; have HF := Hold.mk (HF.out.later hM); obtain ⟨a0, a1, a2, a3, a4, a5, a6⟩ := EdgeAt.of HF.out.now.1.1.2; have ha := at_lt HF.out.now.1.1.2; obtain ⟨b0, b1, b2, b3, b4, b5, b6⟩ := EdgeAt.of HF.out.now.1.2; have hb := at_lt HF.out.now.1.2; have r0 := cellsAt HF.out.now.2 0; have r1 := cellsAt HF.out.now.2 1; have hr := at_lt HF.out.now.2; clear hM HB Kx)
      | (go_at_call 59; refine (HR.out _).mono ?_; rintro e w4 ⟨rfl, hM⟩; clear a0 a1 a2 a3 a4 a5 a6 ha b0 b1 b2 b3 b4 b5 b6 hb r0 r1 hr; have HF := Hold.mk (HF.out.later hM); obtain ⟨a0, a1, a2, a3, a4, a5, a6⟩ := EdgeAt.of HF.out.now.1.1.2; have ha := at_lt HF.out.now.1.1.2; obtain ⟨b0, b1, b2, b3, b4, b5, b6⟩ := EdgeAt.of HF.out.now.1.2; have hb := at_lt HF.out.now.1.2; clear hM)
      | (go_at_call 37; refine (HO.out _).mono ?_; rintro e w5 ⟨rfl, hM⟩; clear a0 a1 a2 a3 a4 a5 a6 ha b0 b1 b2 b3 b4 b5 b6 hb; have HF := Hold.mk (HF.out.later hM); clear hM))
  go_ret3
  exact ⟨rfl, (HF.out.now.1.1.1.1.alloc _).alloc _⟩

set_option maxRecDepth 100000 in
set_option maxHeartbeats 8000000 in
theorem refLast_go (p : Ply) (a b x y : Edg) (r : Int × Int) (w : World) (F T : Int) (hF : 0 ≤ F) (hFT : F ≤ T + 1) (hT : T ≤ 20000) (x1 x2 x3 : Int) (hres : F = 20001 ∧ x1 = 0 ∧ x2 = 0 ∧ x3 = 4 ∨ F ≤ T ∧ x1 = F ∧ x2 = T ∧ x3 = 0)
    (HP : Hold (∀ w, Calls Try.prog 35 #[plV p] w fun r w' => r = .returned (.bool true) ∧ Mod noB w w'))
    (HA : Hold (∀ w, Calls Try.prog 36 #[edV a] w fun r w' => r = .returned (.bool true) ∧ Mod noB w w'))
    (HB : Hold (∀ w, Calls Try.prog 36 #[edV b] w fun r w' => r = .returned (.bool true) ∧ Mod noB w w'))
    (HR : Hold (∀ w, Calls Try.prog 59 #[spV r, .int .i64 0, .int .i64 100] w fun r w' => r = .returned (.bool true) ∧ Mod noB w w'))
    (HO : Hold (∀ w, Calls Try.prog 37 #[edV a, edV b] w fun r w' => r = .returned (.tuple #[edV x, edV y, .bool true]) ∧ Mod noB w w'))
    (HG : Hold (∀ n w, 0 ≤ n → n ≤ 20000 → Calls Try.prog 62 #[plV p, edV a, edV b, spV r, .int .i64 n] w fun e w' => e = .returned (.bool (decide (F ≤ n) && decide (n ≤ T))) ∧ Mod noB w w')) :
    Calls Try.prog 23 #[plV p, edV a, edV b, spV r] w fun e w' => e = .returned (.tuple #[.int .i64 x1, .int .i64 x2, .int .i64 x3]) ∧ Mod noB w w' := by
  have HF := Hold.mk (law_kept p a b r w)
  have HRES := Hold.mk hres
  have HB0 := Hold.mk (And.intro hF (And.intro hFT hT))
  clear hres hF hFT hT
  go_enter Try.func23, Try.ntmps23
  go_wp2_with (first
      | (go_at_call 35; refine (HP.out _).mono ?_; rintro e w1 ⟨rfl, hM⟩; have HF := Hold.mk (HF.out.later hM); obtain ⟨a0, a1, a2, a3, a4, a5, a6⟩ := EdgeAt.of HF.out.now.1.1.2; have ha := at_lt HF.out.now.1.1.2; obtain ⟨b0, b1, b2, b3, b4, b5, b6⟩ := EdgeAt.of HF.out.now.1.2; have hb := at_lt HF.out.now.1.2; have r0 := cellsAt HF.out.now.2 0; have r1 := cellsAt HF.out.now.2 1; have hr := at_lt HF.out.now.2; clear hM)
      | (go_at_call 36; have Kx := HA; refine (HA.out _).mono ?_; rintro e w2 ⟨rfl, hM⟩; clear a0 a1 a2 a3 a4 a5 a6 ha b0 b1 b2 b3 b4 b5 b6 hb r0 r1 hr; have HF := Hold.mk (HF.out.later hM); obtain ⟨a0, a1, a2, a3, a4, a5, a6⟩ := EdgeAt.of HF.out.now.1.1.2; have ha := at_lt HF.out.now.1.1.2; obtain ⟨b0, b1, b2, b3, b4, b5, b6⟩ := EdgeAt.of HF.out.now.1.2; have hb := at_lt HF.out.now.1.2; have r0 := cellsAt HF.out.now.2 0; have r1 := cellsAt HF.out.now.2 1; have hr := at_lt HF.out.now.2; clear hM HA Kx)
      | (go_at_call 36; have Kx := HB; refine (HB.out _).mono ?_; rintro e w3 ⟨rfl, hM⟩; clear a0 a1 a2 a3 a4 a5 a6 ha b0 b1 b2 b3 b4 b5 b6 hb r0 r1 hr; have HF := Hold.mk (HF.out.later hM); obtain ⟨a0, a1, a2, a3, a4, a5, a6⟩ := EdgeAt.of HF.out.now.1.1.2; have ha := at_lt HF.out.now.1.1.2; obtain ⟨b0, b1, b2, b3, b4, b5, b6⟩ := EdgeAt.of HF.out.now.1.2; have hb := at_lt HF.out.now.1.2; have r0 := cellsAt HF.out.now.2 0; have r1 := cellsAt HF.out.now.2 1; have hr := at_lt HF.out.now.2; clear hM HB Kx)
      | (go_at_call 59; refine (HR.out _).mono ?_; rintro e w4 ⟨rfl, hM⟩; clear a0 a1 a2 a3 a4 a5 a6 ha b0 b1 b2 b3 b4 b5 b6 hb r0 r1 hr; have HF := Hold.mk (HF.out.later hM); obtain ⟨a0, a1, a2, a3, a4, a5, a6⟩ := EdgeAt.of HF.out.now.1.1.2; have ha := at_lt HF.out.now.1.1.2; obtain ⟨b0, b1, b2, b3, b4, b5, b6⟩ := EdgeAt.of HF.out.now.1.2; have hb := at_lt HF.out.now.1.2; clear hM)
      | (go_at_call 37; refine (HO.out _).mono ?_; rintro e w5 ⟨rfl, hM⟩; clear a0 a1 a2 a3 a4 a5 a6 ha b0 b1 b2 b3 b4 b5 b6 hb; have HF := Hold.mk (HF.out.later hM); clear hM))
  have HF := Hold.mk (HF.out.later (((Mod.refl noB w5).alloc (.cells (edC x) 27)).alloc (.cells (edC y) 27)))
  change Code.wp _ _ _ _ ((w5.alloc (.cells (edC x) 27)).alloc (.cells (edC y) 27))
  generalize (w5.alloc (.cells (edC x) 27)).alloc (.cells (edC y) 27) = W6 at *
  go_loopw [14, 15, 16] (fun u v i wr => ∃ n s t : Int, i = .int .i64 n ∧ u = .int .i64 s ∧ v = .int .i64 t ∧ 0 ≤ n ∧ n ≤ 20001 ∧ (n ≤ F ∧ s = -1 ∧ t = -1 ∨ F < n ∧ s = F ∧ t = min (n - 1) T) ∧ Mod noB W6 wr) (fun _ _ i _ => (20002 - intOf i).toNat)
  case atStart => exact ⟨0, -1, -1, rfl, rfl, rfl, by omega, by omega, .inl ⟨HB0.out.1, rfl, rfl⟩, Mod.refl _ _⟩
  case round =>
    obtain ⟨n, s, t, rfl, rfl, rfl, n0, n1, hst, hm⟩ := hrel
    have HF := Hold.mk (HF.out.later hm)
    have HST := Hold.mk hst
    have HM := Hold.mk hm
    clear hst hm
    by_cases hle : n ≤ 20000
    · obtain ⟨p0, p1, p2, p3, p4⟩ := PlayAt.of HF.out.now.1.1.1.2; have hp := at_lt HF.out.now.1.1.1.2; obtain ⟨a0, a1, a2, a3, a4, a5, a6⟩ := EdgeAt.of HF.out.now.1.1.2; have ha := at_lt HF.out.now.1.1.2; obtain ⟨b0, b1, b2, b3, b4, b5, b6⟩ := EdgeAt.of HF.out.now.1.2; have hb := at_lt HF.out.now.1.2; have r0 := cellsAt HF.out.now.2 0; have r1 := cellsAt HF.out.now.2 1; have hr := at_lt HF.out.now.2
      by_cases hg : F ≤ n ∧ n ≤ T
      · have HC : Hold (∀ w, Calls Try.prog 62 #[plV p, edV a, edV b, spV r, .int .i64 n] w fun e w' => e = .returned (.bool true) ∧ Mod noB w w') := ⟨fun w => by
          have := HG.out n w n0 hle
          rwa [show (decide (F ≤ n) && decide (n ≤ T)) = true by simp [hg]] at this⟩
        have HG2 := Hold.mk hg
        clear hg
        by_cases hs : s < 0
        · go_wp2_with (go_at_call 62; refine (HC.out _).mono ?_; rintro e w7 ⟨rfl, hM⟩; clear p0 p1 p2 p3 p4 hp a0 a1 a2 a3 a4 a5 a6 ha b0 b1 b2 b3 b4 b5 b6 hb r0 r1 hr; have HM7 := Hold.mk (HM.out.trans hM); clear hM)
          go_roundw
          case rel => exact ⟨n + 1, n, n, by go_num, rfl, rfl, by omega, by omega, .inr (by have := HST.out; have := HG2.out; have := HB0.out; omega), HM7.out⟩
          case measure => simp [intOf]; omega
        · go_wp2_with (go_at_call 62; refine (HC.out _).mono ?_; rintro e w7 ⟨rfl, hM⟩; clear p0 p1 p2 p3 p4 hp a0 a1 a2 a3 a4 a5 a6 ha b0 b1 b2 b3 b4 b5 b6 hb r0 r1 hr; have HM7 := Hold.mk (HM.out.trans hM); clear hM)
          go_roundw
          case rel => exact ⟨n + 1, s, n, by go_num, rfl, rfl, by omega, by omega, .inr (by have := HST.out; have := HG2.out; have := HB0.out; omega), HM7.out⟩
          case measure => simp [intOf]; omega
      · have HC : Hold (∀ w, Calls Try.prog 62 #[plV p, edV a, edV b, spV r, .int .i64 n] w fun e w' => e = .returned (.bool false) ∧ Mod noB w w') := ⟨fun w => by
          have := HG.out n w n0 hle
          rwa [show (decide (F ≤ n) && decide (n ≤ T)) = false by simp; omega] at this⟩
        have HG2 := Hold.mk hg
        clear hg
        go_wp2_with (go_at_call 62; refine (HC.out _).mono ?_; rintro e w7 ⟨rfl, hM⟩; clear p0 p1 p2 p3 p4 hp a0 a1 a2 a3 a4 a5 a6 ha b0 b1 b2 b3 b4 b5 b6 hb r0 r1 hr; have HM7 := Hold.mk (HM.out.trans hM); clear hM)
        go_roundw
        case rel => exact ⟨n + 1, s, t, by go_num, rfl, rfl, by omega, by omega, (by have := HST.out; have := HG2.out; have := HB0.out; have := HRES.out; omega), HM7.out⟩
        case measure => simp [intOf]; omega
    · have hn : n = 20001 := by omega
      have hst := HST.out
      have hb0 := HB0.out
      rcases HRES.out with ⟨q1, rfl, rfl, rfl⟩ | ⟨q1, rfl, rfl, rfl⟩
      · have hs : s < 0 := by omega
        clear hst hb0
        go_wp2
        go_ret3
        exact ⟨rfl, HF.out.now.1.1.1.1⟩
      · obtain ⟨rfl, rfl⟩ : s = x1 ∧ t = x2 := by omega
        have hs : ¬ s < 0 := by omega
        clear hst hb0
        go_wp2
        go_ret3
        exact ⟨rfl, HF.out.now.1.1.1.1⟩
end Go.Proofs.Ytnjbamikfjdofaa

/- The document's Between: the same spans as the program's. -/
import Derived.Test.YtnjbamikfjdofaaRefF
set_option linter.unusedSimpArgs false
set_option linter.unusedVariables false
namespace Go.Proofs.Ytnjbamikfjdofaa
open Go.RowKit Go.Shelf

theorem four_kept (p : Ply) (a b : Edg) (w : World) : Kept ((((w.alloc (.cells (plC p) 25)).alloc (.cells (edC a) 27)).alloc (.cells (edC b) 27)).alloc (.cells (gpC zeroG) 32)) (fun w' => (((Mod noB w w' ∧ w'.heap[w.heap.size]? = some (.cells (plC p) 25)) ∧ w'.heap[w.heap.size + 1]? = some (.cells (edC a) 27)) ∧ w'.heap[w.heap.size + 1 + 1]? = some (.cells (edC b) 27)) ∧ w'.heap[w.heap.size + 1 + 1 + 1]? = some (.cells (gpC zeroG) 32)) := fun w' h => by
  rw [allocL4] at h
  exact ⟨⟨⟨⟨(allocL_mod noB _ w).trans h, at_allocL _ h 0 _ rfl⟩, at_allocL _ h 1 _ rfl⟩, at_allocL _ h 2 _ rfl⟩, at_allocL _ h 3 _ rfl⟩

theorem gap_free {w : World} {b : Nat} (h : w.heap[b]? = some (.cells (gpC zeroG) 32)) : FreeAt w b 6 := FreeAt.of (T := 32) (n := 6) h

set_option maxRecDepth 100000 in
set_option maxHeartbeats 4000000 in
theorem refBetween_1 (p : Ply) (a b : Edg) (w : World) (bp ba bb : Bool)
    (HP : Hold (∀ w, Calls Try.prog 35 #[plV p] w fun r w' => r = .returned (.bool bp) ∧ Mod noB w w'))
    (HA : Hold (∀ w, Calls Try.prog 36 #[edV a] w fun r w' => r = .returned (.bool ba) ∧ Mod noB w w'))
    (HB : Hold (∀ w, Calls Try.prog 36 #[edV b] w fun r w' => r = .returned (.bool bb) ∧ Mod noB w w'))
    (hc : bp = false ∨ bp = true ∧ ba = false ∨ bp = true ∧ ba = true ∧ bb = false) :
    Calls Try.prog 18 #[plV p, edV a, edV b] w fun e w' => e = .returned (.tuple #[gpV zeroG, .int .i64 1]) ∧ Mod noB w w' := by
  have HF := Hold.mk (four_kept p a b w)
  rcases hc with rfl | ⟨rfl, rfl⟩ | ⟨rfl, rfl, rfl⟩
  all_goals
    go_enter Try.func18, Try.ntmps18
    go_wp2_with (first
      | (go_at_call 35; refine (HP.out _).mono ?_; rintro e w1 ⟨rfl, hM⟩; have HF := Hold.mk (HF.out.later hM); obtain ⟨a0, a1, a2, a3, a4, a5, a6⟩ := EdgeAt.of HF.out.now.1.1.2; obtain ⟨b0, b1, b2, b3, b4, b5, b6⟩ := EdgeAt.of HF.out.now.1.2
         obtain ⟨z, f⟩ := gap_free HF.out.now.2
         have z0 := z 0 (by omega); have z1 := z 1 (by omega); have z2 := z 2 (by omega); have z3 := z 3 (by omega); have z4 := z 4 (by omega); have z5 := z 5 (by omega)
         have f0 := f 0 (by omega); have f1 := f 1 (by omega); have f2 := f 2 (by omega); have f3 := f 3 (by omega); have f4 := f 4 (by omega); have f5 := f 5 (by omega)
         clear hM z f)
      | (go_at_call 36; have Kx := HA; refine (HA.out _).mono ?_; rintro e w2 ⟨rfl, hM⟩; clear a0 a1 a2 a3 a4 a5 a6 b0 b1 b2 b3 b4 b5 b6 z0 z1 z2 z3 z4 z5 f0 f1 f2 f3 f4 f5; have HF := Hold.mk (HF.out.later hM); obtain ⟨b0, b1, b2, b3, b4, b5, b6⟩ := EdgeAt.of HF.out.now.1.2
         obtain ⟨z, f⟩ := gap_free HF.out.now.2
         have z0 := z 0 (by omega); have z1 := z 1 (by omega); have z2 := z 2 (by omega); have z3 := z 3 (by omega); have z4 := z 4 (by omega); have z5 := z 5 (by omega)
         have f0 := f 0 (by omega); have f1 := f 1 (by omega); have f2 := f 2 (by omega); have f3 := f 3 (by omega); have f4 := f 4 (by omega); have f5 := f 5 (by omega)
         clear hM HA Kx z f)
      | (go_at_call 36; have Kx := HB; refine (HB.out _).mono ?_; rintro e w3 ⟨rfl, hM⟩; clear b0 b1 b2 b3 b4 b5 b6 z0 z1 z2 z3 z4 z5 f0 f1 f2 f3 f4 f5; have HF := Hold.mk (HF.out.later hM)
         obtain ⟨z, f⟩ := gap_free HF.out.now.2
         have z0 := z 0 (by omega); have z1 := z 1 (by omega); have z2 := z 2 (by omega); have z3 := z 3 (by omega); have z4 := z 4 (by omega); have z5 := z 5 (by omega)
         have f0 := f 0 (by omega); have f1 := f 1 (by omega); have f2 := f 2 (by omega); have f3 := f 3 (by omega); have f4 := f 4 (by omega); have f5 := f 5 (by omega)
         clear hM HB Kx z f))
    refine bodyPost_ret (v := .tuple #[gpV zeroG, .int .i64 1]) (by simp [results, Try.results18, go_sem, *]) rfl ⟨rfl, ?_⟩
    exact sixMod HF.out.now.1.1.1.1 (by omega)

set_option maxRecDepth 100000 in
set_option maxHeartbeats 4000000 in
theorem refBetween_6 (p : Ply) (a b x y : Edg) (w : World)
    (HP : Hold (∀ w, Calls Try.prog 35 #[plV p] w fun r w' => r = .returned (.bool true) ∧ Mod noB w w'))
    (HA : Hold (∀ w, Calls Try.prog 36 #[edV a] w fun r w' => r = .returned (.bool true) ∧ Mod noB w w'))
    (HB : Hold (∀ w, Calls Try.prog 36 #[edV b] w fun r w' => r = .returned (.bool true) ∧ Mod noB w w'))
    (HO : Hold (∀ w, Calls Try.prog 37 #[edV a, edV b] w fun r w' => r = .returned (.tuple #[edV x, edV y, .bool false]) ∧ Mod noB w w')) :
    Calls Try.prog 18 #[plV p, edV a, edV b] w fun e w' => e = .returned (.tuple #[gpV zeroG, .int .i64 6]) ∧ Mod noB w w' := by
  have HF := Hold.mk (four_kept p a b w)
  go_enter Try.func18, Try.ntmps18
  go_wp2_with (first
    | (go_at_call 35; refine (HP.out _).mono ?_; rintro e w1 ⟨rfl, hM⟩; have HF := Hold.mk (HF.out.later hM); obtain ⟨a0, a1, a2, a3, a4, a5, a6⟩ := EdgeAt.of HF.out.now.1.1.2; obtain ⟨b0, b1, b2, b3, b4, b5, b6⟩ := EdgeAt.of HF.out.now.1.2
       clear hM)
    | (go_at_call 36; have Kx := HA; refine (HA.out _).mono ?_; rintro e w2 ⟨rfl, hM⟩; clear a0 a1 a2 a3 a4 a5 a6 b0 b1 b2 b3 b4 b5 b6; have HF := Hold.mk (HF.out.later hM); obtain ⟨a0, a1, a2, a3, a4, a5, a6⟩ := EdgeAt.of HF.out.now.1.1.2; obtain ⟨b0, b1, b2, b3, b4, b5, b6⟩ := EdgeAt.of HF.out.now.1.2
       clear hM HA Kx)
    | (go_at_call 36; have Kx := HB; refine (HB.out _).mono ?_; rintro e w3 ⟨rfl, hM⟩; clear a0 a1 a2 a3 a4 a5 a6 b0 b1 b2 b3 b4 b5 b6; have HF := Hold.mk (HF.out.later hM); obtain ⟨a0, a1, a2, a3, a4, a5, a6⟩ := EdgeAt.of HF.out.now.1.1.2; obtain ⟨b0, b1, b2, b3, b4, b5, b6⟩ := EdgeAt.of HF.out.now.1.2
       clear hM HB Kx)
    | (go_at_call 37; refine (HO.out _).mono ?_; rintro e w4 ⟨rfl, hM⟩; clear a0 a1 a2 a3 a4 a5 a6 b0 b1 b2 b3 b4 b5 b6; have HF := Hold.mk (HF.out.later hM)
       obtain ⟨z, f⟩ := gap_free HF.out.now.2
       have hz := at_lt HF.out.now.2
       have hzb : w.heap.size + 1 + 1 < w4.heap.size := (by omega)
       have hzc : w.heap.size + 1 < w4.heap.size := (by omega)
       have hzd : w.heap.size < w4.heap.size := (by omega)
       have z0 := z 0 (by omega); have z1 := z 1 (by omega); have z2 := z 2 (by omega); have z3 := z 3 (by omega); have z4 := z 4 (by omega); have z5 := z 5 (by omega)
       have f0 := f 0 (by omega); have f1 := f 1 (by omega); have f2 := f 2 (by omega); have f3 := f 3 (by omega); have f4 := f 4 (by omega); have f5 := f 5 (by omega)
       clear hM z f))
  refine bodyPost_ret (v := .tuple #[gpV zeroG, .int .i64 6]) (by simp [results, Try.results18, go_sem, *]) rfl ⟨rfl, ?_⟩
  first | exact ((sixMod HF.out.now.1.1.1.1 (by omega)).alloc _).alloc _ | exact sixMod ((HF.out.now.1.1.1.1.alloc _).alloc _) (by omega)

set_option maxRecDepth 100000 in
set_option maxHeartbeats 4000000 in
theorem refBetween_0 (p : Ply) (a b t h : Edg) (x y z : Int × Int) (g : Gp) (w : World)
    (HP : Hold (∀ w, Calls Try.prog 35 #[plV p] w fun r w' => r = .returned (.bool true) ∧ Mod noB w w'))
    (HA : Hold (∀ w, Calls Try.prog 36 #[edV a] w fun r w' => r = .returned (.bool true) ∧ Mod noB w w'))
    (HB : Hold (∀ w, Calls Try.prog 36 #[edV b] w fun r w' => r = .returned (.bool true) ∧ Mod noB w w'))
    (HO : Hold (∀ w, Calls Try.prog 37 #[edV a, edV b] w fun r w' => r = .returned (.tuple #[edV t, edV h, .bool true]) ∧ Mod noB w w'))
    (HD : Hold (∀ w, Calls Try.prog 40 #[plV p, edV t, edV h] w fun e w' => e = .returned (dfV x y z) ∧ Mod noB w w'))
    (D1 : Hold (∀ w, Calls Try.prog 56 #[spV x, spV p.damp] w fun e w' => e = .returned (spV g.1) ∧ Mod noB w w'))
    (D2 : Hold (∀ w, Calls Try.prog 56 #[spV y, spV p.damp] w fun e w' => e = .returned (spV g.2.1) ∧ Mod noB w w'))
    (D3 : Hold (∀ w, Calls Try.prog 56 #[spV z, spV p.damp] w fun e w' => e = .returned (spV g.2.2) ∧ Mod noB w w')) :
    Calls Try.prog 18 #[plV p, edV a, edV b] w fun e w' => e = .returned (.tuple #[gpV g, .int .i64 0]) ∧ Mod noB w w' := by
  have HF := Hold.mk (four_kept p a b w)
  go_enter Try.func18, Try.ntmps18
  go_wp2_with (first
    | (go_at_call 35; refine (HP.out _).mono ?_; rintro e w1 ⟨rfl, hM⟩; have HF := Hold.mk (HF.out.later hM); obtain ⟨a0, a1, a2, a3, a4, a5, a6⟩ := EdgeAt.of HF.out.now.1.1.2; obtain ⟨b0, b1, b2, b3, b4, b5, b6⟩ := EdgeAt.of HF.out.now.1.2
       clear hM)
    | (go_at_call 36; have Kx := HA; refine (HA.out _).mono ?_; rintro e w2 ⟨rfl, hM⟩; clear a0 a1 a2 a3 a4 a5 a6 b0 b1 b2 b3 b4 b5 b6; have HF := Hold.mk (HF.out.later hM); obtain ⟨a0, a1, a2, a3, a4, a5, a6⟩ := EdgeAt.of HF.out.now.1.1.2; obtain ⟨b0, b1, b2, b3, b4, b5, b6⟩ := EdgeAt.of HF.out.now.1.2
       clear hM HA Kx)
    | (go_at_call 36; have Kx := HB; refine (HB.out _).mono ?_; rintro e w3 ⟨rfl, hM⟩; clear a0 a1 a2 a3 a4 a5 a6 b0 b1 b2 b3 b4 b5 b6; have HF := Hold.mk (HF.out.later hM); obtain ⟨a0, a1, a2, a3, a4, a5, a6⟩ := EdgeAt.of HF.out.now.1.1.2; obtain ⟨b0, b1, b2, b3, b4, b5, b6⟩ := EdgeAt.of HF.out.now.1.2
       clear hM HB Kx)
    | (go_at_call 37; refine (HO.out _).mono ?_; rintro e w4 ⟨rfl, hM⟩; clear a0 a1 a2 a3 a4 a5 a6 b0 b1 b2 b3 b4 b5 b6; have HF := Hold.mk (HF.out.later hM)
       obtain ⟨p0, p1, p2, p3, p4⟩ := PlayAt.of HF.out.now.1.1.1.2
       have hz := at_lt HF.out.now.1.1.1.2
       clear hM)
    | (go_at_call 40; refine (HD.out _).mono ?_; rintro e w5 ⟨rfl, hM⟩; clear p0 p1 p2 p3 p4 hz; have HF := Hold.mk (HF.out.later ((((Mod.refl noB _).alloc _).alloc _).trans hM)); clear hM))
  have hb6 := World.alloc_heap_new w5 (.cells (dfC x y z) 68)
  have HF6 := Hold.mk ((HF.out.later ((Mod.refl noB w5).alloc (.cells (dfC x y z) 68))).and (kept_block hb6))
  change Code.wp _ _ _ _ (w5.alloc (.cells (dfC x y z) 68))
  generalize w5.alloc (.cells (dfC x y z) 68) = W6 at *
  clear hb6
  refine region_tailP 16 ⟨by decide, by kernel_rfl, by kernel_rfl, by kernel_rfl, by kernel_rfl, by kernel_rfl⟩ (by kernel_rfl) (fun W' => Mod noB W6 W') ((Mod.refl _ _).drew) ?_
  simp only [strikeL, List.take_succ_cons, List.take_zero, List.drop_succ_cons, List.drop_zero, List.map_cons, List.map_nil, List.cons_append, List.nil_append, bareO]
  repeat
    (first
      | go_big_quiet_skip
      | (go_big_quiet_want
         go_simp
         first
           | go_big_quiet_on
           | (apply Exists.intro
              refine ⟨fun W' hC => ?_, ?_⟩
              · have hh := HF6.out W' hC
                obtain ⟨p0, p1, p2, p3, p4⟩ := PlayAt.of hh.1.1.1.1.2
                have q0 := cellsAt hh.2 0; have q1 := cellsAt hh.2 1; have q2 := cellsAt hh.2 2; have q3 := cellsAt hh.2 3; have q4 := cellsAt hh.2 4; have q5 := cellsAt hh.2 5
                first
                  | (go_at_call 56; (with_reducible refine (D1.out _).mono ?_); exact fun e w'' he => ⟨he.1, hC.trans he.2⟩)
                  | (go_at_call 56; (with_reducible refine (D2.out _).mono ?_); exact fun e w'' he => ⟨he.1, hC.trans he.2⟩)
                  | (go_at_call 56; (with_reducible refine (D3.out _).mono ?_); exact fun e w'' he => ⟨he.1, hC.trans he.2⟩)
                  | with_reducible rfl
                  | (go_simp; first | rfl | exact ⟨rfl, rfl⟩)
              go_big_quiet_on)
           | (refine ⟨⟨_, fun _ _ => rfl⟩, ?_⟩; go_big_quiet_on)))
  refine wpQuiet_nil ?_
  intro Wq hq
  have HQ := Hold.mk (HF6.out Wq hq)
  obtain ⟨zz, ff⟩ := gap_free HQ.out.1.2
  have z0 := zz 0 (by omega); have z1 := zz 1 (by omega); have z2 := zz 2 (by omega); have z3 := zz 3 (by omega); have z4 := zz 4 (by omega); have z5 := zz 5 (by omega)
  have f0 := ff 0 (by omega); have f1 := ff 1 (by omega); have f2 := ff 2 (by omega); have f3 := ff 3 (by omega); have f4 := ff 4 (by omega); have f5 := ff 5 (by omega)
  clear hq zz ff
  gi_wp2
  go_wp2
  refine bodyPost_ret (v := .tuple #[gpV g, .int .i64 0]) ?_ rfl ⟨rfl, ?_⟩
  · simp [results, Try.results18, go_sem, *]
  · exact sixMod HQ.out.1.1.1.1.1 (by omega)

theorem refBetween_any (p : Ply) (a b : Edg) (w : World) :
    Calls Try.prog 18 #[plV p, edV a, edV b] w fun e w' => e = .returned (.tuple #[gpV (betweenE p a b).1, .int .i64 (betweenE p a b).2]) ∧ Mod noB w w' := by
  have HP := fun w => refPlay_any p w
  have HA := fun w => refSide_any a w
  have HB := fun w => refSide_any b w
  by_cases h : playB p = true ∧ sideB a = true ∧ sideB b = true
  · obtain ⟨h1, h2, h3⟩ := h
    rw [h1] at HP
    rw [h2] at HA
    rw [h3] at HB
    obtain ⟨hb2, hb1⟩ := both_ordered a b
    have HO := fun w => both_any a b w
    cases ho : (orderedR a b).2 with
    | false =>
      rw [ho] at hb2
      rw [hb2] at HO
      rw [show betweenE p a b = (zeroG, 6) by simp [betweenE, h1, h2, h3, ho]]
      exact refBetween_6 p a b _ _ w ⟨HP⟩ ⟨HA⟩ ⟨HB⟩ ⟨HO⟩
    | true =>
      rw [ho] at hb2
      have hb3 := hb1 hb2
      rw [hb2, hb3] at HO
      rw [show betweenE p a b = (gapR p (orderedR a b).1.1 (orderedR a b).1.2, 0) by simp [betweenE, h1, h2, h3, ho]]
      obtain ⟨et, eh⟩ := ordered_small h2 h3 ho
      generalize (orderedR a b).1.1 = t at *
      generalize (orderedR a b).1.2 = h at *
      obtain ⟨⟨l1, l2⟩, ⟨k1, k2⟩, ⟨o1, o2⟩, d1, d2, d3⟩ := play_facts h1
      have hs := differ_small et eh (n := p.len) (by omega)
      exact refBetween_0 p a b t h _ _ _ _ w ⟨HP⟩ ⟨HA⟩ ⟨HB⟩ ⟨HO⟩ ⟨fun w => differ_any p t h w et eh (by omega)⟩
        ⟨fun w => refDamped_any _ _ w hs.1 (by omega)⟩ ⟨fun w => refDamped_any _ _ w hs.2.1 (by omega)⟩ ⟨fun w => refDamped_any _ _ w hs.2.2 (by omega)⟩
  · have he : betweenE p a b = (zeroG, 1) := by
      unfold betweenE
      revert h
      cases playB p <;> cases sideB a <;> cases sideB b <;> simp
    rw [he]
    refine refBetween_1 p a b w _ _ _ ⟨HP⟩ ⟨HA⟩ ⟨HB⟩ ?_
    revert h
    cases playB p <;> cases sideB a <;> cases sideB b <;> simp
end Go.Proofs.Ytnjbamikfjdofaa

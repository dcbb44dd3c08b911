/- The document's Worn: the same sides as the program's. -/
import Derived.Test.YtnjbamikfjdofaaRefD
import Derived.Test.YtnjbamikfjdofaaLasts
set_option linter.unusedSimpArgs false
set_option linter.unusedVariables false
namespace Go.Proofs.Ytnjbamikfjdofaa
open Go.RowKit Go.Shelf

theorem edge_free {w : World} {b : Nat} (h : w.heap[b]? = some (.cells (edC zeroE) 27)) : FreeAt w b 7 := FreeAt.of (T := 27) (n := 7) h
theorem worn_kept (s : Edg) (r : Int × Int) (w : World) : Kept (((w.alloc (.cells (edC s) 27)).alloc (.cells #[.int .i64 r.1, .int .i64 r.2] 23)).alloc (.cells (edC zeroE) 27)) (fun w' => ((Mod noB w w' ∧ w'.heap[w.heap.size]? = some (.cells (edC s) 27)) ∧ w'.heap[w.heap.size + 1]? = some (.cells #[.int .i64 r.1, .int .i64 r.2] 23)) ∧ w'.heap[w.heap.size + 1 + 1]? = some (.cells (edC zeroE) 27)) := fun w' h => by
  rw [allocL3] at h
  exact ⟨⟨⟨(allocL_mod noB _ w).trans h, at_allocL _ h 0 _ rfl⟩, at_allocL _ h 1 _ rfl⟩, at_allocL _ h 2 _ rfl⟩

set_option maxRecDepth 100000 in
set_option maxHeartbeats 4000000 in
theorem refWorn_1 (s : Edg) (r : Int × Int) (n : Int) (w : World) (HS : Hold (∀ w, Calls Try.prog 36 #[edV s] w fun r w' => r = .returned (.bool false) ∧ Mod noB w w')) :
    Calls Try.prog 20 #[edV s, spV r, .int .i64 n] w fun e w' => e = .returned (.tuple #[edV zeroE, .int .i64 1]) ∧ Mod noB w w' := by
  have HF := Hold.mk (worn_kept s r w)
  go_enter Try.func20, Try.ntmps20
  go_wp2_with (go_at_call 36; refine (HS.out _).mono ?_; rintro e w1 ⟨rfl, hM⟩; have HF := Hold.mk (HF.out.later hM); obtain ⟨z, f⟩ := edge_free HF.out.now.2; have z0 := z 0 (by omega); have z1 := z 1 (by omega); have z2 := z 2 (by omega); have z3 := z 3 (by omega); have z4 := z 4 (by omega); have z5 := z 5 (by omega); have z6 := z 6 (by omega); have f0 := f 0 (by omega); have f1 := f 1 (by omega); have f2 := f 2 (by omega); have f3 := f 3 (by omega); have f4 := f 4 (by omega); have f5 := f 5 (by omega); have f6 := f 6 (by omega); clear z f; clear hM)
  refine bodyPost_ret (v := .tuple #[edV zeroE, .int .i64 1]) (by simp [results, Try.results20, go_sem, *]) rfl ⟨rfl, ?_⟩
  exact sevenMod HF.out.now.1.1.1 (by omega)

set_option maxRecDepth 100000 in
set_option maxHeartbeats 4000000 in
theorem refWorn_2 (s : Edg) (r : Int × Int) (n : Int) (w : World) (b1 b2 : Bool) (hc : b1 = false ∨ b1 = true ∧ b2 = false) (HS : Hold (∀ w, Calls Try.prog 36 #[edV s] w fun r w' => r = .returned (.bool true) ∧ Mod noB w w'))
    (HR : Hold (∀ w, Calls Try.prog 59 #[spV r, .int .i64 0, .int .i64 100] w fun r w' => r = .returned (.bool b1) ∧ Mod noB w w'))
    (HN : Hold (∀ w, Calls Try.prog 60 #[.int .i64 n, .int .i64 0, .int .i64 20000] w fun r w' => r = .returned (.bool b2) ∧ Mod noB w w')) :
    Calls Try.prog 20 #[edV s, spV r, .int .i64 n] w fun e w' => e = .returned (.tuple #[edV zeroE, .int .i64 2]) ∧ Mod noB w w' := by
  have HF := Hold.mk (worn_kept s r w)
  rcases hc with rfl | ⟨rfl, rfl⟩
  all_goals
    go_enter Try.func20, Try.ntmps20
    go_wp2_with (first
      | (go_at_call 36; refine (HS.out _).mono ?_; rintro e w1 ⟨rfl, hM⟩; have HF := Hold.mk (HF.out.later hM); obtain ⟨z, f⟩ := edge_free HF.out.now.2; have z0 := z 0 (by omega); have z1 := z 1 (by omega); have z2 := z 2 (by omega); have z3 := z 3 (by omega); have z4 := z 4 (by omega); have z5 := z 5 (by omega); have z6 := z 6 (by omega); have f0 := f 0 (by omega); have f1 := f 1 (by omega); have f2 := f 2 (by omega); have f3 := f 3 (by omega); have f4 := f 4 (by omega); have f5 := f 5 (by omega); have f6 := f 6 (by omega); clear z f; obtain ⟨s0, s1, s2, s3, s4, s5, s6⟩ := EdgeAt.of HF.out.now.1.1.2; have r0 := cellsAt HF.out.now.1.2 0; have r1 := cellsAt HF.out.now.1.2 1; clear hM)
      | (go_at_call 59; refine (HR.out _).mono ?_; rintro e w2 ⟨rfl, hM⟩; clear z0 z1 z2 z3 z4 z5 z6 f0 f1 f2 f3 f4 f5 f6; clear s0 s1 s2 s3 s4 s5 s6 r0 r1; have HF := Hold.mk (HF.out.later hM); obtain ⟨z, f⟩ := edge_free HF.out.now.2; have z0 := z 0 (by omega); have z1 := z 1 (by omega); have z2 := z 2 (by omega); have z3 := z 3 (by omega); have z4 := z 4 (by omega); have z5 := z 5 (by omega); have z6 := z 6 (by omega); have f0 := f 0 (by omega); have f1 := f 1 (by omega); have f2 := f 2 (by omega); have f3 := f 3 (by omega); have f4 := f 4 (by omega); have f5 := f 5 (by omega); have f6 := f 6 (by omega); clear z f; obtain ⟨s0, s1, s2, s3, s4, s5, s6⟩ := EdgeAt.of HF.out.now.1.1.2; have r0 := cellsAt HF.out.now.1.2 0; have r1 := cellsAt HF.out.now.1.2 1; clear hM)
      | (go_at_call 60; refine (HN.out _).mono ?_; rintro e w3 ⟨rfl, hM⟩; clear z0 z1 z2 z3 z4 z5 z6 f0 f1 f2 f3 f4 f5 f6; clear s0 s1 s2 s3 s4 s5 s6 r0 r1; have HF := Hold.mk (HF.out.later hM); obtain ⟨z, f⟩ := edge_free HF.out.now.2; have z0 := z 0 (by omega); have z1 := z 1 (by omega); have z2 := z 2 (by omega); have z3 := z 3 (by omega); have z4 := z 4 (by omega); have z5 := z 5 (by omega); have z6 := z 6 (by omega); have f0 := f 0 (by omega); have f1 := f 1 (by omega); have f2 := f 2 (by omega); have f3 := f 3 (by omega); have f4 := f 4 (by omega); have f5 := f 5 (by omega); have f6 := f 6 (by omega); clear z f; clear hM))
    refine bodyPost_ret (v := .tuple #[edV zeroE, .int .i64 2]) (by simp [results, Try.results20, go_sem, *]) rfl ⟨rfl, ?_⟩
    exact sevenMod HF.out.now.1.1.1 (by omega)

set_option maxRecDepth 100000 in
set_option maxHeartbeats 4000000 in
theorem refWorn_6 (a wi d : Int × Int) (r : Int × Int) (n : Int) (w : World) (HS : Hold (∀ w, Calls Try.prog 36 #[edV ⟨0, a, wi, d⟩] w fun r w' => r = .returned (.bool true) ∧ Mod noB w w'))
    (HR : Hold (∀ w, Calls Try.prog 59 #[spV r, .int .i64 0, .int .i64 100] w fun r w' => r = .returned (.bool true) ∧ Mod noB w w'))
    (HN : Hold (∀ w, Calls Try.prog 60 #[.int .i64 n, .int .i64 0, .int .i64 20000] w fun r w' => r = .returned (.bool true) ∧ Mod noB w w')) :
    Calls Try.prog 20 #[edV ⟨0, a, wi, d⟩, spV r, .int .i64 n] w fun e w' => e = .returned (.tuple #[edV zeroE, .int .i64 6]) ∧ Mod noB w w' := by
  have HF := Hold.mk (worn_kept ⟨0, a, wi, d⟩ r w)
  go_enter Try.func20, Try.ntmps20
  go_wp2_with (first
    | (go_at_call 36; refine (HS.out _).mono ?_; rintro e w1 ⟨rfl, hM⟩; have HF := Hold.mk (HF.out.later hM); obtain ⟨s0, s1, s2, s3, s4, s5, s6⟩ := EdgeAt.of HF.out.now.1.1.2; have r0 := cellsAt HF.out.now.1.2 0; have r1 := cellsAt HF.out.now.1.2 1; clear hM)
    | (go_at_call 59; refine (HR.out _).mono ?_; rintro e w2 ⟨rfl, hM⟩; clear s0 s1 s2 s3 s4 s5 s6 r0 r1; have HF := Hold.mk (HF.out.later hM); obtain ⟨s0, s1, s2, s3, s4, s5, s6⟩ := EdgeAt.of HF.out.now.1.1.2; have r0 := cellsAt HF.out.now.1.2 0; have r1 := cellsAt HF.out.now.1.2 1; clear hM)
    | (go_at_call 60; refine (HN.out _).mono ?_; rintro e w3 ⟨rfl, hM⟩; clear s0 s1 s2 s3 s4 s5 s6 r0 r1; have HF := Hold.mk (HF.out.later hM); obtain ⟨s0, s1, s2, s3, s4, s5, s6⟩ := EdgeAt.of HF.out.now.1.1.2; have r0 := cellsAt HF.out.now.1.2 0; have r1 := cellsAt HF.out.now.1.2 1; obtain ⟨z, f⟩ := edge_free HF.out.now.2; have z0 := z 0 (by omega); have z1 := z 1 (by omega); have z2 := z 2 (by omega); have z3 := z 3 (by omega); have z4 := z 4 (by omega); have z5 := z 5 (by omega); have z6 := z 6 (by omega); have f0 := f 0 (by omega); have f1 := f 1 (by omega); have f2 := f 2 (by omega); have f3 := f 3 (by omega); have f4 := f 4 (by omega); have f5 := f 5 (by omega); have f6 := f 6 (by omega); clear z f; clear hM))
  refine bodyPost_ret (v := .tuple #[edV zeroE, .int .i64 6]) (by simp [results, Try.results20, go_sem, *]) rfl ⟨rfl, ?_⟩
  exact sevenMod HF.out.now.1.1.1 (by omega)

set_option maxRecDepth 100000 in
set_option maxHeartbeats 8000000 in
theorem refWorn_tab (a : Int × Int) (x y : Int) (d : Int × Int) (u v : Int) (n : Int) (w : World) (hx : 0 ≤ x ∧ x ≤ 3000) (hy : 0 ≤ y ∧ y ≤ 3000) (hu : 0 ≤ u ∧ u ≤ 100) (hv : 0 ≤ v ∧ v ≤ 100) (hn : 0 ≤ n ∧ n ≤ 20000) (ok : Bool)
    (hok : withinB ((1000 * x - v * n) / 1000, -(-(1000 * y - u * n) / 1000)) 1 3000 = ok)
    (HS : Hold (∀ w, Calls Try.prog 36 #[edV ⟨1, a, (x, y), d⟩] w fun r w' => r = .returned (.bool true) ∧ Mod noB w w'))
    (HR : Hold (∀ w, Calls Try.prog 59 #[spV (u, v), .int .i64 0, .int .i64 100] w fun r w' => r = .returned (.bool true) ∧ Mod noB w w'))
    (HN : Hold (∀ w, Calls Try.prog 60 #[.int .i64 n, .int .i64 0, .int .i64 20000] w fun r w' => r = .returned (.bool true) ∧ Mod noB w w')) :
    Calls Try.prog 20 #[edV ⟨1, a, (x, y), d⟩, spV (u, v), .int .i64 n] w fun e w' => e = .returned (if ok = true then .tuple #[edV ⟨1, a, ((1000 * x - v * n) / 1000, -(-(1000 * y - u * n) / 1000)), d⟩, .int .i64 0] else .tuple #[edV zeroE, .int .i64 11]) ∧ Mod noB w w' := by
  have HF := Hold.mk (worn_kept ⟨1, a, (x, y), d⟩ (u, v) w)
  obtain ⟨m1, m2⟩ := mul_bd (m := 100) (k := 20000) (a := u) (b := n) (by omega) (by omega)
  obtain ⟨m3, m4⟩ := mul_bd (m := 100) (k := 20000) (a := v) (b := n) (by omega) (by omega)
  obtain ⟨x1, x2⟩ := hx
  obtain ⟨y1, y2⟩ := hy
  have t1 : IntKind.i64.wrap (1000 * x) = 1000 * x := IntWalk.i64_in _ (by omega)
  have t2 : IntKind.i64.wrap (1000 * y) = 1000 * y := IntWalk.i64_in _ (by omega)
  have t3 : IntKind.i64.wrap (u * n) = u * n := IntWalk.i64_in _ (by omega)
  have t4 : IntKind.i64.wrap (v * n) = v * n := IntWalk.i64_in _ (by omega)
  have t5 : IntKind.i64.wrap (1000 * x - v * n) = 1000 * x - v * n := IntWalk.i64_in _ (by omega)
  have t6 : IntKind.i64.wrap (1000 * y - u * n) = 1000 * y - u * n := IntWalk.i64_in _ (by omega)
  have t7 : IntKind.i64.wrap (1000 * x + u * n) = 1000 * x + u * n := IntWalk.i64_in _ (by omega)
  have t8 : IntKind.i64.wrap (1000 * y + v * n) = 1000 * y + v * n := IntWalk.i64_in _ (by omega)
  have D1 := Hold.mk (fun w => down_any (1000 * x - v * n) w (by omega))
  have D2 := Hold.mk (fun w => up_any (1000 * y - u * n) w (by omega))
  have D3 := Hold.mk (fun w => down_any (1000 * x + u * n) w (by omega))
  have D4 := Hold.mk (fun w => up_any (1000 * y + v * n) w (by omega))
  have HW := Hold.mk (fun w => refSpan_any ((1000 * x - v * n) / 1000, -(-(1000 * y - u * n) / 1000)) 1 3000 w)
  rw [hok] at HW
  clear hok hu hv hn
  go_enter Try.func20, Try.ntmps20
  go_wp2_with (first
    | (go_at_call 36; refine (HS.out _).mono ?_; rintro e w1 ⟨rfl, hM⟩; have HF := Hold.mk (HF.out.later hM); obtain ⟨s0, s1, s2, s3, s4, s5, s6⟩ := EdgeAt.of HF.out.now.1.1.2; have r0 := cellsAt HF.out.now.1.2 0; have r1 := cellsAt HF.out.now.1.2 1; clear hM)
    | (go_at_call 59; refine (HR.out _).mono ?_; rintro e w2 ⟨rfl, hM⟩; clear s0 s1 s2 s3 s4 s5 s6 r0 r1; have HF := Hold.mk (HF.out.later hM); obtain ⟨s0, s1, s2, s3, s4, s5, s6⟩ := EdgeAt.of HF.out.now.1.1.2; have r0 := cellsAt HF.out.now.1.2 0; have r1 := cellsAt HF.out.now.1.2 1; clear hM)
    | (go_at_call 60; refine (HN.out _).mono ?_; rintro e w3 ⟨rfl, hM⟩; clear s0 s1 s2 s3 s4 s5 s6 r0 r1; have HF := Hold.mk (HF.out.later hM); obtain ⟨s0, s1, s2, s3, s4, s5, s6⟩ := EdgeAt.of HF.out.now.1.1.2; have r0 := cellsAt HF.out.now.1.2 0; have r1 := cellsAt HF.out.now.1.2 1; clear hM))
  clear s0 s1 s2 s3 s4 s5 s6 r0 r1
  refine region_makerP (swapL _ 21 22 _ _) 21 22 _ _ (.cells #[.int .i64 0, .int .i64 0] 23) (made_of (by decide) rfl rfl rfl rfl rfl (by kernel_rfl) (by kernel_rfl) (by kernel_rfl) (fun _ _ => rfl)) (fun _ => by kernel_rfl) (swapL_len _ _ _ _ _) ?_
  intro nb X hX
  dsimp only [swapL, List.set]
  have GET : Hold (∀ W', X W' → W'.cell? ⟨w.heap.size, 3, none⟩ = some (.int .i64 x) ∧ W'.cell? ⟨w.heap.size, 4, none⟩ = some (.int .i64 y) ∧ W'.cell? ⟨w.heap.size + 1, 0, none⟩ = some (.int .i64 u) ∧ W'.cell? ⟨w.heap.size + 1, 1, none⟩ = some (.int .i64 v)) := ⟨fun W' h => by
    have hh := HF.out W' (((Mod.refl noB w3).drew).trans (hX.mod _ h))
    exact ⟨cellsAt hh.1.1.2 3, cellsAt hh.1.1.2 4, cellsAt hh.1.2 0, cellsAt hh.1.2 1⟩⟩
  repeat
    (first
      | go_big_quiet_skip
      | (go_big_quiet_want
         go_simp
         first
           | go_big_quiet_on
           | (refine ⟨⟨_, fun _ _ => rfl⟩, ?_⟩; go_big_quiet_on)
           | (apply Exists.intro
              refine ⟨fun W' hC => ?_, ?_⟩
              · obtain ⟨q3, q4, r0, r1⟩ := GET.out W' hC
                first
                | (go_at_call 41; (with_reducible refine (D1.out _).mono ?_); exact fun e w'' he => ⟨he.1, hX.stable _ _ hC he.2⟩)
                | (go_at_call 42; (with_reducible refine (D2.out _).mono ?_); exact fun e w'' he => ⟨he.1, hX.stable _ _ hC he.2⟩)
                  | with_reducible rfl
                  | (go_simp; first | rfl | exact ⟨rfl, rfl⟩)
              go_big_quiet_on)))
  refine wpQuiet_nil ?_
  intro Wq hMq hnb hbq
  have hMq1 := ((Mod.refl noB w3).drew).trans hMq
  have hs3 := at_lt HF.out.now.2
  have HB := Hold.mk hbq
  clear hbq hMq hX GET
  refine wpListIn_storeRow rfl 23 (.tmp 8) (.tmp 46) rfl nb rfl #[.int .i64 ((1000 * x - v * n) / 1000), .int .i64 (-(-(1000 * y - u * n) / 1000))] rfl 23 _ HB.out (by kernel_rfl) rfl (by simp [Value.oneCell']) ?_
  refine wpListIn_nil ?_
  obtain ⟨W3, hW3⟩ : ∃ W3, Wq.putObj nb (.cells #[.int .i64 ((1000 * x - v * n) / 1000), .int .i64 (-(-(1000 * y - u * n) / 1000))] 23) = W3 := ⟨_, rfl⟩
  rw [hW3]
  have hb3 : W3.heap[nb]? = some (.cells #[.int .i64 ((1000 * x - v * n) / 1000), .int .i64 (-(-(1000 * y - u * n) / 1000))] 23) := by rw [← hW3]; exact World.putObj_heap_same (Array.getElem?_eq_some_iff.1 HB.out).1
  have hM3 : Mod noB w3 W3 := by rw [← hW3]; exact hMq1.putObj (fun h => by omega) _
  have HF := Hold.mk ((HF.out.later hM3).and (kept_block hb3))
  clear hW3 hb3 hM3 hMq1 HB
  obtain ⟨s0, s1, s2, s3, s4, s5, s6⟩ := EdgeAt.of HF.out.now.1.1.1.2; have k0 := cellsAt HF.out.now.2 0; have k1 := cellsAt HF.out.now.2 1
  cases ok
  all_goals
    go_wp2_with (go_at_call 59; refine (HW.out _).mono ?_; rintro e w5 ⟨rfl, hM⟩; clear s0 s1 s2 s3 s4 s5 s6 k0 k1; have HF := Hold.mk (HF.out.later hM); obtain ⟨s0, s1, s2, s3, s4, s5, s6⟩ := EdgeAt.of HF.out.now.1.1.1.2; have k0 := cellsAt HF.out.now.2 0; have k1 := cellsAt HF.out.now.2 1; obtain ⟨z, f⟩ := edge_free HF.out.now.1.2; have z0 := z 0 (by omega); have z1 := z 1 (by omega); have z2 := z 2 (by omega); have z3 := z 3 (by omega); have z4 := z 4 (by omega); have z5 := z 5 (by omega); have z6 := z 6 (by omega); have f0 := f 0 (by omega); have f1 := f 1 (by omega); have f2 := f 2 (by omega); have f3 := f 3 (by omega); have f4 := f 4 (by omega); have f5 := f 5 (by omega); have f6 := f 6 (by omega); clear z f
                 have g3 := cells_frozen HF.out.now.1.1.1.2 3; have g4 := cells_frozen HF.out.now.1.1.1.2 4
                 clear hM)
  · refine bodyPost_ret (v := .tuple #[edV zeroE, .int .i64 11]) (by simp [results, Try.results20, go_sem, *]) rfl ⟨rfl, ?_⟩
    exact sevenMod HF.out.now.1.1.1.1 (by omega)
  · refine bodyPost_ret (v := .tuple #[edV ⟨1, a, ((1000 * x - v * n) / 1000, -(-(1000 * y - u * n) / 1000)), d⟩, .int .i64 0]) (by simp [results, Try.results20, go_sem, *]) rfl ⟨rfl, ?_⟩
    exact sevenMod (Mod.setNew (Mod.setNew HF.out.now.1.1.1.1 (by omega) _) (by omega) _) (by omega)

set_option maxRecDepth 100000 in
set_option maxHeartbeats 8000000 in
theorem refWorn_hole (a : Int × Int) (x y : Int) (d : Int × Int) (u v : Int) (n : Int) (w : World) (hx : 0 ≤ x ∧ x ≤ 3000) (hy : 0 ≤ y ∧ y ≤ 3000) (hu : 0 ≤ u ∧ u ≤ 100) (hv : 0 ≤ v ∧ v ≤ 100) (hn : 0 ≤ n ∧ n ≤ 20000) (ok : Bool)
    (hok : withinB ((1000 * x + u * n) / 1000, -(-(1000 * y + v * n) / 1000)) 1 3000 = ok)
    (HS : Hold (∀ w, Calls Try.prog 36 #[edV ⟨2, a, (x, y), d⟩] w fun r w' => r = .returned (.bool true) ∧ Mod noB w w'))
    (HR : Hold (∀ w, Calls Try.prog 59 #[spV (u, v), .int .i64 0, .int .i64 100] w fun r w' => r = .returned (.bool true) ∧ Mod noB w w'))
    (HN : Hold (∀ w, Calls Try.prog 60 #[.int .i64 n, .int .i64 0, .int .i64 20000] w fun r w' => r = .returned (.bool true) ∧ Mod noB w w')) :
    Calls Try.prog 20 #[edV ⟨2, a, (x, y), d⟩, spV (u, v), .int .i64 n] w fun e w' => e = .returned (if ok = true then .tuple #[edV ⟨2, a, ((1000 * x + u * n) / 1000, -(-(1000 * y + v * n) / 1000)), d⟩, .int .i64 0] else .tuple #[edV zeroE, .int .i64 11]) ∧ Mod noB w w' := by
  have HF := Hold.mk (worn_kept ⟨2, a, (x, y), d⟩ (u, v) w)
  obtain ⟨m1, m2⟩ := mul_bd (m := 100) (k := 20000) (a := u) (b := n) (by omega) (by omega)
  obtain ⟨m3, m4⟩ := mul_bd (m := 100) (k := 20000) (a := v) (b := n) (by omega) (by omega)
  obtain ⟨x1, x2⟩ := hx
  obtain ⟨y1, y2⟩ := hy
  have t1 : IntKind.i64.wrap (1000 * x) = 1000 * x := IntWalk.i64_in _ (by omega)
  have t2 : IntKind.i64.wrap (1000 * y) = 1000 * y := IntWalk.i64_in _ (by omega)
  have t3 : IntKind.i64.wrap (u * n) = u * n := IntWalk.i64_in _ (by omega)
  have t4 : IntKind.i64.wrap (v * n) = v * n := IntWalk.i64_in _ (by omega)
  have t5 : IntKind.i64.wrap (1000 * x - v * n) = 1000 * x - v * n := IntWalk.i64_in _ (by omega)
  have t6 : IntKind.i64.wrap (1000 * y - u * n) = 1000 * y - u * n := IntWalk.i64_in _ (by omega)
  have t7 : IntKind.i64.wrap (1000 * x + u * n) = 1000 * x + u * n := IntWalk.i64_in _ (by omega)
  have t8 : IntKind.i64.wrap (1000 * y + v * n) = 1000 * y + v * n := IntWalk.i64_in _ (by omega)
  have D1 := Hold.mk (fun w => down_any (1000 * x - v * n) w (by omega))
  have D2 := Hold.mk (fun w => up_any (1000 * y - u * n) w (by omega))
  have D3 := Hold.mk (fun w => down_any (1000 * x + u * n) w (by omega))
  have D4 := Hold.mk (fun w => up_any (1000 * y + v * n) w (by omega))
  have HW := Hold.mk (fun w => refSpan_any ((1000 * x + u * n) / 1000, -(-(1000 * y + v * n) / 1000)) 1 3000 w)
  rw [hok] at HW
  clear hok hu hv hn
  go_enter Try.func20, Try.ntmps20
  go_wp2_with (first
    | (go_at_call 36; refine (HS.out _).mono ?_; rintro e w1 ⟨rfl, hM⟩; have HF := Hold.mk (HF.out.later hM); obtain ⟨s0, s1, s2, s3, s4, s5, s6⟩ := EdgeAt.of HF.out.now.1.1.2; have r0 := cellsAt HF.out.now.1.2 0; have r1 := cellsAt HF.out.now.1.2 1; clear hM)
    | (go_at_call 59; refine (HR.out _).mono ?_; rintro e w2 ⟨rfl, hM⟩; clear s0 s1 s2 s3 s4 s5 s6 r0 r1; have HF := Hold.mk (HF.out.later hM); obtain ⟨s0, s1, s2, s3, s4, s5, s6⟩ := EdgeAt.of HF.out.now.1.1.2; have r0 := cellsAt HF.out.now.1.2 0; have r1 := cellsAt HF.out.now.1.2 1; clear hM)
    | (go_at_call 60; refine (HN.out _).mono ?_; rintro e w3 ⟨rfl, hM⟩; clear s0 s1 s2 s3 s4 s5 s6 r0 r1; have HF := Hold.mk (HF.out.later hM); obtain ⟨s0, s1, s2, s3, s4, s5, s6⟩ := EdgeAt.of HF.out.now.1.1.2; have r0 := cellsAt HF.out.now.1.2 0; have r1 := cellsAt HF.out.now.1.2 1; clear hM))
  clear s0 s1 s2 s3 s4 s5 s6 r0 r1
  refine region_makerP (swapL _ 21 22 _ _) 21 22 _ _ (.cells #[.int .i64 0, .int .i64 0] 23) (made_of (by decide) rfl rfl rfl rfl rfl (by kernel_rfl) (by kernel_rfl) (by kernel_rfl) (fun _ _ => rfl)) (fun _ => by kernel_rfl) (swapL_len _ _ _ _ _) ?_
  intro nb X hX
  dsimp only [swapL, List.set]
  have GET : Hold (∀ W', X W' → W'.cell? ⟨w.heap.size, 3, none⟩ = some (.int .i64 x) ∧ W'.cell? ⟨w.heap.size, 4, none⟩ = some (.int .i64 y) ∧ W'.cell? ⟨w.heap.size + 1, 0, none⟩ = some (.int .i64 u) ∧ W'.cell? ⟨w.heap.size + 1, 1, none⟩ = some (.int .i64 v)) := ⟨fun W' h => by
    have hh := HF.out W' (((Mod.refl noB w3).drew).trans (hX.mod _ h))
    exact ⟨cellsAt hh.1.1.2 3, cellsAt hh.1.1.2 4, cellsAt hh.1.2 0, cellsAt hh.1.2 1⟩⟩
  repeat
    (first
      | go_big_quiet_skip
      | (go_big_quiet_want
         go_simp
         first
           | go_big_quiet_on
           | (refine ⟨⟨_, fun _ _ => rfl⟩, ?_⟩; go_big_quiet_on)
           | (apply Exists.intro
              refine ⟨fun W' hC => ?_, ?_⟩
              · obtain ⟨q3, q4, r0, r1⟩ := GET.out W' hC
                first
                | (go_at_call 41; (with_reducible refine (D1.out _).mono ?_); exact fun e w'' he => ⟨he.1, hX.stable _ _ hC he.2⟩)
                | (go_at_call 42; (with_reducible refine (D2.out _).mono ?_); exact fun e w'' he => ⟨he.1, hX.stable _ _ hC he.2⟩)
                  | with_reducible rfl
                  | (go_simp; first | rfl | exact ⟨rfl, rfl⟩)
              go_big_quiet_on)))
  refine wpQuiet_nil ?_
  intro Wq hMq hnb hbq
  have hMq1 := ((Mod.refl noB w3).drew).trans hMq
  have hs3 := at_lt HF.out.now.2
  have HB := Hold.mk hbq
  clear hbq hMq hX GET
  refine wpListIn_storeRow rfl 23 (.tmp 8) (.tmp 46) rfl nb rfl #[.int .i64 ((1000 * x - v * n) / 1000), .int .i64 (-(-(1000 * y - u * n) / 1000))] rfl 23 _ HB.out (by kernel_rfl) rfl (by simp [Value.oneCell']) ?_
  refine wpListIn_nil ?_
  obtain ⟨W3, hW3⟩ : ∃ W3, Wq.putObj nb (.cells #[.int .i64 ((1000 * x - v * n) / 1000), .int .i64 (-(-(1000 * y - u * n) / 1000))] 23) = W3 := ⟨_, rfl⟩
  rw [hW3]
  have hb3 : W3.heap[nb]? = some (.cells #[.int .i64 ((1000 * x - v * n) / 1000), .int .i64 (-(-(1000 * y - u * n) / 1000))] 23) := by rw [← hW3]; exact World.putObj_heap_same (Array.getElem?_eq_some_iff.1 HB.out).1
  have hM3 : Mod noB w3 W3 := by rw [← hW3]; exact hMq1.putObj (fun h => by omega) _
  have HF := Hold.mk ((HF.out.later hM3).and (kept_block hb3))
  clear hW3 hb3 hM3 hMq1 HB
  obtain ⟨s0, s1, s2, s3, s4, s5, s6⟩ := EdgeAt.of HF.out.now.1.1.1.2; have k0 := cellsAt HF.out.now.2 0; have k1 := cellsAt HF.out.now.2 1
  go_wp2
  clear s0 s1 s2 s3 s4 s5 s6 k0 k1
  have hW : w.heap.size + 1 + 1 < nb := by omega
  refine region_tailP 21 ⟨by decide, by kernel_rfl, by kernel_rfl, by kernel_rfl, by kernel_rfl, by kernel_rfl⟩ (by kernel_rfl) (fun W' => Mod noB W3 W') ((Mod.refl _ _).drew) ?_
  simp only [strikeL, List.take_succ_cons, List.take_zero, List.drop_succ_cons, List.drop_zero, List.map_cons, List.map_nil, List.cons_append, List.nil_append, bareO]
  repeat
    (first
      | go_big_quiet_skip
      | (go_big_quiet_want
         go_simp
         first
           | go_big_quiet_on
           | (refine ⟨⟨_, fun _ _ => rfl⟩, ?_⟩; go_big_quiet_on)
           | (apply Exists.intro
              refine ⟨fun W' hC => ?_, ?_⟩
              · have hh := HF.out W' hC; have q3 := cellsAt hh.1.1.1.2 3; have q4 := cellsAt hh.1.1.1.2 4; have r0 := cellsAt hh.1.1.2 0; have r1 := cellsAt hh.1.1.2 1
                first
                | (go_at_call 41; (with_reducible refine (D3.out _).mono ?_); exact fun e w'' he => ⟨he.1, hC.trans he.2⟩)
                | (go_at_call 42; (with_reducible refine (D4.out _).mono ?_); exact fun e w'' he => ⟨he.1, hC.trans he.2⟩)
                  | with_reducible rfl
                  | (go_simp; first | rfl | exact ⟨rfl, rfl⟩)
              go_big_quiet_on)))
  refine wpQuiet_nil ?_
  intro Wr hr
  have HF := Hold.mk (HF.out.later hr)
  refine wpListIn_storeRow rfl 23 (.tmp 8) (.tmp 70) rfl nb rfl #[.int .i64 ((1000 * x + u * n) / 1000), .int .i64 (-(-(1000 * y + v * n) / 1000))] rfl 23 _ HF.out.now.2 (by kernel_rfl) rfl (by simp [Value.oneCell']) ?_
  refine wpListIn_nil ?_
  obtain ⟨W7, hW7⟩ : ∃ W7, Wr.putObj nb (.cells #[.int .i64 ((1000 * x + u * n) / 1000), .int .i64 (-(-(1000 * y + v * n) / 1000))] 23) = W7 := ⟨_, rfl⟩
  rw [hW7]
  have hb7 : W7.heap[nb]? = some (.cells #[.int .i64 ((1000 * x + u * n) / 1000), .int .i64 (-(-(1000 * y + v * n) / 1000))] 23) := by rw [← hW7]; exact World.putObj_heap_same (Array.getElem?_eq_some_iff.1 HF.out.now.2).1
  have hn0 := HF.out.now
  have e0 : W7.heap[w.heap.size]? = some (.cells (edC ⟨2, a, (x, y), d⟩) 27) := by rw [← hW7]; exact (World.putObj_heap_other (by omega)).trans hn0.1.1.1.2
  have e1 : W7.heap[w.heap.size + 1]? = some (.cells #[.int .i64 u, .int .i64 v] 23) := by rw [← hW7]; exact (World.putObj_heap_other (by omega)).trans hn0.1.1.2
  have e2 : W7.heap[w.heap.size + 1 + 1]? = some (.cells (edC zeroE) 27) := by rw [← hW7]; exact (World.putObj_heap_other (by omega)).trans hn0.1.2
  have hM7 : Mod noB w W7 := by rw [← hW7]; exact hn0.1.1.1.1.putObj (fun h => by omega) _
  have HF := Hold.mk (((((Kept.later (kept_mod w) hM7).and (kept_block e0)).and (kept_block e1)).and (kept_block e2)).and (kept_block hb7))
  clear hr hW7 hb7 hn0 e0 e1 e2 hM7
  have k0 := cellsAt HF.out.now.2 0
  have k1 := cellsAt HF.out.now.2 1
  cases ok
  all_goals
    go_wp2_with (go_at_call 59; refine (HW.out _).mono ?_; rintro e w5 ⟨rfl, hM⟩; clear k0 k1; have HF := Hold.mk (HF.out.later hM); obtain ⟨s0, s1, s2, s3, s4, s5, s6⟩ := EdgeAt.of HF.out.now.1.1.1.2; have k0 := cellsAt HF.out.now.2 0; have k1 := cellsAt HF.out.now.2 1; obtain ⟨z, f⟩ := edge_free HF.out.now.1.2; have z0 := z 0 (by omega); have z1 := z 1 (by omega); have z2 := z 2 (by omega); have z3 := z 3 (by omega); have z4 := z 4 (by omega); have z5 := z 5 (by omega); have z6 := z 6 (by omega); have f0 := f 0 (by omega); have f1 := f 1 (by omega); have f2 := f 2 (by omega); have f3 := f 3 (by omega); have f4 := f 4 (by omega); have f5 := f 5 (by omega); have f6 := f 6 (by omega); clear z f
                 have g3 := cells_frozen HF.out.now.1.1.1.2 3; have g4 := cells_frozen HF.out.now.1.1.1.2 4
                 clear hM)
  · refine bodyPost_ret (v := .tuple #[edV zeroE, .int .i64 11]) (by simp [results, Try.results20, go_sem, *]) rfl ⟨rfl, ?_⟩
    exact sevenMod HF.out.now.1.1.1.1 (by omega)
  · refine bodyPost_ret (v := .tuple #[edV ⟨2, a, ((1000 * x + u * n) / 1000, -(-(1000 * y + v * n) / 1000)), d⟩, .int .i64 0]) (by simp [results, Try.results20, go_sem, *]) rfl ⟨rfl, ?_⟩
    exact sevenMod (Mod.setNew (Mod.setNew HF.out.now.1.1.1.1 (by omega) _) (by omega) _) (by omega)
end Go.Proofs.Ytnjbamikfjdofaa

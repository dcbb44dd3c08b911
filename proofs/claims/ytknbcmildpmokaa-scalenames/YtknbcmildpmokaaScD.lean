/- which tests are valid. -/
import Derived.Test.YtknbcmildpmokaaScC
set_option linter.unusedSimpArgs false
set_option linter.unusedVariables false
namespace Go.Proofs.Ytknbcmildpmokaa
open Go.RowKit


theorem two_in {w w' : World} {o1 o2 : Obj} (h : Mod noB ((w.alloc o1).alloc o2) w') : w'.heap[w.heap.size]? = some o1 ∧ w'.heap[w.heap.size + 1]? = some o2 :=
  ⟨at_allocL [o1, o2] h 0 _ rfl, at_allocL [o1, o2] h 1 _ rfl⟩

set_option maxHeartbeats 4000000 in
theorem isTest_scale (n : Nat) (ao : Option Addr) (cap : Nat) (b : Bx) (t : Tst) (w : World) (h0 : t.how = 0) :
    Calls Try.prog 44 #[bxV ao n cap b, tsV t] w fun r w' => r = .returned (.bool (testB n t)) ∧ Mod noB w w' := by
  obtain ⟨how, kinds, err, pass, cost⟩ := t
  obtain ⟨ks, bag, lost, extra⟩ := b
  have HM0 := Hold.mk (((Mod.refl noB w).alloc (.cells (bxC ao n cap ⟨ks, bag, lost, extra⟩) 26)).alloc (.cells (tsC ⟨how, kinds, err, pass, cost⟩) 29))
  have FIN : Hold (∀ W', Mod noB ((w.alloc (.cells (bxC ao n cap ⟨ks, bag, lost, extra⟩) 26)).alloc (.cells (tsC ⟨how, kinds, err, pass, cost⟩) 29)) W' → (W'.cell? ⟨w.heap.size, 0, none⟩ = some (.slice ao n cap)) ∧ W'.cell? ⟨w.heap.size + 1, 0, none⟩ = some (.int .i64 how) ∧ W'.cell? ⟨w.heap.size + 1, 1, none⟩ = some (.int .i64 kinds) ∧ W'.cell? ⟨w.heap.size + 1, 2, none⟩ = some (.int .i64 err.1) ∧
      W'.cell? ⟨w.heap.size + 1, 3, none⟩ = some (.int .i64 err.2) ∧ W'.cell? ⟨w.heap.size + 1, 4, none⟩ = some (.int .i64 pass.1) ∧ W'.cell? ⟨w.heap.size + 1, 5, none⟩ = some (.int .i64 pass.2) ∧ W'.cell? ⟨w.heap.size + 1, 6, none⟩ = some (.int .i64 cost)) := ⟨fun W' h => by
    obtain ⟨h1, h2⟩ := two_in h
    exact ⟨cellsAt h1 0, cellsAt h2 0, cellsAt h2 1, cellsAt h2 2, cellsAt h2 3, cellsAt h2 4, cellsAt h2 5, cellsAt h2 6⟩⟩

  simp only at h0
  subst h0
  have he0 : testB n ⟨0, kinds, err, pass, cost⟩ = (withinB (-1000000) 1000000 err && (decide (pass.1 ≤ pass.2) && fromB 0 10000 cost)) := by simp [testB, howB]

  have H1 := within_eq (-1000000) 1000000 err _ rfl
  have H3 := from_eq 0 10000 cost _ rfl
  generalize withinB (-1000000) 1000000 err = v1 at *
  generalize fromB 0 10000 cost = v3 at *

  by_cases hp : pass.1 ≤ pass.2
  · have he : Hold (testB n ⟨0, kinds, err, pass, cost⟩ = (v1 && v3)) := ⟨by rw [he0]; simp [hp]⟩
    clear he0
    cases v1 with
    | false =>
      go_enter Try.func44, Try.ntmps44
      go_wp2_with (first
        | (go_at_call 66; have H1x := H1; refine (H1.out _).mono ?_; rintro e w1 ⟨rfl, hM⟩; obtain ⟨c0, c1, c2, c3, c4, c5, c6, c7⟩ := FIN.out _ hM; have HM1 := Hold.mk (HM0.out.trans hM); clear hM H1 H1x)
        | (go_at_call 65; have H3x := H3; refine (H3.out _).mono ?_; rintro e w1 ⟨rfl, hM⟩; have HM2 := Hold.mk (HM1.out.trans hM); clear hM H3 H3x))
      go_ret
      exact ⟨by rw [he.out] <;> rfl, by first | exact HM2.out | exact HM1.out⟩
    | true =>
      go_enter Try.func44, Try.ntmps44
      go_wp2_with (first
        | (go_at_call 66; have H1x := H1; refine (H1.out _).mono ?_; rintro e w1 ⟨rfl, hM⟩; obtain ⟨c0, c1, c2, c3, c4, c5, c6, c7⟩ := FIN.out _ hM; have HM1 := Hold.mk (HM0.out.trans hM); clear hM H1 H1x)
        | (go_at_call 65; have H3x := H3; refine (H3.out _).mono ?_; rintro e w1 ⟨rfl, hM⟩; have HM2 := Hold.mk (HM1.out.trans hM); clear hM H3 H3x))
      go_ret
      exact ⟨by rw [he.out] <;> rfl, by first | exact HM2.out | exact HM1.out⟩
  · have he : Hold (testB n ⟨0, kinds, err, pass, cost⟩ = (v1 && false)) := ⟨by rw [he0]; simp [hp]⟩
    clear he0
    cases v1 with
    | false =>
      go_enter Try.func44, Try.ntmps44
      go_wp2_with (first
        | (go_at_call 66; have H1x := H1; refine (H1.out _).mono ?_; rintro e w1 ⟨rfl, hM⟩; obtain ⟨c0, c1, c2, c3, c4, c5, c6, c7⟩ := FIN.out _ hM; have HM1 := Hold.mk (HM0.out.trans hM); clear hM H1 H1x)
        | (go_at_call 65; have H3x := H3; refine (H3.out _).mono ?_; rintro e w1 ⟨rfl, hM⟩; have HM2 := Hold.mk (HM1.out.trans hM); clear hM H3 H3x))
      go_ret
      exact ⟨by rw [he.out] <;> rfl, by first | exact HM2.out | exact HM1.out⟩
    | true =>
      go_enter Try.func44, Try.ntmps44
      go_wp2_with (first
        | (go_at_call 66; have H1x := H1; refine (H1.out _).mono ?_; rintro e w1 ⟨rfl, hM⟩; obtain ⟨c0, c1, c2, c3, c4, c5, c6, c7⟩ := FIN.out _ hM; have HM1 := Hold.mk (HM0.out.trans hM); clear hM H1 H1x)
        | (go_at_call 65; have H3x := H3; refine (H3.out _).mono ?_; rintro e w1 ⟨rfl, hM⟩; have HM2 := Hold.mk (HM1.out.trans hM); clear hM H3 H3x))
      go_ret
      exact ⟨by rw [he.out] <;> rfl, by first | exact HM2.out | exact HM1.out⟩
set_option maxHeartbeats 4000000 in
theorem isTest_camera (n : Nat) (ao : Option Addr) (cap : Nat) (b : Bx) (t : Tst) (w : World) (hn : n ≤ 4) (h0 : t.how = 1) :
    Calls Try.prog 44 #[bxV ao n cap b, tsV t] w fun r w' => r = .returned (.bool (testB n t)) ∧ Mod noB w w' := by
  obtain ⟨how, kinds, err, pass, cost⟩ := t
  obtain ⟨ks, bag, lost, extra⟩ := b
  have HM0 := Hold.mk (((Mod.refl noB w).alloc (.cells (bxC ao n cap ⟨ks, bag, lost, extra⟩) 26)).alloc (.cells (tsC ⟨how, kinds, err, pass, cost⟩) 29))
  have FIN : Hold (∀ W', Mod noB ((w.alloc (.cells (bxC ao n cap ⟨ks, bag, lost, extra⟩) 26)).alloc (.cells (tsC ⟨how, kinds, err, pass, cost⟩) 29)) W' → (W'.cell? ⟨w.heap.size, 0, none⟩ = some (.slice ao n cap)) ∧ W'.cell? ⟨w.heap.size + 1, 0, none⟩ = some (.int .i64 how) ∧ W'.cell? ⟨w.heap.size + 1, 1, none⟩ = some (.int .i64 kinds) ∧ W'.cell? ⟨w.heap.size + 1, 2, none⟩ = some (.int .i64 err.1) ∧
      W'.cell? ⟨w.heap.size + 1, 3, none⟩ = some (.int .i64 err.2) ∧ W'.cell? ⟨w.heap.size + 1, 4, none⟩ = some (.int .i64 pass.1) ∧ W'.cell? ⟨w.heap.size + 1, 5, none⟩ = some (.int .i64 pass.2) ∧ W'.cell? ⟨w.heap.size + 1, 6, none⟩ = some (.int .i64 cost)) := ⟨fun W' h => by
    obtain ⟨h1, h2⟩ := two_in h
    exact ⟨cellsAt h1 0, cellsAt h2 0, cellsAt h2 1, cellsAt h2 2, cellsAt h2 3, cellsAt h2 4, cellsAt h2 5, cellsAt h2 6⟩⟩

  simp only at h0
  subst h0
  have he0 : testB n ⟨1, kinds, err, pass, cost⟩ = (fromB 0 (2 ^ n - 1) kinds && (withinB (-1000000) 1000000 err && (decide (pass.1 ≤ pass.2) && fromB 0 10000 cost))) := by simp [testB, howB]
  have hpw : (1 : Int) ≤ 2 ^ n ∧ (2 : Int) ^ n ≤ 16 := by
    rcases (by omega : n = 0 ∨ n = 1 ∨ n = 2 ∨ n = 3 ∨ n = 4) with rfl | rfl | rfl | rfl | rfl <;> simp
  have H5 := from_eq 0 (2 ^ n - 1) kinds _ rfl
  generalize fromB 0 (2 ^ n - 1) kinds = v0 at *
  have HSH1 : Hold (IntKind.i64.wrap ((2 : Int) ^ n) = 2 ^ n) := ⟨IntWalk.i64_in _ (by omega)⟩
  have HSH2 : Hold (IntKind.i64.wrap ((2 : Int) ^ n - 1) = 2 ^ n - 1) := ⟨IntWalk.i64_in _ (by omega)⟩
  clear hpw

  have H1 := within_eq (-1000000) 1000000 err _ rfl
  have H3 := from_eq 0 10000 cost _ rfl
  generalize withinB (-1000000) 1000000 err = v1 at *
  generalize fromB 0 10000 cost = v3 at *

  by_cases hp : pass.1 ≤ pass.2
  · have he : Hold (testB n ⟨1, kinds, err, pass, cost⟩ = (v0 && (v1 && v3))) := ⟨by rw [he0]; simp [hp]⟩
    clear he0
    cases v0 with
    | false =>
      go_enter Try.func44, Try.ntmps44
      go_wp2
      refine region_quietP (by kernel_rfl) (by kernel_rfl) (fun W' => Mod noB ((w.alloc (.cells (bxC ao n cap ⟨ks, bag, lost, extra⟩) 26)).alloc (.cells (tsC ⟨1, kinds, err, pass, cost⟩) 29)) W') (Mod.refl _ _).drew ?_
      repeat
        (first
          | go_big_quiet_skip
          | (go_big_quiet_want
             go_simp
             try rw [HSH1.out]
             try rw [HSH2.out]
             first
               | go_big_quiet_on
               | (apply Exists.intro
                  refine ⟨fun W' hC => ?_, ?_⟩
                  · obtain ⟨c0, c1, c2, c3, c4, c5, c6, c7⟩ := FIN.out W' hC
                    first
                      | (go_at_call 65; exact (H5.out _).mono fun e w2 hh => ⟨hh.1, hC.trans hh.2⟩)
                      | with_reducible rfl
                      | (go_simp; first | rfl | exact ⟨rfl, rfl⟩)
                  go_big_quiet_on)
               | (refine ⟨⟨_, fun _ _ => rfl⟩, ?_⟩; go_big_quiet_on)))
      refine wpQuiet_nil ?_
      intro Wq hq
      have HQ := Hold.mk hq
      have HQM := Hold.mk (HM0.out.trans hq)
      obtain ⟨c0, c1, c2, c3, c4, c5, c6, c7⟩ := FIN.out _ hq
      clear hq
      go_wp2
      go_ret
      exact ⟨by rw [he.out] <;> rfl, HQM.out⟩
    | true =>
      cases v1 with
      | false =>
        go_enter Try.func44, Try.ntmps44
        go_wp2
        refine region_quietP (by kernel_rfl) (by kernel_rfl) (fun W' => Mod noB ((w.alloc (.cells (bxC ao n cap ⟨ks, bag, lost, extra⟩) 26)).alloc (.cells (tsC ⟨1, kinds, err, pass, cost⟩) 29)) W') (Mod.refl _ _).drew ?_
        repeat
          (first
            | go_big_quiet_skip
            | (go_big_quiet_want
               go_simp
               try rw [HSH1.out]
               try rw [HSH2.out]
               first
                 | go_big_quiet_on
                 | (apply Exists.intro
                    refine ⟨fun W' hC => ?_, ?_⟩
                    · obtain ⟨c0, c1, c2, c3, c4, c5, c6, c7⟩ := FIN.out W' hC
                      first
                        | (go_at_call 65; exact (H5.out _).mono fun e w2 hh => ⟨hh.1, hC.trans hh.2⟩)
                        | with_reducible rfl
                        | (go_simp; first | rfl | exact ⟨rfl, rfl⟩)
                    go_big_quiet_on)
                 | (refine ⟨⟨_, fun _ _ => rfl⟩, ?_⟩; go_big_quiet_on)))
        refine wpQuiet_nil ?_
        intro Wq hq
        have HQ := Hold.mk hq
        have HQM := Hold.mk (HM0.out.trans hq)
        obtain ⟨c0, c1, c2, c3, c4, c5, c6, c7⟩ := FIN.out _ hq
        clear hq
        go_wp2_with (first
          | (go_at_call 66; have H1x := H1; refine (H1.out _).mono ?_; rintro e w1 ⟨rfl, hM⟩; obtain ⟨c0, c1, c2, c3, c4, c5, c6, c7⟩ := FIN.out _ (HQ.out.trans hM); have HM1 := Hold.mk (HM0.out.trans (HQ.out.trans hM)); clear hM H1 H1x)
          | (go_at_call 65; have H3x := H3; refine (H3.out _).mono ?_; rintro e w1 ⟨rfl, hM⟩; have HM2 := Hold.mk (HM1.out.trans hM); clear hM H3 H3x))
        go_ret
        exact ⟨by rw [he.out] <;> rfl, by first | exact HM2.out | exact HM1.out⟩
      | true =>
        go_enter Try.func44, Try.ntmps44
        go_wp2
        refine region_quietP (by kernel_rfl) (by kernel_rfl) (fun W' => Mod noB ((w.alloc (.cells (bxC ao n cap ⟨ks, bag, lost, extra⟩) 26)).alloc (.cells (tsC ⟨1, kinds, err, pass, cost⟩) 29)) W') (Mod.refl _ _).drew ?_
        repeat
          (first
            | go_big_quiet_skip
            | (go_big_quiet_want
               go_simp
               try rw [HSH1.out]
               try rw [HSH2.out]
               first
                 | go_big_quiet_on
                 | (apply Exists.intro
                    refine ⟨fun W' hC => ?_, ?_⟩
                    · obtain ⟨c0, c1, c2, c3, c4, c5, c6, c7⟩ := FIN.out W' hC
                      first
                        | (go_at_call 65; exact (H5.out _).mono fun e w2 hh => ⟨hh.1, hC.trans hh.2⟩)
                        | with_reducible rfl
                        | (go_simp; first | rfl | exact ⟨rfl, rfl⟩)
                    go_big_quiet_on)
                 | (refine ⟨⟨_, fun _ _ => rfl⟩, ?_⟩; go_big_quiet_on)))
        refine wpQuiet_nil ?_
        intro Wq hq
        have HQ := Hold.mk hq
        have HQM := Hold.mk (HM0.out.trans hq)
        obtain ⟨c0, c1, c2, c3, c4, c5, c6, c7⟩ := FIN.out _ hq
        clear hq
        go_wp2_with (first
          | (go_at_call 66; have H1x := H1; refine (H1.out _).mono ?_; rintro e w1 ⟨rfl, hM⟩; obtain ⟨c0, c1, c2, c3, c4, c5, c6, c7⟩ := FIN.out _ (HQ.out.trans hM); have HM1 := Hold.mk (HM0.out.trans (HQ.out.trans hM)); clear hM H1 H1x)
          | (go_at_call 65; have H3x := H3; refine (H3.out _).mono ?_; rintro e w1 ⟨rfl, hM⟩; have HM2 := Hold.mk (HM1.out.trans hM); clear hM H3 H3x))
        go_ret
        exact ⟨by rw [he.out] <;> rfl, by first | exact HM2.out | exact HM1.out⟩
  · have he : Hold (testB n ⟨1, kinds, err, pass, cost⟩ = (v0 && (v1 && false))) := ⟨by rw [he0]; simp [hp]⟩
    clear he0
    cases v0 with
    | false =>
      go_enter Try.func44, Try.ntmps44
      go_wp2
      refine region_quietP (by kernel_rfl) (by kernel_rfl) (fun W' => Mod noB ((w.alloc (.cells (bxC ao n cap ⟨ks, bag, lost, extra⟩) 26)).alloc (.cells (tsC ⟨1, kinds, err, pass, cost⟩) 29)) W') (Mod.refl _ _).drew ?_
      repeat
        (first
          | go_big_quiet_skip
          | (go_big_quiet_want
             go_simp
             try rw [HSH1.out]
             try rw [HSH2.out]
             first
               | go_big_quiet_on
               | (apply Exists.intro
                  refine ⟨fun W' hC => ?_, ?_⟩
                  · obtain ⟨c0, c1, c2, c3, c4, c5, c6, c7⟩ := FIN.out W' hC
                    first
                      | (go_at_call 65; exact (H5.out _).mono fun e w2 hh => ⟨hh.1, hC.trans hh.2⟩)
                      | with_reducible rfl
                      | (go_simp; first | rfl | exact ⟨rfl, rfl⟩)
                  go_big_quiet_on)
               | (refine ⟨⟨_, fun _ _ => rfl⟩, ?_⟩; go_big_quiet_on)))
      refine wpQuiet_nil ?_
      intro Wq hq
      have HQ := Hold.mk hq
      have HQM := Hold.mk (HM0.out.trans hq)
      obtain ⟨c0, c1, c2, c3, c4, c5, c6, c7⟩ := FIN.out _ hq
      clear hq
      go_wp2
      go_ret
      exact ⟨by rw [he.out] <;> rfl, HQM.out⟩
    | true =>
      cases v1 with
      | false =>
        go_enter Try.func44, Try.ntmps44
        go_wp2
        refine region_quietP (by kernel_rfl) (by kernel_rfl) (fun W' => Mod noB ((w.alloc (.cells (bxC ao n cap ⟨ks, bag, lost, extra⟩) 26)).alloc (.cells (tsC ⟨1, kinds, err, pass, cost⟩) 29)) W') (Mod.refl _ _).drew ?_
        repeat
          (first
            | go_big_quiet_skip
            | (go_big_quiet_want
               go_simp
               try rw [HSH1.out]
               try rw [HSH2.out]
               first
                 | go_big_quiet_on
                 | (apply Exists.intro
                    refine ⟨fun W' hC => ?_, ?_⟩
                    · obtain ⟨c0, c1, c2, c3, c4, c5, c6, c7⟩ := FIN.out W' hC
                      first
                        | (go_at_call 65; exact (H5.out _).mono fun e w2 hh => ⟨hh.1, hC.trans hh.2⟩)
                        | with_reducible rfl
                        | (go_simp; first | rfl | exact ⟨rfl, rfl⟩)
                    go_big_quiet_on)
                 | (refine ⟨⟨_, fun _ _ => rfl⟩, ?_⟩; go_big_quiet_on)))
        refine wpQuiet_nil ?_
        intro Wq hq
        have HQ := Hold.mk hq
        have HQM := Hold.mk (HM0.out.trans hq)
        obtain ⟨c0, c1, c2, c3, c4, c5, c6, c7⟩ := FIN.out _ hq
        clear hq
        go_wp2_with (first
          | (go_at_call 66; have H1x := H1; refine (H1.out _).mono ?_; rintro e w1 ⟨rfl, hM⟩; obtain ⟨c0, c1, c2, c3, c4, c5, c6, c7⟩ := FIN.out _ (HQ.out.trans hM); have HM1 := Hold.mk (HM0.out.trans (HQ.out.trans hM)); clear hM H1 H1x)
          | (go_at_call 65; have H3x := H3; refine (H3.out _).mono ?_; rintro e w1 ⟨rfl, hM⟩; have HM2 := Hold.mk (HM1.out.trans hM); clear hM H3 H3x))
        go_ret
        exact ⟨by rw [he.out] <;> rfl, by first | exact HM2.out | exact HM1.out⟩
      | true =>
        go_enter Try.func44, Try.ntmps44
        go_wp2
        refine region_quietP (by kernel_rfl) (by kernel_rfl) (fun W' => Mod noB ((w.alloc (.cells (bxC ao n cap ⟨ks, bag, lost, extra⟩) 26)).alloc (.cells (tsC ⟨1, kinds, err, pass, cost⟩) 29)) W') (Mod.refl _ _).drew ?_
        repeat
          (first
            | go_big_quiet_skip
            | (go_big_quiet_want
               go_simp
               try rw [HSH1.out]
               try rw [HSH2.out]
               first
                 | go_big_quiet_on
                 | (apply Exists.intro
                    refine ⟨fun W' hC => ?_, ?_⟩
                    · obtain ⟨c0, c1, c2, c3, c4, c5, c6, c7⟩ := FIN.out W' hC
                      first
                        | (go_at_call 65; exact (H5.out _).mono fun e w2 hh => ⟨hh.1, hC.trans hh.2⟩)
                        | with_reducible rfl
                        | (go_simp; first | rfl | exact ⟨rfl, rfl⟩)
                    go_big_quiet_on)
                 | (refine ⟨⟨_, fun _ _ => rfl⟩, ?_⟩; go_big_quiet_on)))
        refine wpQuiet_nil ?_
        intro Wq hq
        have HQ := Hold.mk hq
        have HQM := Hold.mk (HM0.out.trans hq)
        obtain ⟨c0, c1, c2, c3, c4, c5, c6, c7⟩ := FIN.out _ hq
        clear hq
        go_wp2_with (first
          | (go_at_call 66; have H1x := H1; refine (H1.out _).mono ?_; rintro e w1 ⟨rfl, hM⟩; obtain ⟨c0, c1, c2, c3, c4, c5, c6, c7⟩ := FIN.out _ (HQ.out.trans hM); have HM1 := Hold.mk (HM0.out.trans (HQ.out.trans hM)); clear hM H1 H1x)
          | (go_at_call 65; have H3x := H3; refine (H3.out _).mono ?_; rintro e w1 ⟨rfl, hM⟩; have HM2 := Hold.mk (HM1.out.trans hM); clear hM H3 H3x))
        go_ret
        exact ⟨by rw [he.out] <;> rfl, by first | exact HM2.out | exact HM1.out⟩
set_option maxHeartbeats 4000000 in
theorem isTest_no (n : Nat) (ao : Option Addr) (cap : Nat) (b : Bx) (t : Tst) (w : World) (h0 : ¬ t.how = 0) (h1 : ¬ t.how = 1) :
    Calls Try.prog 44 #[bxV ao n cap b, tsV t] w fun r w' => r = .returned (.bool (testB n t)) ∧ Mod noB w w' := by
  obtain ⟨how, kinds, err, pass, cost⟩ := t
  obtain ⟨ks, bag, lost, extra⟩ := b
  have HM0 := Hold.mk (((Mod.refl noB w).alloc (.cells (bxC ao n cap ⟨ks, bag, lost, extra⟩) 26)).alloc (.cells (tsC ⟨how, kinds, err, pass, cost⟩) 29))
  have FIN : Hold (∀ W', Mod noB ((w.alloc (.cells (bxC ao n cap ⟨ks, bag, lost, extra⟩) 26)).alloc (.cells (tsC ⟨how, kinds, err, pass, cost⟩) 29)) W' → (W'.cell? ⟨w.heap.size, 0, none⟩ = some (.slice ao n cap)) ∧ W'.cell? ⟨w.heap.size + 1, 0, none⟩ = some (.int .i64 how) ∧ W'.cell? ⟨w.heap.size + 1, 1, none⟩ = some (.int .i64 kinds) ∧ W'.cell? ⟨w.heap.size + 1, 2, none⟩ = some (.int .i64 err.1) ∧
      W'.cell? ⟨w.heap.size + 1, 3, none⟩ = some (.int .i64 err.2) ∧ W'.cell? ⟨w.heap.size + 1, 4, none⟩ = some (.int .i64 pass.1) ∧ W'.cell? ⟨w.heap.size + 1, 5, none⟩ = some (.int .i64 pass.2) ∧ W'.cell? ⟨w.heap.size + 1, 6, none⟩ = some (.int .i64 cost)) := ⟨fun W' h => by
    obtain ⟨h1, h2⟩ := two_in h
    exact ⟨cellsAt h1 0, cellsAt h2 0, cellsAt h2 1, cellsAt h2 2, cellsAt h2 3, cellsAt h2 4, cellsAt h2 5, cellsAt h2 6⟩⟩

  simp only at h0 h1
  have he : Hold (testB n ⟨how, kinds, err, pass, cost⟩ = false) := ⟨by simp [testB, howB, h0, h1]⟩
  go_enter Try.func44, Try.ntmps44
  go_wp2
  go_ret
  exact ⟨by rw [he.out] <;> rfl, HM0.out⟩

theorem isTest_any (n : Nat) (ao : Option Addr) (cap : Nat) (b : Bx) (t : Tst) (w : World) (hn : n ≤ 4) : Calls Try.prog 44 #[bxV ao n cap b, tsV t] w fun r w' => r = .returned (.bool (testB n t)) ∧ Mod noB w w' := by
  by_cases h0 : t.how = 0
  · exact isTest_scale n ao cap b t w h0
  · by_cases h1 : t.how = 1
    · exact isTest_camera n ao cap b t w hn h1
    · exact isTest_no n ao cap b t w h0 h1

end Go.Proofs.Ytknbcmildpmokaa

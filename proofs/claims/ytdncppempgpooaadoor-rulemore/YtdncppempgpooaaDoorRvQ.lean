/- The document's Lasts. -/
import Derived.Test.YtdncppempgpooaaDoorRvP
set_option linter.unusedSimpArgs false
set_option linter.unusedVariables false
namespace Go.Proofs.YtdncppempgpooaaDoor
open Go.RowKit Go.Shelf

set_option maxRecDepth 100000 in
set_option maxHeartbeats 4000000 in
theorem docLasts_no (B : Nat) (ao : Option Addr) (cap : Nat) (d : Dye) (k n : Int) (w : World) (hB : B ≤ w.heap.size) (hs : BladesAt B w ao d.bl) (h0 : (dieB d && (hasB d k && fromB 0 200000 n)) = false) :
    Calls Tryd.prog 17 #[dyV ao d.bl.length cap d, .int .i64 k, .int .i64 n] w (TwoRes (lastsE d k n) w) := by
  have HF := Hold.mk (own2 w ao cap d)
  have hsm := hs.small
  cases h1 : dieB d with
  | false =>
    have H1 : Hold (∀ w1, Mod noB w w1 → Calls Tryd.prog 27 #[dyV ao d.bl.length cap d] w1 fun r w' => r = .returned (.bool false) ∧ Mod noB w1 w') := ⟨fun w1 h => by rw [← h1]; exact refDie_any B ao cap d w1 (Nat.le_trans hB h.size) (hs.low (Low.ofN h hB))⟩
    have he : Hold (lastsE d k n = ((0, 0), 1)) := ⟨by simp [lastsE, h1]⟩
    have HM := Hold.mk (allocL_mod noB [.cells (dyC ao d.bl.length cap d) 24, .cells (spC (0, 0)) 28] w)
    clear h1 h0 hs hB hsm
    go_enter Tryd.func17, Tryd.ntmps17
    go_wp2_with (go_at_call 27; refine (H1.out _ HM.out).mono ?_; rintro e w1 ⟨rfl, hM⟩; have HF := Hold.mk (HF.out.later hM); have hb := HF.out.now.2.1; have c0 := cellsAt hb 0; have c1 := cellsAt hb 1; have f0 := frozen_at hb 0; have f1 := frozen_at hb 1; clear hM hb)
    exact bodyPost_ret (v := .tuple #[spV (0, 0), .int .i64 1]) (by simp [results, Tryd.results17, go_sem, *]) rfl ⟨by rw [he.out], Mod.setNew (Mod.setNew HF.out.now.2.2 (by omega) _) (by omega) _⟩
  | true =>
    have H1 : Hold (∀ w1, Mod noB w w1 → Calls Tryd.prog 27 #[dyV ao d.bl.length cap d] w1 fun r w' => r = .returned (.bool true) ∧ Mod noB w1 w') := ⟨fun w1 h => by rw [← h1]; exact refDie_any B ao cap d w1 (Nat.le_trans hB h.size) (hs.low (Low.ofN h hB))⟩
    have HM := Hold.mk (allocL_mod noB [.cells (dyC ao d.bl.length cap d) 24, .cells (spC (0, 0)) 28] w)
    have he : Hold (lastsE d k n = ((0, 0), 2)) := ⟨by
      rw [h1, Bool.true_and] at h0
      simp [lastsE, h1, h0]⟩
    cases h2 : hasB d k with
    | false =>
      have H2 : Hold (∀ w1, Calls Tryd.prog 43 #[.int .i64 k, .int .i64 0, .int .i64 (d.bl.length - 1)] w1 fun r w' => r = .returned (.bool false) ∧ w' = w1) := ⟨fun w1 => by rw [← h2]; exact refIn_any k 0 (d.bl.length - 1) w1⟩
      clear h1 h0 hs hB h2
      go_enter Tryd.func17, Tryd.ntmps17
      go_wp2_with (first
        | (go_at_call 27; refine (H1.out _ HM.out).mono ?_; rintro e w1 ⟨rfl, hM⟩; have HF := Hold.mk (HF.out.later hM); have ha := HF.out.now.1; have d0 := cellsAt ha 0; have d1 := cellsAt ha 1; have d2 := cellsAt ha 2; have d3 := cellsAt ha 3; have hb := HF.out.now.2.1; have c0 := cellsAt hb 0; have c1 := cellsAt hb 1; have f0 := frozen_at hb 0; have f1 := frozen_at hb 1; clear hM ha hb)
        | (go_at_call 43; with_reducible refine (H2.out _).mono ?_; rintro e w2 ⟨rfl, rfl⟩))
      exact bodyPost_ret (v := .tuple #[spV (0, 0), .int .i64 2]) (by simp [results, Tryd.results17, go_sem, *]) rfl ⟨by rw [he.out], Mod.setNew (Mod.setNew HF.out.now.2.2 (by omega) _) (by omega) _⟩
    | true =>
      have H2 : Hold (∀ w1, Calls Tryd.prog 43 #[.int .i64 k, .int .i64 0, .int .i64 (d.bl.length - 1)] w1 fun r w' => r = .returned (.bool true) ∧ w' = w1) := ⟨fun w1 => by rw [← h2]; exact refIn_any k 0 (d.bl.length - 1) w1⟩
      have H3 : Hold (∀ w1, Calls Tryd.prog 43 #[.int .i64 n, .int .i64 0, .int .i64 200000] w1 fun r w' => r = .returned (.bool false) ∧ w' = w1) := ⟨fun w1 => by rw [← ((by rw [h1, h2, Bool.true_and, Bool.true_and] at h0; exact h0) : fromB 0 200000 n = false)]; exact refIn_any n 0 200000 w1⟩
      clear h1 h0 hs hB h2
      go_enter Tryd.func17, Tryd.ntmps17
      go_wp2_with (first
        | (go_at_call 27; refine (H1.out _ HM.out).mono ?_; rintro e w1 ⟨rfl, hM⟩; have HF := Hold.mk (HF.out.later hM); have ha := HF.out.now.1; have d0 := cellsAt ha 0; have d1 := cellsAt ha 1; have d2 := cellsAt ha 2; have d3 := cellsAt ha 3; have hb := HF.out.now.2.1; have c0 := cellsAt hb 0; have c1 := cellsAt hb 1; have f0 := frozen_at hb 0; have f1 := frozen_at hb 1; clear hM ha hb)
        | (go_at_call 43; with_reducible refine (H2.out _).mono ?_; rintro e w2 ⟨rfl, rfl⟩)
        | (go_at_call 43; with_reducible refine (H3.out _).mono ?_; rintro e w2 ⟨rfl, rfl⟩))
      exact bodyPost_ret (v := .tuple #[spV (0, 0), .int .i64 2]) (by simp [results, Tryd.results17, go_sem, *]) rfl ⟨by rw [he.out], Mod.setNew (Mod.setNew HF.out.now.2.2 (by omega) _) (by omega) _⟩

set_option maxRecDepth 100000 in
set_option maxHeartbeats 4000000 in
theorem docLasts_yes (B : Nat) (ao : Option Addr) (cap : Nat) (d : Dye) (k n : Int) (w : World) (hB : B ≤ w.heap.size) (hs : BladesAt B w ao d.bl) (h1 : dieB d = true) (h2 : hasB d k = true) (h3 : fromB 0 200000 n = true) :
    Calls Tryd.prog 17 #[dyV ao d.bl.length cap d, .int .i64 k, .int .i64 n] w (TwoRes (lastsE d k n) w) := by
  have hsm := hs.small
  have HF := Hold.mk (own2 w ao cap d)
  have H1 : Hold (∀ w1, Mod noB w w1 → Calls Tryd.prog 27 #[dyV ao d.bl.length cap d] w1 fun r w' => r = .returned (.bool true) ∧ Mod noB w1 w') := ⟨fun w1 h => by rw [← h1]; exact refDie_any B ao cap d w1 (Nat.le_trans hB h.size) (hs.low (Low.ofN h hB))⟩
  have H2 : Hold (∀ w1, Calls Tryd.prog 43 #[.int .i64 k, .int .i64 0, .int .i64 (d.bl.length - 1)] w1 fun r w' => r = .returned (.bool true) ∧ w' = w1) := ⟨fun w1 => by rw [← h2]; exact refIn_any k 0 (d.bl.length - 1) w1⟩
  have H3 : Hold (∀ w1, Calls Tryd.prog 43 #[.int .i64 n, .int .i64 0, .int .i64 200000] w1 fun r w' => r = .returned (.bool true) ∧ w' = w1) := ⟨fun w1 => by rw [← (h3 : fromB 0 200000 n = true)]; exact refIn_any n 0 200000 w1⟩
  have HM := Hold.mk (allocL_mod noB [.cells (dyC ao d.bl.length cap d) 24, .cells (spC (0, 0)) 28] w)
  obtain ⟨k0, k1, hk⟩ := hasB_parts h2
  obtain ⟨n0, n1⟩ := fromB_parts h3
  obtain ⟨hbs, _⟩ := (dieB_parts h1).2
  have hbk := hbs _ (List.mem_of_getElem? hk)
  obtain ⟨b, off, rfl, hb, q0, q1, q2, q3⟩ := hs.blade hk
  have hle : Hold (lastsE d k n = if n < (bladeAt d k.toNat).f.2 then ((0, 0), 4) else ((lastR (bladeAt d k.toNat).f.2 (bladeAt d k.toNat).w.2 n, lastR (bladeAt d k.toNat).f.1 (bladeAt d k.toNat).w.1 n), 0)) := ⟨by simp [lastsE, h1, h2, h3]⟩
  generalize bladeAt d k.toNat = x at *
  have HQ : Hold (∀ W, Mod noB w W → W.cell? ⟨b, off + k.toNat * 4, none⟩ = some (.int .i64 x.f.1) ∧ W.cell? ⟨b, off + k.toNat * 4 + 1, none⟩ = some (.int .i64 x.f.2) ∧ W.cell? ⟨b, off + k.toNat * 4 + 2, none⟩ = some (.int .i64 x.w.1) ∧ W.cell? ⟨b, off + k.toNat * 4 + 3, none⟩ = some (.int .i64 x.w.2)) :=
    ⟨fun W h => by
      have e := h.block b (by omega) id
      exact ⟨(cell_same e _).trans q0, (cell_same e _).trans q1, (cell_same e _).trans q2, (cell_same e _).trans q3⟩⟩
  obtain ⟨⟨fa, fb⟩, wa, wb⟩ := x
  simp only at hbk hle
  obtain ⟨⟨x1, x2, x3⟩, x4, x5, x6⟩ := hbk
  clear h1 h2 h3 hs hbs q0 q1 q2 q3 hb
  by_cases hlt : n < fb
  · have he : Hold (lastsE d k n = ((0, 0), 4)) := ⟨by rw [hle.out, if_pos hlt]⟩
    go_enter Tryd.func17, Tryd.ntmps17
    go_wp2_with (first
      | (go_at_call 27; refine (H1.out _ HM.out).mono ?_; rintro e w1 ⟨rfl, hM⟩; have HF := Hold.mk (HF.out.later hM); have ha := HF.out.now.1; have d0 := cellsAt ha 0; obtain ⟨g0, g1, g2, g3⟩ := HQ.out _ HF.out.now.2.2; have hb := HF.out.now.2.1; have HFB := Hold.mk hb; have hlt0 := at_ltS hb; clear hM ha hb)
      | (go_at_call 43; with_reducible refine (H2.out _).mono ?_; rintro e w2 ⟨rfl, rfl⟩)
      | (go_at_call 43; with_reducible refine (H3.out _).mono ?_; rintro e w2 ⟨rfl, rfl⟩)
      | (refine wpList_store_row rfl 28 (.tmp 6) (.tmp 36) rfl (w.heap.size + 1) (spC (0, 0)) rfl rfl 28 _ (HF.out _ ((Mod.refl _ _).alloc _)).2.1 (by kernel_rfl) rfl (by simp [Value.oneCell']) ?_; rw [setRow_put (HF.out _ ((Mod.refl _ _).alloc _)).2.1]))
    have hb := (HF.out _ ((Mod.refl noB w2).alloc (.cells #[.int .i64 fa, .int .i64 fb, .int .i64 wa, .int .i64 wb] 53))).2
    generalize w2.alloc (.cells #[.int .i64 fa, .int .i64 fb, .int .i64 wa, .int .i64 wb] 53) = W4 at *
    have hg : (W4.putObj (w.heap.size + 1) (.cells (spC (0, 0)) 28)).heap[w.heap.size + 1]? = some (.cells (spC (0, 0)) 28) := World.putObj_heap_same (at_ltS hb.1)
    have c0 := cellsAt hg 0; have c1 := cellsAt hg 1
    exact bodyPost_ret (v := .tuple #[spV (0, 0), .int .i64 4]) (by simp [results, Tryd.results17, go_sem, *]) rfl ⟨by rw [he.out], hb.2.putObj (fun h => by omega) _⟩
  · have he : Hold (lastsE d k n = ((lastR fb wb n, lastR fa wa n), 0)) := ⟨by rw [hle.out, if_neg hlt]⟩
    have HC1 : Hold (∀ W', Calls Tryd.prog 46 #[.int .i64 fb, .int .i64 wb, .int .i64 n] W' fun e w'' => e = .returned (.int .i64 (lastR fb wb n)) ∧ Mod noB W' w'') := ⟨fun W' => refLasts_any fb wb n W' (by omega) (by omega) (by omega) (by omega)⟩
    have HC2 : Hold (∀ W', Calls Tryd.prog 46 #[.int .i64 fa, .int .i64 wa, .int .i64 n] W' fun e w'' => e = .returned (.int .i64 (lastR fa wa n)) ∧ Mod noB W' w'') := ⟨fun W' => refLasts_any fa wa n W' (by omega) (by omega) (by omega) (by omega)⟩
    generalize lastR fb wb n = vl at *
    generalize lastR fa wa n = vm at *
    go_enter Tryd.func17, Tryd.ntmps17
    go_wp2_with (first
      | (go_at_call 27; refine (H1.out _ HM.out).mono ?_; rintro e w1 ⟨rfl, hM⟩; have HF := Hold.mk (HF.out.later hM); have ha := HF.out.now.1; have d0 := cellsAt ha 0; obtain ⟨g0, g1, g2, g3⟩ := HQ.out _ HF.out.now.2.2; clear hM ha)
      | (go_at_call 43; with_reducible refine (H2.out _).mono ?_; rintro e w2 ⟨rfl, rfl⟩)
      | (go_at_call 43; with_reducible refine (H3.out _).mono ?_; rintro e w2 ⟨rfl, rfl⟩))
    have HW := Hold.mk (World.alloc_heap_new w2 (.cells #[.int .i64 fa, .int .i64 fb, .int .i64 wa, .int .i64 wb] 53))
    have HM4 := Hold.mk ((Mod.refl noB w2).alloc (.cells #[.int .i64 fa, .int .i64 fb, .int .i64 wa, .int .i64 wb] 53))
    generalize w2.alloc (.cells #[.int .i64 fa, .int .i64 fb, .int .i64 wa, .int .i64 wb] 53) = Wx at *
    have FIN : Hold (∀ W', Mod noB Wx W' → W'.heap[w2.heap.size]? = some (.cells #[.int .i64 fa, .int .i64 fb, .int .i64 wa, .int .i64 wb] 53) ∧ W'.heap[w.heap.size]? = some (.cells (dyC (some ⟨b, off, none⟩) d.bl.length cap d) 24) ∧ W'.heap[w.heap.size + 1]? = some (.cells (spC (0, 0)) 28) ∧ Mod noB w W') :=
      ⟨fun W' h => ⟨h.at HW.out id, HF.out _ (HM4.out.trans h)⟩⟩
    clear d0 g0 g1 g2 g3
    refine region_tailP 17 ⟨by decide, by kernel_rfl, by kernel_rfl, by kernel_rfl, by kernel_rfl, by kernel_rfl⟩ (by kernel_rfl) (fun W' => Mod noB Wx W') ((Mod.refl _ _).drew) ?_
    simp only [strikeL, List.take_succ_cons, List.take_zero, List.drop_succ_cons, List.drop_zero, List.map_cons, List.map_nil, List.cons_append, List.nil_append, bareO]
    repeat
      (first
        | go_big_quiet_skip
        | (go_big_quiet_want
           go_simp
           first
             | go_big_quiet_on
             | (apply Exists.intro
                refine ⟨fun W' hC => ?_, ?_⟩
                · obtain ⟨gx, gd, _, gm⟩ := FIN.out W' hC
                  have c0 := cellsAt gx 0; have c1 := cellsAt gx 1; have c2 := cellsAt gx 2; have c3 := cellsAt gx 3
                  have d0 := cellsAt gd 0; have d1 := cellsAt gd 1; have d2 := cellsAt gd 2; have d3 := cellsAt gd 3
                  first
                    | (go_at_call 46; (with_reducible refine (HC1.out _).mono ?_); exact fun e w'' he => ⟨he.1, hC.trans he.2⟩)
                    | (go_at_call 46; (with_reducible refine (HC2.out _).mono ?_); exact fun e w'' he => ⟨he.1, hC.trans he.2⟩)
                    | with_reducible rfl
                    | (clear gx gd gm; go_simp; first | rfl | exact ⟨rfl, rfl⟩)
                go_big_quiet_on)
             | (refine ⟨⟨_, fun _ _ => rfl⟩, ?_⟩; go_big_quiet_on)))
    refine wpQuiet_nil ?_
    intro Wq hq
    obtain ⟨_, _, hb, hm⟩ := FIN.out Wq hq
    have c0 := cellsAt hb 0; have c1 := cellsAt hb 1; have f0 := frozen_at hb 0; have f1 := frozen_at hb 1
    have HQ2 := Hold.mk hm
    clear hq hm hb
    gi_wp2
    go_wp2
    exact bodyPost_ret (v := .tuple #[spV (vl, vm), .int .i64 0]) (by simp [results, Tryd.results17, go_sem, *]) rfl ⟨by rw [he.out], Mod.setNew (Mod.setNew HQ2.out (by omega) _) (by omega) _⟩

theorem docLasts_any (B : Nat) (ao : Option Addr) (cap : Nat) (d : Dye) (k n : Int) (w : World) (hB : B ≤ w.heap.size) (hs : BladesAt B w ao d.bl) :
    Calls Tryd.prog 17 #[dyV ao d.bl.length cap d, .int .i64 k, .int .i64 n] w (TwoRes (lastsE d k n) w) := by
  cases h : (dieB d && (hasB d k && fromB 0 200000 n)) with
  | false => exact docLasts_no B ao cap d k n w hB hs h
  | true =>
    simp only [Bool.and_eq_true] at h
    exact docLasts_yes B ao cap d k n w hB hs h.1 h.2.1 h.2.2
end Go.Proofs.YtdncppempgpooaaDoor

/- Lasts: what it returns. -/
import Derived.Test.YtnplhlcifagimaaRuG
set_option linter.unusedSimpArgs false
set_option linter.unusedVariables false
namespace Go.Proofs.Ytnplhlcifagimaa
open Go.RowKit Go.Shelf

set_option maxRecDepth 100000 in
set_option maxHeartbeats 4000000 in
theorem lasts_no (B : Nat) (ao : Option Addr) (cap : Nat) (d : Dye) (k n : Int) (w : World) (hB : B ≤ w.heap.size) (hs : BladesAt B w ao d.bl) (h0 : (dieB d && (hasB d k && fromB 0 200000 n)) = false) :
    Calls Try.prog 8 #[dyV ao d.bl.length cap d, .int .i64 k, .int .i64 n] w (TwoRes (lastsE d k n) w) := by
  have HF := Hold.mk (own2 w ao cap d)
  have hsm := hs.small
  cases h1 : dieB d with
  | false =>
    have H1 : Hold (∀ w1, Mod noB w w1 → Calls Try.prog 11 #[dyV ao d.bl.length cap d] w1 fun r w' => r = .returned (.bool false) ∧ Mod noB w1 w') := ⟨fun w1 h => by rw [← h1]; exact isDie_any B ao cap d w1 (Nat.le_trans hB h.size) (hs.low (Low.ofN h hB))⟩
    have he : Hold (lastsE d k n = ((0, 0), 1)) := ⟨by simp [lastsE, h1]⟩
    have HM := Hold.mk (allocL_mod noB [.cells (dyC ao d.bl.length cap d) 24, .cells (spC (0, 0)) 29] w)
    clear h1 h0 hs hB hsm
    go_enter Try.func8, Try.ntmps8
    go_wp2_with (go_at_call 11; refine (H1.out _ HM.out).mono ?_; rintro e w1 ⟨rfl, hM⟩; have HF := Hold.mk (HF.out.later hM); have hb := HF.out.now.2.1; have c0 := cellsAt hb 0; have c1 := cellsAt hb 1; have f0 := frozen_at hb 0; have f1 := frozen_at hb 1; clear hM hb)
    exact bodyPost_ret (v := .tuple #[spVQ (0, 0), .int .i64 1]) (by simp [results, Try.results8, go_sem, *]) rfl ⟨by rw [he.out], Mod.setNewQ (Mod.setNewQ HF.out.now.2.2 (by omega) _) (by omega) _⟩
  | true =>
    have H1 : Hold (∀ w1, Mod noB w w1 → Calls Try.prog 11 #[dyV ao d.bl.length cap d] w1 fun r w' => r = .returned (.bool true) ∧ Mod noB w1 w') := ⟨fun w1 h => by rw [← h1]; exact isDie_any B ao cap d w1 (Nat.le_trans hB h.size) (hs.low (Low.ofN h hB))⟩
    have HM := Hold.mk (allocL_mod noB [.cells (dyC ao d.bl.length cap d) 24, .cells (spC (0, 0)) 29] w)
    have he : Hold (lastsE d k n = ((0, 0), 2)) := ⟨by
      rw [h1, Bool.true_and] at h0
      simp [lastsE, h1, h0]⟩
    cases h2 : hasB d k with
    | false =>
      have H2 : Hold (∀ w1, Calls Try.prog 12 #[dyV ao d.bl.length cap d, .int .i64 k] w1 fun r w' => r = .returned (.bool false) ∧ Mod noB w1 w') := ⟨fun w1 => by rw [← h2]; exact hasBlade_any ao cap d k w1 hsm⟩
      clear h1 h0 hs hB hsm h2
      go_enter Try.func8, Try.ntmps8
      go_wp2_with (first
        | (go_at_call 11; refine (H1.out _ HM.out).mono ?_; rintro e w1 ⟨rfl, hM⟩; have HF := Hold.mk (HF.out.later hM); have ha := HF.out.now.1; have d0 := cellsAt ha 0; have d1 := cellsAt ha 1; have d2 := cellsAt ha 2; have d3 := cellsAt ha 3; clear hM ha)
        | (go_at_call 12; refine (H2.out _).mono ?_; rintro e w1 ⟨rfl, hM⟩; have HF := Hold.mk (HF.out.later hM); have hb := HF.out.now.2.1; have c0 := cellsAt hb 0; have c1 := cellsAt hb 1; have f0 := frozen_at hb 0; have f1 := frozen_at hb 1; clear hM hb))
      exact bodyPost_ret (v := .tuple #[spVQ (0, 0), .int .i64 2]) (by simp [results, Try.results8, go_sem, *]) rfl ⟨by rw [he.out], Mod.setNewQ (Mod.setNewQ HF.out.now.2.2 (by omega) _) (by omega) _⟩
    | true =>
      have H2 : Hold (∀ w1, Calls Try.prog 12 #[dyV ao d.bl.length cap d, .int .i64 k] w1 fun r w' => r = .returned (.bool true) ∧ Mod noB w1 w') := ⟨fun w1 => by rw [← h2]; exact hasBlade_any ao cap d k w1 hsm⟩
      have H3 := from_eq 0 200000 n false (by rw [h1, h2, Bool.true_and, Bool.true_and] at h0; exact h0)
      clear h1 h0 hs hB hsm h2
      go_enter Try.func8, Try.ntmps8
      go_wp2_with (first
        | (go_at_call 11; refine (H1.out _ HM.out).mono ?_; rintro e w1 ⟨rfl, hM⟩; have HF := Hold.mk (HF.out.later hM); have ha := HF.out.now.1; have d0 := cellsAt ha 0; have d1 := cellsAt ha 1; have d2 := cellsAt ha 2; have d3 := cellsAt ha 3; clear hM ha)
        | (go_at_call 12; refine (H2.out _).mono ?_; rintro e w1 ⟨rfl, hM⟩; have HF := Hold.mk (HF.out.later hM); clear hM)
        | (go_at_call 13; refine (H3.out _).mono ?_; rintro e w1 ⟨rfl, hM⟩; have HF := Hold.mk (HF.out.later hM); have hb := HF.out.now.2.1; have c0 := cellsAt hb 0; have c1 := cellsAt hb 1; have f0 := frozen_at hb 0; have f1 := frozen_at hb 1; clear hM hb))
      exact bodyPost_ret (v := .tuple #[spVQ (0, 0), .int .i64 2]) (by simp [results, Try.results8, go_sem, *]) rfl ⟨by rw [he.out], Mod.setNewQ (Mod.setNewQ HF.out.now.2.2 (by omega) _) (by omega) _⟩

set_option maxRecDepth 100000 in
set_option maxHeartbeats 4000000 in
theorem lasts_none (B : Nat) (ao : Option Addr) (cap : Nat) (d : Dye) (k n : Int) (w : World) (hB : B ≤ w.heap.size) (hs : BladesAt B w ao d.bl) (h1 : dieB d = true) (h2 : hasB d k = true) (h3 : fromB 0 200000 n = true) (h4 : n < (bladeAt d k.toNat).f.2) :
    Calls Try.prog 8 #[dyV ao d.bl.length cap d, .int .i64 k, .int .i64 n] w (TwoRes (lastsE d k n) w) := by
  have he : Hold (lastsE d k n = ((0, 0), 4)) := ⟨by simp [lastsE, h1, h2, h3, h4]⟩
  have hsm := hs.small
  have HF := Hold.mk (own2 w ao cap d)
  have H1 : Hold (∀ w1, Mod noB w w1 → Calls Try.prog 11 #[dyV ao d.bl.length cap d] w1 fun r w' => r = .returned (.bool true) ∧ Mod noB w1 w') := ⟨fun w1 h => by rw [← h1]; exact isDie_any B ao cap d w1 (Nat.le_trans hB h.size) (hs.low (Low.ofN h hB))⟩
  have H2 : Hold (∀ w1, Calls Try.prog 12 #[dyV ao d.bl.length cap d, .int .i64 k] w1 fun r w' => r = .returned (.bool true) ∧ Mod noB w1 w') := ⟨fun w1 => by rw [← h2]; exact hasBlade_any ao cap d k w1 hsm⟩
  have H3 := from_eq 0 200000 n true h3
  have HM := Hold.mk (allocL_mod noB [.cells (dyC ao d.bl.length cap d) 24, .cells (spC (0, 0)) 29] w)
  obtain ⟨k0, k1, hk⟩ := hasB_parts h2
  obtain ⟨n0, n1⟩ := fromB_parts h3
  obtain ⟨hbs, _⟩ := (dieB_parts h1).2
  have hbk := hbs _ (List.mem_of_getElem? hk)
  obtain ⟨b, off, rfl, hb, q0, q1, q2, q3⟩ := hs.blade hk
  generalize bladeAt d k.toNat = x at *
  have HQ : Hold (∀ W, Mod noB w W → W.cell? ⟨b, off + k.toNat * 4, none⟩ = some (.int .i64 x.f.1) ∧ W.cell? ⟨b, off + k.toNat * 4 + 1, none⟩ = some (.int .i64 x.f.2) ∧ W.cell? ⟨b, off + k.toNat * 4 + 2, none⟩ = some (.int .i64 x.w.1) ∧ W.cell? ⟨b, off + k.toNat * 4 + 3, none⟩ = some (.int .i64 x.w.2)) :=
    ⟨fun W h => by
      have e := h.block b (by omega) id
      exact ⟨(cell_same e _).trans q0, (cell_same e _).trans q1, (cell_same e _).trans q2, (cell_same e _).trans q3⟩⟩
  have HX := Hold.mk hbk
  have HN := Hold.mk (And.intro n0 n1)
  clear h1 h2 h3 hs hbs q0 q1 q2 q3 hbk hb n0 n1
  go_enter Try.func8, Try.ntmps8
  go_wp2_with (first
    | (go_at_call 11; refine (H1.out _ HM.out).mono ?_; rintro e w1 ⟨rfl, hM⟩; have HF := Hold.mk (HF.out.later hM); have ha := HF.out.now.1; have d0 := cellsAt ha 0; have d1 := cellsAt ha 1; have d2 := cellsAt ha 2; have d3 := cellsAt ha 3; clear hM ha)
    | (go_at_call 12; refine (H2.out _).mono ?_; rintro e w1 ⟨rfl, hM⟩; have HF := Hold.mk (HF.out.later hM); clear hM)
    | (go_at_call 13; refine (H3.out _).mono ?_; rintro e w1 ⟨rfl, hM⟩; have HF := Hold.mk (HF.out.later hM); have ha := HF.out.now.1; have d0 := cellsAt ha 0; obtain ⟨g0, g1, g2, g3⟩ := HQ.out _ HF.out.now.2.2; clear hM ha)
    | (go_at_call 14; refine (offOf_any x _).mono ?_; rintro e w4 ⟨⟨p1, p2, p3, p4⟩, rfl, hp, hM⟩; have HF := Hold.mk (HF.out.later hM); have HP := Hold.mk hp; clear hM hp))
  have HW := Hold.mk (World.alloc_heap_new w4 (.cells #[.func (.func 23) #[] #[.pointer (some ⟨p1, 0, none⟩), .pointer (some ⟨p2, 0, none⟩)], .func (.func 23) #[] #[.pointer (some ⟨p3, 0, none⟩), .pointer (some ⟨p4, 0, none⟩)]] 47))
  have HM4 := Hold.mk ((Mod.refl noB w4).alloc (.cells #[.func (.func 23) #[] #[.pointer (some ⟨p1, 0, none⟩), .pointer (some ⟨p2, 0, none⟩)], .func (.func 23) #[] #[.pointer (some ⟨p3, 0, none⟩), .pointer (some ⟨p4, 0, none⟩)]] 47))
  generalize w4.alloc (.cells #[.func (.func 23) #[] #[.pointer (some ⟨p1, 0, none⟩), .pointer (some ⟨p2, 0, none⟩)], .func (.func 23) #[] #[.pointer (some ⟨p3, 0, none⟩), .pointer (some ⟨p4, 0, none⟩)]] 47) = Wx at *
  have FIN : Hold (∀ W', Mod noB Wx W' → (W'.cell? ⟨w4.heap.size, 0, none⟩ = some (.func (.func 23) #[] #[.pointer (some ⟨p1, 0, none⟩), .pointer (some ⟨p2, 0, none⟩)]) ∧ W'.cell? ⟨w4.heap.size, 1, none⟩ = some (.func (.func 23) #[] #[.pointer (some ⟨p3, 0, none⟩), .pointer (some ⟨p4, 0, none⟩)])) ∧ Own2 w (some ⟨b, off, none⟩) cap d W') :=
    ⟨fun W' h => ⟨⟨cellsAt (h.at HW.out id) 0, cellsAt (h.at HW.out id) 1⟩, HF.out _ (HM4.out.trans h)⟩⟩
  have HC0 : Hold (∀ W', Mod noB Wx W' → Calls Try.prog 23 #[.int .i64 0, .pointer (some ⟨p3, 0, none⟩), .pointer (some ⟨p4, 0, none⟩)] W' fun e w'' => e = .returned (.int .i64 x.f.2) ∧ W' = w'') :=
    ⟨fun W' h => by
      have := clo_any p3 p4 x.f.2 x.w.2 0 W' ((HM4.out.trans h).at HP.out.c3 id) ((HM4.out.trans h).at HP.out.c4 id) (by have := HX.out; omega) (by have := HX.out; omega) (by omega)
      rw [Int.zero_mul, Int.add_zero] at this
      exact this⟩
  obtain ⟨⟨g0, g1⟩, go⟩ := FIN.out Wx (Mod.refl _ _)
  obtain ⟨v, hv⟩ : ∃ v, x.f.2 = v := ⟨_, rfl⟩
  rw [hv] at HC0 h4
  clear hv go
  go_wp2_with (go_at_call 23; refine (HC0.out _ (Mod.refl _ _)).mono ?_; rintro e w'' ⟨rfl, rfl⟩; obtain ⟨_, _, hb, hm⟩ := FIN.out Wx (Mod.refl _ _); have c0 := cellsAt hb 0; have c1 := cellsAt hb 1; have f0 := frozen_at hb 0; have f1 := frozen_at hb 1; have HQ := Hold.mk hm; clear hm hb)
  exact bodyPost_ret (v := .tuple #[spVQ (0, 0), .int .i64 4]) (by simp [results, Try.results8, go_sem, *]) rfl ⟨by rw [he.out], Mod.setNewQ (Mod.setNewQ HQ.out (by omega) _) (by omega) _⟩

set_option maxRecDepth 100000 in
set_option maxHeartbeats 4000000 in
theorem lasts_yes (B : Nat) (ao : Option Addr) (cap : Nat) (d : Dye) (k n : Int) (w : World) (hB : B ≤ w.heap.size) (hs : BladesAt B w ao d.bl) (h1 : dieB d = true) (h2 : hasB d k = true) (h3 : fromB 0 200000 n = true) (h4 : ¬ n < (bladeAt d k.toNat).f.2) :
    Calls Try.prog 8 #[dyV ao d.bl.length cap d, .int .i64 k, .int .i64 n] w (TwoRes (lastsE d k n) w) := by
  have he : Hold (lastsE d k n = ((lastR (bladeAt d k.toNat).f.2 (bladeAt d k.toNat).w.2 n, lastR (bladeAt d k.toNat).f.1 (bladeAt d k.toNat).w.1 n), 0)) := ⟨by simp [lastsE, h1, h2, h3, h4]⟩
  have hsm := hs.small
  have HF := Hold.mk (own2 w ao cap d)
  have H1 : Hold (∀ w1, Mod noB w w1 → Calls Try.prog 11 #[dyV ao d.bl.length cap d] w1 fun r w' => r = .returned (.bool true) ∧ Mod noB w1 w') := ⟨fun w1 h => by rw [← h1]; exact isDie_any B ao cap d w1 (Nat.le_trans hB h.size) (hs.low (Low.ofN h hB))⟩
  have H2 : Hold (∀ w1, Calls Try.prog 12 #[dyV ao d.bl.length cap d, .int .i64 k] w1 fun r w' => r = .returned (.bool true) ∧ Mod noB w1 w') := ⟨fun w1 => by rw [← h2]; exact hasBlade_any ao cap d k w1 hsm⟩
  have H3 := from_eq 0 200000 n true h3
  have HM := Hold.mk (allocL_mod noB [.cells (dyC ao d.bl.length cap d) 24, .cells (spC (0, 0)) 29] w)
  obtain ⟨k0, k1, hk⟩ := hasB_parts h2
  obtain ⟨n0, n1⟩ := fromB_parts h3
  obtain ⟨hbs, _⟩ := (dieB_parts h1).2
  have hbk := hbs _ (List.mem_of_getElem? hk)
  obtain ⟨b, off, rfl, hb, q0, q1, q2, q3⟩ := hs.blade hk
  generalize bladeAt d k.toNat = x at *
  have HQ : Hold (∀ W, Mod noB w W → W.cell? ⟨b, off + k.toNat * 4, none⟩ = some (.int .i64 x.f.1) ∧ W.cell? ⟨b, off + k.toNat * 4 + 1, none⟩ = some (.int .i64 x.f.2) ∧ W.cell? ⟨b, off + k.toNat * 4 + 2, none⟩ = some (.int .i64 x.w.1) ∧ W.cell? ⟨b, off + k.toNat * 4 + 3, none⟩ = some (.int .i64 x.w.2)) :=
    ⟨fun W h => by
      have e := h.block b (by omega) id
      exact ⟨(cell_same e _).trans q0, (cell_same e _).trans q1, (cell_same e _).trans q2, (cell_same e _).trans q3⟩⟩
  have HX := Hold.mk hbk
  have HN := Hold.mk (And.intro n0 n1)
  clear h1 h2 h3 hs hbs q0 q1 q2 q3 hbk hb n0 n1
  go_enter Try.func8, Try.ntmps8
  go_wp2_with (first
    | (go_at_call 11; refine (H1.out _ HM.out).mono ?_; rintro e w1 ⟨rfl, hM⟩; have HF := Hold.mk (HF.out.later hM); have ha := HF.out.now.1; have d0 := cellsAt ha 0; have d1 := cellsAt ha 1; have d2 := cellsAt ha 2; have d3 := cellsAt ha 3; clear hM ha)
    | (go_at_call 12; refine (H2.out _).mono ?_; rintro e w1 ⟨rfl, hM⟩; have HF := Hold.mk (HF.out.later hM); clear hM)
    | (go_at_call 13; refine (H3.out _).mono ?_; rintro e w1 ⟨rfl, hM⟩; have HF := Hold.mk (HF.out.later hM); have ha := HF.out.now.1; have d0 := cellsAt ha 0; obtain ⟨g0, g1, g2, g3⟩ := HQ.out _ HF.out.now.2.2; clear hM ha)
    | (go_at_call 14; refine (offOf_any x _).mono ?_; rintro e w4 ⟨⟨p1, p2, p3, p4⟩, rfl, hp, hM⟩; have HF := Hold.mk (HF.out.later hM); have HP := Hold.mk hp; clear hM hp))
  have HW := Hold.mk (World.alloc_heap_new w4 (.cells #[.func (.func 23) #[] #[.pointer (some ⟨p1, 0, none⟩), .pointer (some ⟨p2, 0, none⟩)], .func (.func 23) #[] #[.pointer (some ⟨p3, 0, none⟩), .pointer (some ⟨p4, 0, none⟩)]] 47))
  have HM4 := Hold.mk ((Mod.refl noB w4).alloc (.cells #[.func (.func 23) #[] #[.pointer (some ⟨p1, 0, none⟩), .pointer (some ⟨p2, 0, none⟩)], .func (.func 23) #[] #[.pointer (some ⟨p3, 0, none⟩), .pointer (some ⟨p4, 0, none⟩)]] 47))
  generalize w4.alloc (.cells #[.func (.func 23) #[] #[.pointer (some ⟨p1, 0, none⟩), .pointer (some ⟨p2, 0, none⟩)], .func (.func 23) #[] #[.pointer (some ⟨p3, 0, none⟩), .pointer (some ⟨p4, 0, none⟩)]] 47) = Wx at *
  have FIN : Hold (∀ W', Mod noB Wx W' → (W'.cell? ⟨w4.heap.size, 0, none⟩ = some (.func (.func 23) #[] #[.pointer (some ⟨p1, 0, none⟩), .pointer (some ⟨p2, 0, none⟩)]) ∧ W'.cell? ⟨w4.heap.size, 1, none⟩ = some (.func (.func 23) #[] #[.pointer (some ⟨p3, 0, none⟩), .pointer (some ⟨p4, 0, none⟩)])) ∧ Own2 w (some ⟨b, off, none⟩) cap d W') :=
    ⟨fun W' h => ⟨⟨cellsAt (h.at HW.out id) 0, cellsAt (h.at HW.out id) 1⟩, HF.out _ (HM4.out.trans h)⟩⟩
  have HC0 : Hold (∀ W', Mod noB Wx W' → Calls Try.prog 23 #[.int .i64 0, .pointer (some ⟨p3, 0, none⟩), .pointer (some ⟨p4, 0, none⟩)] W' fun e w'' => e = .returned (.int .i64 x.f.2) ∧ W' = w'') :=
    ⟨fun W' h => by
      have := clo_any p3 p4 x.f.2 x.w.2 0 W' ((HM4.out.trans h).at HP.out.c3 id) ((HM4.out.trans h).at HP.out.c4 id) (by have := HX.out; omega) (by have := HX.out; omega) (by omega)
      rw [Int.zero_mul, Int.add_zero] at this
      exact this⟩
  obtain ⟨⟨g0, g1⟩, go⟩ := FIN.out Wx (Mod.refl _ _)
  have HC1 : Hold (∀ W', Mod noB Wx W' → Calls Try.prog 18 #[.func (.func 23) #[] #[.pointer (some ⟨p3, 0, none⟩), .pointer (some ⟨p4, 0, none⟩)], .int .i64 n] W' fun e w'' => e = .returned (.int .i64 (lastR x.f.2 x.w.2 n)) ∧ Mod noB W' w'') :=
    ⟨fun W' h => lasts_any p3 p4 x.f.2 x.w.2 n W' ((HM4.out.trans h).at HP.out.c3 id) ((HM4.out.trans h).at HP.out.c4 id) (by have := HX.out; omega) (by have := HX.out; omega) (by omega)⟩
  have HC2 : Hold (∀ W', Mod noB Wx W' → Calls Try.prog 18 #[.func (.func 23) #[] #[.pointer (some ⟨p1, 0, none⟩), .pointer (some ⟨p2, 0, none⟩)], .int .i64 n] W' fun e w'' => e = .returned (.int .i64 (lastR x.f.1 x.w.1 n)) ∧ Mod noB W' w'') :=
    ⟨fun W' h => lasts_any p1 p2 x.f.1 x.w.1 n W' ((HM4.out.trans h).at HP.out.c1 id) ((HM4.out.trans h).at HP.out.c2 id) (by have := HX.out; omega) (by have := HX.out; omega) (by have := HX.out; omega)⟩
  generalize lastR x.f.2 x.w.2 n = vl at *
  generalize lastR x.f.1 x.w.1 n = vm at *
  obtain ⟨v, hv⟩ : ∃ v, x.f.2 = v := ⟨_, rfl⟩
  rw [hv] at HC0 h4
  clear hv go
  go_wp2_with (go_at_call 23; refine (HC0.out _ (Mod.refl _ _)).mono ?_; rintro e w'' ⟨rfl, rfl⟩)
  clear g0 g1
  refine region_tailP 9 ⟨by decide, by kernel_rfl, by kernel_rfl, by kernel_rfl, by kernel_rfl, by kernel_rfl⟩ (by kernel_rfl) (fun W' => Mod noB Wx W') ((Mod.refl _ _).drew) ?_
  simp only [strikeL, List.take_succ_cons, List.take_zero, List.drop_succ_cons, List.drop_zero, List.map_cons, List.map_nil, List.cons_append, List.nil_append, bareO]
  repeat
    (first
      | go_big_quiet_skip
      | (go_big_quiet_want
         go_simp
         first
           | go_big_quiet_on
           | (apply Exists.intro
              refine ⟨fun W' hC => ?_, ?_⟩
              · obtain ⟨⟨q0, q1⟩, _⟩ := FIN.out W' hC
                first
                  | (go_at_call 18; (with_reducible refine (HC1.out _ hC).mono ?_); exact fun e w'' he => ⟨he.1, hC.trans he.2⟩)
                  | (go_at_call 18; (with_reducible refine (HC2.out _ hC).mono ?_); exact fun e w'' he => ⟨he.1, hC.trans he.2⟩)
                  | with_reducible rfl
                  | (go_simp; first | rfl | exact ⟨rfl, rfl⟩)
              go_big_quiet_on)
           | (refine ⟨⟨_, fun _ _ => rfl⟩, ?_⟩; go_big_quiet_on)))
  refine wpQuiet_nil ?_
  intro Wq hq
  obtain ⟨_, _, hb, hm⟩ := FIN.out Wq hq
  have c0 := cellsAt hb 0; have c1 := cellsAt hb 1; have f0 := frozen_at hb 0; have f1 := frozen_at hb 1
  have HQ := Hold.mk hm
  clear hq hm hb
  gi_wp2
  go_wp2
  exact bodyPost_ret (v := .tuple #[spVQ (vl, vm), .int .i64 0]) (by simp [results, Try.results8, go_sem, *]) rfl ⟨by rw [he.out], Mod.setNewQ (Mod.setNewQ HQ.out (by omega) _) (by omega) _⟩


theorem lasts_all (B : Nat) (ao : Option Addr) (cap : Nat) (d : Dye) (k n : Int) (w : World) (hB : B ≤ w.heap.size) (hs : BladesAt B w ao d.bl) :
    Calls Try.prog 8 #[dyV ao d.bl.length cap d, .int .i64 k, .int .i64 n] w (TwoRes (lastsE d k n) w) := by
  cases h : (dieB d && (hasB d k && fromB 0 200000 n)) with
  | false => exact lasts_no B ao cap d k n w hB hs h
  | true =>
    simp only [Bool.and_eq_true] at h
    by_cases h4 : n < (bladeAt d k.toNat).f.2
    · exact lasts_none B ao cap d k n w hB hs h.1 h.2.1 h.2.2 h4
    · exact lasts_yes B ao cap d k n w hB hs h.1 h.2.1 h.2.2 h4
end Go.Proofs.Ytnplhlcifagimaa

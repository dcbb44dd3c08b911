/- RuleEnds: the law's walks where Off yields a span. -/
import Derived.Test.YtdncppempgpooaaDoorRwB
set_option linter.unusedSimpArgs false
set_option linter.unusedVariables false
namespace Go.Proofs.YtdncppempgpooaaDoor
open Go.RowKit Go.Shelf


set_option maxRecDepth 100000 in
set_option maxHeartbeats 8000000 in
theorem law7_less (B : Nat) (ao : Option Addr) (cap : Nat) (d : Dye) (k q m u : Int) (w : World) (hB : B ≤ w.heap.size) (hs : BladesAt B w ao d.bl) (hT : Tab w) (hf : ¬ 10 < (d.bl.length : Int)) (h1 : dieB d = true) (h2 : hasB d k = true) (h3 : fromB 0 7000 q = true) (hu : 0 ≤ u) (hu2 : u ≤ 65535) (hq : q + u % 50 < 7000) :
    Calls Tryd.prog 7 #[dyV ao d.bl.length cap d, .int .i64 k, .int .i64 q, .int .i64 m, .int .u16 u] w fun e w' => e = .returned (.bool true) ∧ Mod noB w w' := by
  have hsm := hs.small
  have HE := Hold.mk (ends0 w B ao cap d k hB hs hT)
  obtain ⟨k0, k1, hk⟩ := hasB_parts h2
  obtain ⟨n0, n1⟩ := fromB_parts h3
  obtain ⟨hbs, _⟩ := (dieB_parts h1).2
  have hbk := hbs _ (List.mem_of_getElem? hk)
  have hoff : ∀ q, 0 ≤ q → q ≤ 7000 → offE d k q = (((bladeAt d k.toNat).f.1 + (bladeAt d k.toNat).w.1 * q, (bladeAt d k.toNat).f.2 + (bladeAt d k.toNat).w.2 * q), 0) := fun q => offE_yes h1 h2 rfl
  have hli : LastsIs d k m (bladeAt d k.toNat).f.1 (bladeAt d k.toNat).f.2 (bladeAt d k.toNat).w.1 (bladeAt d k.toNat).w.2 := lasts_is h1 h2 rfl (by omega) (by omega) (by omega)
  obtain ⟨b, off, rfl, hb, q0, q1, q2, q3⟩ := hs.blade hk
  have HQ : Hold (∀ W, Mod noB w W → W.cell? ⟨b, off + k.toNat * 4, none⟩ = some (.int .i64 (bladeAt d k.toNat).f.1) ∧ W.cell? ⟨b, off + k.toNat * 4 + 1, none⟩ = some (.int .i64 (bladeAt d k.toNat).f.2) ∧ W.cell? ⟨b, off + k.toNat * 4 + 2, none⟩ = some (.int .i64 (bladeAt d k.toNat).w.1) ∧ W.cell? ⟨b, off + k.toNat * 4 + 3, none⟩ = some (.int .i64 (bladeAt d k.toNat).w.2)) :=
    ⟨fun W h => by
      have e := h.block b (by omega) id
      exact ⟨(cell_same e _).trans q0, (cell_same e _).trans q1, (cell_same e _).trans q2, (cell_same e _).trans q3⟩⟩
  generalize bladeAt d k.toNat = x at *
  obtain ⟨⟨fa, fb⟩, wa, wb⟩ := x
  simp only at hbk hoff HQ hli
  obtain ⟨⟨x1, x2, x3⟩, x4, x5, x6⟩ := hbk
  have H12 : Hold (∀ W, Calls Tryd.prog 12 #[dyV (some ⟨b, off, none⟩) d.bl.length cap d, .slice none 0 0, .slice none 0 0] W fun e w' => e = .returned (.bool false) ∧ Mod noB W w') := ⟨fun W => (far_any _ cap d none none d.bl.length 0 0 0 0 W rfl hsm (by omega) (by omega)).mono fun e w' h => ⟨by rw [h.1]; simp; omega, h.2⟩⟩
  have H27 : Hold (∀ W, B ≤ W.heap.size → BladesAt B W (some ⟨b, off, none⟩) d.bl → Calls Tryd.prog 27 #[dyV (some ⟨b, off, none⟩) d.bl.length cap d] W fun e w' => e = .returned (.bool true) ∧ Mod noB W w') := ⟨fun W h1' h2 => (refDie_any B _ cap d W h1' h2).mono fun e w' h => by rw [h1] at h; exact h⟩
  have H14 : Hold (∀ q W, 0 ≤ q → q ≤ 7000 → B ≤ W.heap.size → BladesAt B W (some ⟨b, off, none⟩) d.bl → Calls Tryd.prog 14 #[dyV (some ⟨b, off, none⟩) d.bl.length cap d, .int .i64 k, .int .i64 q] W fun e w' => e = .returned (.tuple #[spV (fa + wa * q, fb + wb * q), .int .i64 0]) ∧ Mod noB W w') := ⟨fun q W h0 h7 h1 h2 => (off_any B _ cap d k q W h1 h2).mono fun e w' h => by rw [hoff q h0 h7] at h; exact h⟩
  have H16 : Hold (∀ W, B ≤ W.heap.size → BladesAt B W (some ⟨b, off, none⟩) d.bl → Calls Tryd.prog 16 #[dyV (some ⟨b, off, none⟩) d.bl.length cap d, .int .i64 k, .int .i64 m] W (TwoRes (lastsE d k m) W)) := ⟨fun W h1 h2 => lasts_all B _ cap d k m W h1 h2⟩
  have H34 : Hold (∀ q W, 0 ≤ q → q ≤ 7000 → Kept W (Ends w B (some ⟨b, off, none⟩) cap d k) → Calls Tryd.prog 34 #[.int .i64 q, .pointer (some ⟨w.heap.size, 0, none⟩), .pointer (some ⟨w.heap.size + 1, 0, none⟩)] W fun e w' => e = .returned (.agg #[.int .i64 (fa + wa * q), .int .i64 (fb + wb * q)]) ∧ Mod noB W w') := ⟨fun q W h0 h7 hK => ends_off q W hK (hoff q h0 h7)⟩
  have HL := Hold.mk hli
  have hp1 : 0 ≤ wa * q ∧ wa * q ≤ 70000000 := by
    have := mul_bd (m := 10000) (k := 7000) (a := wa) (b := q) (by omega) (by omega); have := Int.mul_nonneg (a := wa) (b := q) (by omega) (by omega); omega
  have hp2 : 0 ≤ wb * q ∧ wb * q ≤ 70000000 := by
    have := mul_bd (m := 10000) (k := 7000) (a := wb) (b := q) (by omega) (by omega); have := Int.mul_nonneg (a := wb) (b := q) (by omega) (by omega); omega
  have hp3 : wa * q ≤ wa * (q + u % 50) := Int.mul_le_mul_of_nonneg_left (by omega) (by omega)
  have hp4 : wb * q ≤ wb * (q + u % 50) := Int.mul_le_mul_of_nonneg_left (by omega) (by omega)
  clear h1 h2 h3 hs hbs q0 q1 q2 q3 hb hB hT hsm hoff hk hli
  have hf0 : ∀ (a b : Int) (w : World), (Instr.field 28 (.agg #[.int .i64 a, .int .i64 b]) 0).run Tryd.prog w = .ok (.int .i64 a) w := fun _ _ _ => by kernel_rfl
  have hf1 : ∀ (a b : Int) (w : World), (Instr.field 28 (.agg #[.int .i64 a, .int .i64 b]) 1).run Tryd.prog w = .ok (.int .i64 b) w := fun _ _ _ => by kernel_rfl
  go_enter Tryd.func7, Tryd.ntmps7
  go_wp2_with (first
    | (refine wpList_load_row rfl 24 (.tmp 5) rfl w.heap.size rfl 24 _ (0, 0) _ (HE.out _ (by first | exact Mod.refl _ _ | exact (Mod.refl _ _).alloc _)).1 Tryd.underlying24 rfl info24 ?_)
    | (go_at_call 12; refine (H12.out _).mono ?_; rintro e w1 ⟨rfl, hM⟩; have HE := Hold.mk (HE.out.later hM); have e6 := cellsAt HE.out.now.2.1 0; clear hM)
    | (go_at_call 27; have hh := (HE.out _ ((Mod.refl noB w2).alloc (.cells #[.int .i64 (fa + wa * q), .int .i64 (fb + wb * q)] 28))).2.2.1; refine (H27.out _ hh.1 hh.2.1).mono ?_; clear hh; rintro e w3 ⟨rfl, hM⟩; have HE := Hold.mk (HE.out.later (((Mod.refl noB w2).alloc (.cells #[.int .i64 (fa + wa * q), .int .i64 (fb + wb * q)] 28)).trans hM)); have H11 := Hold.mk (kept_block (hM.at (World.alloc_heap_new w2 (.cells #[.int .i64 (fa + wa * q), .int .i64 (fb + wb * q)] 28)) id)); have g6 := cellsAt HE.out.now.2.1 0; have g0 := cellsAt HE.out.now.1 0; obtain ⟨c0, c1, c2, c3⟩ := HQ.out _ HE.out.now.2.2.2; have e7 := cellsAt (HE.out _ ((Mod.refl noB w3).alloc (.cells #[.int .i64 fa, .int .i64 fb, .int .i64 wa, .int .i64 wb] 53))).2.1 0; clear hM)
    | (go_at_call 14; have hh := HE.out.now.2.2.1; (with_reducible refine (H14.out q _ (by omega) (by omega) hh.1 hh.2.1).mono ?_); clear hh; rintro e w2 ⟨rfl, hM⟩; have HE := Hold.mk (HE.out.later hM); clear hM e6)
    | (go_at_call 14; have hh := (HE.out _ ((Mod.refl noB w3).alloc (.cells #[.int .i64 fa, .int .i64 fb, .int .i64 wa, .int .i64 wb] 53))).2.2.1; (with_reducible refine (H14.out (q + u % 50) _ (by omega) (by omega) hh.1 hh.2.1).mono ?_); clear hh; rintro e w4 ⟨rfl, hM⟩
       have hX := ((Mod.refl noB w3).alloc (.cells #[.int .i64 fa, .int .i64 fb, .int .i64 wa, .int .i64 wb] 53)).trans hM
       have HE := Hold.mk (HE.out.later (hX.alloc (.cells #[.int .i64 (fa + wa * (q + u % 50)), .int .i64 (fb + wb * (q + u % 50))] 28)))
       have H11 := Hold.mk (H11.out.later (hX.alloc (.cells #[.int .i64 (fa + wa * (q + u % 50)), .int .i64 (fb + wb * (q + u % 50))] 28)))
       have H14b := Hold.mk (kept_block ((hM.alloc (.cells #[.int .i64 (fa + wa * (q + u % 50)), .int .i64 (fb + wb * (q + u % 50))] 28)).at (World.alloc_heap_new w3 (.cells #[.int .i64 fa, .int .i64 fb, .int .i64 wa, .int .i64 wb] 53)) id))
       have a0 := cellsAt H11.out.now 0; have a1 := cellsAt H11.out.now 1; have b0 := cellsAt H14b.out.now 0; have b1 := cellsAt H14b.out.now 1; have b2 := cellsAt H14b.out.now 2; have b3 := cellsAt H14b.out.now 3
       have e8 := cellsAt HE.out.now.2.1 0
       clear hM hX e7 g6 g0 c0 c1 c2 c3)
    | (go_at_call 16; have hh := HE.out.now.2.2.1; (refine (H16.out _ hh.1 hh.2.1).mono ?_); clear hh a0 a1 b0 b1 b2 b3 e8 H11; rintro e w5 hh
       have hM := hh.2
       rcases HL.out with ⟨hl, m0⟩ | ⟨hl, m0, m1⟩ | ⟨hl, m0, m1, m2⟩ | ⟨lo, hi, hl, ⟨l0, l1, l2, l3, l4, l5, l6⟩, lo7, hi7⟩
       all_goals (rw [hl] at hh; simp only [TwoRes] at hh; obtain ⟨rfl, _⟩ := hh; clear hl)
       all_goals first
         | (have HE := Hold.mk (HE.out.later (hM.alloc (.cells #[.int .i64 lo, .int .i64 hi] 28)))
            have H17 := Hold.mk (kept_block (World.alloc_heap_new w5 (.cells #[.int .i64 lo, .int .i64 hi] 28)))
            clear hM H14b hp1 hp2 hp3 hp4
            rcases lo7 with rfl | ⟨lo7, lo8⟩ <;> rcases hi7 with rfl | ⟨hi7, hi8⟩
            all_goals try (exfalso; omega))
         | (have HE := Hold.mk (HE.out.later (hM.alloc (.cells #[.int .i64 0, .int .i64 0] 28)))
            have H14b := Hold.mk (H14b.out.later (hM.alloc (.cells #[.int .i64 0, .int .i64 0] 28)))
            have b0 := cellsAt H14b.out.now 0; have b1 := cellsAt H14b.out.now 1; have b2 := cellsAt H14b.out.now 2; have b3 := cellsAt H14b.out.now 3
            clear hM))
    | (go_at_call 34; (with_reducible refine (H34.out _ _ (by omega) (by omega) HE.out).mono ?_); rintro e wN ⟨rfl, hM⟩; have HE := Hold.mk (HE.out.later hM); have H17 := Hold.mk (H17.out.later hM); have t0 := cellsAt H17.out.now 0; have t1 := cellsAt H17.out.now 1; clear hM)
    | (go_at_call 13; refine (awake_any _ HE.out.now.2.2.1.2.2).mono ?_; rintro e wZ ⟨rfl, hM⟩; have HE := Hold.mk (HE.out.later hM); clear hM))
  all_goals
    go_ret
    exact ⟨by first | rfl | (simp; omega), HE.out.now.2.2.2⟩
end Go.Proofs.YtdncppempgpooaaDoor

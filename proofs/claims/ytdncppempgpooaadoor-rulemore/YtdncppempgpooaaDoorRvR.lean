/- RuleOffs: the law's walk, from what awake yields. -/
import Derived.Test.YtdncppempgpooaaDoorRvQ
import Derived.Test.YtdncppempgpooaaDoorRvK
set_option linter.unusedSimpArgs false
set_option linter.unusedVariables false
namespace Go.Proofs.YtdncppempgpooaaDoor
open Go.RowKit Go.Shelf

/-- What awake yields. -/
def AwakeOk : Prop := ∀ w, Tab w → Calls Tryd.prog 13 #[] w fun e w' => e = .returned (.bool true) ∧ Mod noB w w'

set_option maxRecDepth 100000 in
set_option maxHeartbeats 4000000 in
theorem law3_any (hAw : AwakeOk) (B : Nat) (ao : Option Addr) (cap : Nat) (d : Dye) (k n m : Int) (w : World) (hB : B ≤ w.heap.size) (hs : BladesAt B w ao d.bl) (hT : Tab w) :
    Calls Tryd.prog 3 #[dyV ao d.bl.length cap d, .int .i64 k, .int .i64 n, .int .i64 m] w fun e w' => e = .returned (.bool true) ∧ Mod noB w w' := by
  have hw1 : 1 < w.heap.size := World.block_lt_of_cell? _ _ (hT.at_ 0 (by omega))
  have hsm := hs.small
  have hb0 := World.alloc_heap_new w (.cells (dyC ao d.bl.length cap d) 24)
  have HF := Hold.mk (show Kept (w.alloc (.cells (dyC ao d.bl.length cap d) 24)) (fun W => (W.heap[w.heap.size]? = some (.cells (dyC ao d.bl.length cap d) 24) ∧ (B ≤ W.heap.size ∧ BladesAt B W ao d.bl ∧ Tab W)) ∧ Mod noB w W) from fun W h => by
    have hm := ((Mod.refl noB w).alloc _).trans h
    exact ⟨⟨h.at hb0 id, Nat.le_trans hB hm.size, hs.low (Low.ofN hm hB), hT.same (hm.block 1 hw1 id)⟩, hm⟩)
  have HA := Hold.mk hAw
  by_cases hf : 10 < (d.bl.length : Int)
  · have H12 : Hold (∀ W, Calls Tryd.prog 12 #[dyV ao d.bl.length cap d, .slice none 0 0, .slice none 0 0] W fun e w' => e = .returned (.bool true) ∧ Mod noB W w') := ⟨fun W => (far_any ao cap d none none d.bl.length 0 0 0 0 W rfl hsm (by omega) (by omega)).mono fun e w' h => ⟨by rw [h.1]; simp; omega, h.2⟩⟩
    clear hs hT hw1 hb0 hB hAw
    go_enter Tryd.func3, Tryd.ntmps3
    go_wp2_with (first
      | (go_at_call 12; refine (H12.out _).mono ?_; rintro e w1 ⟨rfl, hM⟩; have HF1 := Hold.mk (HF.out.later hM); clear hM)
      | (go_at_call 13; refine (HA.out _ HF1.out.now.1.2.2.2).mono ?_; rintro e w2 ⟨rfl, hM⟩; have HF2 := Hold.mk (HF1.out.later hM); clear hM))
    go_ret
    exact ⟨rfl, HF2.out.now.2⟩
  · have H12 : Hold (∀ W, Calls Tryd.prog 12 #[dyV ao d.bl.length cap d, .slice none 0 0, .slice none 0 0] W fun e w' => e = .returned (.bool false) ∧ Mod noB W w') := ⟨fun W => (far_any ao cap d none none d.bl.length 0 0 0 0 W rfl hsm (by omega) (by omega)).mono fun e w' h => ⟨by rw [h.1]; simp; omega, h.2⟩⟩
    obtain ⟨o, ho⟩ : ∃ o, offE d k n = o := ⟨_, rfl⟩
    obtain ⟨q, hq⟩ : ∃ q, lastsE d k m = q := ⟨_, rfl⟩
    obtain ⟨⟨o1, o2⟩, oe⟩ := o
    obtain ⟨⟨q1, q2⟩, qe⟩ := q
    have H14 : Hold (∀ W, B ≤ W.heap.size → BladesAt B W ao d.bl → Calls Tryd.prog 14 #[dyV ao d.bl.length cap d, .int .i64 k, .int .i64 n] W fun e w' => e = .returned (.tuple #[spV (o1, o2), .int .i64 oe]) ∧ Mod noB W w') := ⟨fun W h1 h2 => (off_any B ao cap d k n W h1 h2).mono fun e w' h => by rw [ho] at h; exact h⟩
    have H15 : Hold (∀ W, B ≤ W.heap.size → BladesAt B W ao d.bl → Calls Tryd.prog 15 #[dyV ao d.bl.length cap d, .int .i64 k, .int .i64 n] W fun e w' => e = .returned (.tuple #[spV (o1, o2), .int .i64 oe]) ∧ Mod noB W w') := ⟨fun W h1 h2 => (refOff_any B ao cap d k n W h1 h2).mono fun e w' h => by rw [ho] at h; exact h⟩
    have H16 : Hold (∀ W, B ≤ W.heap.size → BladesAt B W ao d.bl → Calls Tryd.prog 16 #[dyV ao d.bl.length cap d, .int .i64 k, .int .i64 m] W fun e w' => e = .returned (.tuple #[spV (q1, q2), .int .i64 qe]) ∧ Mod noB W w') := ⟨fun W h1 h2 => (lasts_all B ao cap d k m W h1 h2).mono fun e w' h => by rw [hq] at h; exact h⟩
    have H17 : Hold (∀ W, B ≤ W.heap.size → BladesAt B W ao d.bl → Calls Tryd.prog 17 #[dyV ao d.bl.length cap d, .int .i64 k, .int .i64 m] W fun e w' => e = .returned (.tuple #[spV (q1, q2), .int .i64 qe]) ∧ Mod noB W w') := ⟨fun W h1 h2 => (docLasts_any B ao cap d k m W h1 h2).mono fun e w' h => by rw [hq] at h; exact h⟩
    clear hs hT hw1 hb0 hB hAw ho hq
    go_enter Tryd.func3, Tryd.ntmps3
    go_wp2_with (first
      | (go_at_call 12; refine (H12.out _).mono ?_; rintro e w1 ⟨rfl, hM⟩; have HF := Hold.mk (HF.out.later hM); clear hM)
      | (refine wpList_load_row rfl 24 (.tmp 4) rfl w.heap.size rfl 24 _ (0, 0) _ (HF.out _ (by first | exact Mod.refl _ _ | exact (Mod.refl _ _).alloc _)).1.1 Tryd.underlying24 rfl info24 ?_)
      | (go_at_call 14; have hh := (HF.out _ (Mod.refl noB w1)).1.2; refine (H14.out _ hh.1 hh.2.1).mono ?_; clear hh; rintro e w2 ⟨rfl, hM⟩; have HF := Hold.mk (HF.out.later hM); clear hM)
      | (go_at_call 15; have hh := (HF.out _ ((Mod.refl noB w2).alloc (.cells (spC (o1, o2)) 28))).1.2; refine (H15.out _ hh.1 hh.2.1).mono ?_; clear hh; rintro e w3 ⟨rfl, hM⟩; have HF := Hold.mk (HF.out.later (((Mod.refl noB w2).alloc (.cells (spC (o1, o2)) 28)).trans hM)); have H9 := Hold.mk (kept_block (hM.at (World.alloc_heap_new w2 (.cells (spC (o1, o2)) 28)) id)); clear hM)
      | (go_at_call 16; have hh := (HF.out _ ((Mod.refl noB w3).alloc (.cells (spC (o1, o2)) 28))).1.2; refine (H16.out _ hh.1 hh.2.1).mono ?_; clear hh; rintro e w4 ⟨rfl, hM⟩; have hX := ((Mod.refl noB w3).alloc (.cells (spC (o1, o2)) 28)).trans hM; have HF := Hold.mk (HF.out.later hX); have H9 := Hold.mk (H9.out.later hX); have H11 := Hold.mk (kept_block (hM.at (World.alloc_heap_new w3 (.cells (spC (o1, o2)) 28)) id)); clear hM hX)
      | (go_at_call 17; have hh := (HF.out _ ((Mod.refl noB w4).alloc (.cells (spC (q1, q2)) 28))).1.2; refine (H17.out _ hh.1 hh.2.1).mono ?_; clear hh; rintro e w5 ⟨rfl, hM⟩; have hX := ((Mod.refl noB w4).alloc (.cells (spC (q1, q2)) 28)).trans hM; have HF := Hold.mk (HF.out.later hX); have H9 := Hold.mk (H9.out.later hX); have H11 := Hold.mk (H11.out.later hX); have H13 := Hold.mk (kept_block (hM.at (World.alloc_heap_new w4 (.cells (spC (q1, q2)) 28)) id)); have ga := H13.out _ ((Mod.refl noB w5).alloc (.cells #[.int .i64 q1, .int .i64 q2] 28)); have e0 : (w5.alloc (.cells #[.int .i64 q1, .int .i64 q2] 28)).cell? ⟨w4.heap.size, 0, none⟩ = some (.int .i64 q1) := cellsAt ga 0; have e1 : (w5.alloc (.cells #[.int .i64 q1, .int .i64 q2] 28)).cell? ⟨w4.heap.size, 1, none⟩ = some (.int .i64 q2) := cellsAt ga 1; clear hM hX ga)
      | (refine wpList_load_row rfl 28 (.tmp 9) rfl w2.heap.size rfl 28 _ (0, 0) _ (H9.out _ ((Mod.refl _ _).alloc _)) Tryd.underlying28 rfl info28s ?_)
      | (refine wpList_load_row rfl 28 (.tmp 11) rfl w3.heap.size rfl 28 _ (0, 0) _ (H11.out _ ((Mod.refl _ _).alloc _)) Tryd.underlying28 rfl info28s ?_)
      | (refine wpList_load_row rfl 28 (.tmp 13) rfl w4.heap.size rfl 28 _ (0, 0) _ (H13.out _ ((Mod.refl _ _).alloc _)) Tryd.underlying28 rfl info28s ?_)
      | (go_at_call 13; have hh := (HF.out _ ((Mod.refl noB w5).alloc (.cells (spC (q1, q2)) 28))).1.2; refine (HA.out _ hh.2.2).mono ?_; clear hh; rintro e w6 ⟨rfl, hM⟩; have HF := Hold.mk (HF.out.later (((Mod.refl noB w5).alloc (.cells (spC (q1, q2)) 28)).trans hM)); clear hM))
    go_ret
    exact ⟨rfl, HF.out.now.2⟩
end Go.Proofs.YtdncppempgpooaaDoor

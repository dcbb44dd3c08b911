/- The document's Ints, Spans; a span; the example in memory. -/
import Derived.Test.YtknbcmildpmokaaSdH
import Derived.Laws.ResultCell
set_option linter.unusedSimpArgs false
set_option linter.unusedVariables false
namespace Go.Proofs.Ytknbcmildpmokaa
open Go.RowKit Go.Shelf

set_option maxRecDepth 100000 in
set_option maxHeartbeats 2000000 in
theorem ints_any (ao bo : Option Addr) (L M : List Int) (c d : Nat) (w : World) (ha : IntsAt w ao L) (hb : IntsAt w bo M) :
    Calls Try.prog 27 #[.slice ao L.length c, .slice bo M.length d] w fun e w' => e = .returned (.bool (decide (L = M))) ∧ Mod noB w w' := by
  have hsm := ha.small
  have hsm2 := hb.small
  have HA := Hold.mk (And.intro ha hb)
  clear ha hb
  by_cases hl : L.length = M.length
  · have hl1 : ((L.length : Int) != (M.length : Int)) = false := by simp [bne, hl]
    have HL := Hold.mk hl
    rw [← hl]
    rw [← hl] at hl1
    clear hl
    go_enter Try.func27, Try.ntmps27
    go_wp2
    go_loopw [5] (fun i wr => ∃ k : Nat, k ≤ L.length ∧ i = .int .i64 k ∧ (∀ j, j < k → L[j]? = M[j]?) ∧ Mod noB w wr) (fun i _ => L.length - (intOf i).toNat)
    case atStart => exact ⟨0, Nat.zero_le _, rfl, fun j hj => absurd hj (Nat.not_lt_zero _), Mod.refl _ _⟩
    case round =>
      obtain ⟨k, hk, rfl, h0, hmr⟩ := hrel
      have H0 := Hold.mk h0
      clear h0
      by_cases hlt : k < L.length
      · have hlt2 : k < M.length := by have := HL.out; omega
        obtain ⟨b1, o1, rfl, hb1, hc1⟩ := (HA.out.1.mod hmr).lies (fun e => by simp [e] at hlt)
        obtain ⟨b2, o2, rfl, hb2, hc2⟩ := (HA.out.2.mod hmr).lies (fun e => by simp [e] at hlt2)
        have h1 := hc1 k hlt
        have h2 := hc2 k hlt2
        obtain ⟨x, hx⟩ : ∃ x, L[k]? = some x := ⟨_, List.getElem?_eq_getElem hlt⟩
        obtain ⟨y, hy⟩ : ∃ y, M[k]? = some y := ⟨_, List.getElem?_eq_getElem hlt2⟩
        rw [hx, Option.getD_some] at h1
        rw [hy, Option.getD_some] at h2
        have HXY := Hold.mk (And.intro hx hy)
        have HM := Hold.mk hmr
        clear hc1 hc2 hmr hx hy hlt2
        by_cases he : x = y
        · subst he
          go_wp2
          go_quiet (fail)
          go_wp2
          go_roundw
          case rel => exact ⟨k + 1, by omega, by go_num, fun j hj => by
            rcases Nat.lt_succ_iff_lt_or_eq.1 hj with h | rfl
            · exact H0.out j h
            · rw [HXY.out.1, HXY.out.2], HM.out.drewN _⟩
          case measure => simp [intOf]; omega
        · have hne : (x != y) = true := by simp [bne, he]
          have HE := Hold.mk he
          clear he
          go_wp2
          go_quiet (fail)
          go_wp2
          go_ret
          refine ⟨?_, HM.out.drewN _⟩
          have : decide (L = M) = false := by
            simp only [decide_eq_false_iff_not]
            intro e
            subst e
            obtain ⟨h1, h2⟩ := HXY.out
            rw [h1] at h2
            exact HE.out (by simpa using h2)
          rw [this]; rfl
      · obtain rfl : k = L.length := by omega
        go_wp2
        go_ret
        refine ⟨?_, hmr⟩
        have : L = M := List.ext_getElem? (fun i => by
          by_cases hi : i < L.length
          · exact H0.out i hi
          · rw [List.getElem?_eq_none (by omega), List.getElem?_eq_none (by have := HL.out; omega)])
        simp [this]
  · have hl1 : ((L.length : Int) != (M.length : Int)) = true := by simp [bne]; omega
    have hf : decide (L = M) = false := by
      simp only [decide_eq_false_iff_not]
      intro e
      exact hl (by rw [e])
    have HF := Hold.mk hf
    clear hl hf
    go_enter Try.func27, Try.ntmps27
    go_wp2
    go_ret
    exact ⟨by rw [HF.out]; rfl, Mod.refl _ _⟩

set_option maxHeartbeats 400000 in
theorem span_any (lo hi : Int) (w : World) : Calls Try.prog 31 #[.int .i64 lo, .int .i64 hi] w fun e w' => e = .returned (spV (lo, hi)) ∧ Mod noB w w' := by
  go_enter Try.func31, Try.ntmps31
  go_wp2
  exact bodyPost_ret (v := spV (lo, hi)) (by simp [results, Try.results31, go_sem]) rfl ⟨rfl, (Mod.refl _ _).alloc _⟩

set_option maxRecDepth 100000 in
set_option maxHeartbeats 2000000 in
theorem spans_any (ao bo : Option Addr) (L M : List (Int × Int)) (c d : Nat) (w : World) (ha : ListAt w.heap.size w 2 spC ao L) (hb : ListAt w.heap.size w 2 spC bo M) :
    Calls Try.prog 20 #[.slice ao L.length c, .slice bo M.length d] w fun e w' => e = .returned (.bool (decide (L = M))) ∧ Mod noB w w' := by
  have hsm := ha.small
  have hsm2 := hb.small
  have HA := Hold.mk (And.intro ha hb)
  clear ha hb
  by_cases hl : L.length = M.length
  · have hl1 : ((L.length : Int) != (M.length : Int)) = false := by simp [bne, hl]
    have HL := Hold.mk hl
    rw [← hl]
    rw [← hl] at hl1
    clear hl
    go_enter Try.func20, Try.ntmps20
    go_wp2
    go_loopw [5] (fun i wr => ∃ k : Nat, k ≤ L.length ∧ i = .int .i64 k ∧ (∀ j, j < k → L[j]? = M[j]?) ∧ Mod noB w wr) (fun i _ => L.length - (intOf i).toNat)
    case atStart => exact ⟨0, Nat.zero_le _, rfl, fun j hj => absurd hj (Nat.not_lt_zero _), Mod.refl _ _⟩
    case round =>
      obtain ⟨k, hk, rfl, h0, hmr⟩ := hrel
      have H0 := Hold.mk h0
      clear h0
      by_cases hlt : k < L.length
      · have hlt2 : k < M.length := by have := HL.out; omega
        obtain ⟨b1, o1, rfl, hb1, hc1⟩ := (HA.out.1.low (Low.ofN hmr (Nat.le_refl _))).lies (fun e => by simp [e] at hlt)
        obtain ⟨b2, o2, rfl, hb2, hc2⟩ := (HA.out.2.low (Low.ofN hmr (Nat.le_refl _))).lies (fun e => by simp [e] at hlt2)
        obtain ⟨x, hx⟩ : ∃ x, L[k]? = some x := ⟨_, List.getElem?_eq_getElem hlt⟩
        obtain ⟨y, hy⟩ : ∃ y, M[k]? = some y := ⟨_, List.getElem?_eq_getElem hlt2⟩
        have h1 : wr.cell? ⟨b1, o1 + k * 2, none⟩ = some (.int .i64 x.1) := hc1 k x hx 0 (by omega)
        have h2 : wr.cell? ⟨b1, o1 + k * 2 + 1, none⟩ = some (.int .i64 x.2) := hc1 k x hx 1 (by omega)
        have h3 : wr.cell? ⟨b2, o2 + k * 2, none⟩ = some (.int .i64 y.1) := hc2 k y hy 0 (by omega)
        have h4 : wr.cell? ⟨b2, o2 + k * 2 + 1, none⟩ = some (.int .i64 y.2) := hc2 k y hy 1 (by omega)
        have HXY := Hold.mk (And.intro hx hy)
        have HM := Hold.mk hmr
        clear hc1 hc2 hmr hx hy hlt2
        obtain ⟨x1, x2⟩ := x
        obtain ⟨y1, y2⟩ := y
        by_cases he : x1 = y1 ∧ x2 = y2
        · obtain ⟨rfl, rfl⟩ := he
          go_wp2
          go_quiet (fail)
          go_wp2
          go_roundw
          case rel => exact ⟨k + 1, by omega, by go_num, fun j hj => by
            rcases Nat.lt_succ_iff_lt_or_eq.1 hj with h | rfl
            · exact H0.out j h
            · rw [HXY.out.1, HXY.out.2], HM.out.drewN _⟩
          case measure => simp [intOf]; omega
        · have HE := Hold.mk he
          by_cases e1 : x1 = y1
          · subst e1
            have e2 : ¬ x2 = y2 := fun e => he ⟨rfl, e⟩
            have e3 : (x2 == y2) = false := by simpa using e2
            clear he
            go_wp2
            go_quiet (fail)
            go_wp2
            go_ret
            refine ⟨?_, HM.out.drewN _⟩
            have : decide (L = M) = false := by
              simp only [decide_eq_false_iff_not]
              intro e
              subst e
              obtain ⟨h1, h2⟩ := HXY.out
              rw [h1] at h2
              exact HE.out (by simpa using h2)
            rw [this]; rfl
          · have e3 : (x1 == y1) = false := by simpa using e1
            clear he
            go_wp2
            go_quiet (fail)
            go_wp2
            go_ret
            refine ⟨?_, HM.out.drewN _⟩
            have : decide (L = M) = false := by
              simp only [decide_eq_false_iff_not]
              intro e
              subst e
              obtain ⟨h1, h2⟩ := HXY.out
              rw [h1] at h2
              exact HE.out (by simpa using h2)
            rw [this]; rfl
      · obtain rfl : k = L.length := by omega
        go_wp2
        go_ret
        refine ⟨?_, hmr⟩
        have : L = M := List.ext_getElem? (fun i => by
          by_cases hi : i < L.length
          · exact H0.out i hi
          · rw [List.getElem?_eq_none (by omega), List.getElem?_eq_none (by have := HL.out; omega)])
        simp [this]
  · have hl1 : ((L.length : Int) != (M.length : Int)) = true := by simp [bne]; omega
    have hf : decide (L = M) = false := by
      simp only [decide_eq_false_iff_not]
      intro e
      exact hl (by rw [e])
    have HF := Hold.mk hf
    clear hl hf
    go_enter Try.func20, Try.ntmps20
    go_wp2
    go_ret
    exact ⟨by rw [HF.out]; rfl, Mod.refl _ _⟩


theorem info26s : (Try.prog.info? 26).map (·.size) = some 5 := by kernel_rfl
theorem info29s : (Try.prog.info? 29).map (·.size) = some 7 := by kernel_rfl
theorem info24s : (Try.prog.info? 24).map (·.size) = some 2 := by kernel_rfl
@[reducible] def tsZ : Array Value := #[.int .i64 0, .int .i64 0, .int .i64 0, .int .i64 0, .int .i64 0, .int .i64 0, .int .i64 0]
set_option maxRecDepth 100000 in
set_option maxHeartbeats 2000000 in
theorem fine_any (w : World) : Calls Try.prog 29 #[] w fun e w' => e = .returned (tsV exFine) ∧ Mod noB w w' := by
  have HF : Hold (Kept (w.alloc (.cells tsZ 29)) (fun W => Mod noB w W ∧ W.heap[w.heap.size]? = some (.cells tsZ 29))) := ⟨fun W h => ⟨((Mod.refl noB w).alloc _).trans h, h.at (World.alloc_heap_new _ _) id⟩⟩
  go_enter Try.func29, Try.ntmps29
  go_wp2_with (first
    | (go_at_call 31; with_reducible refine (span_any (-50) 50 _).mono ?_; rintro e w1 ⟨rfl, hM⟩; have HF1 := Hold.mk (HF.out.later hM); clear hM)
    | (go_at_call 31; with_reducible refine (span_any 110450 110740 _).mono ?_; rintro e w2 ⟨rfl, hM⟩; have HF2 := Hold.mk (HF1.out.later hM); clear hM)
    | (refine wpList_store_row rfl 29 (.tmp 0) (.tmp 3) rfl w.heap.size _ rfl rfl 29 _ HF2.out.now.2 info29s rfl (by simp [Value.oneCell']) ?_; rw [setRow_put HF2.out.now.2]))
  have hg : (w2.putObj w.heap.size (.cells (tsC exFine) 29)).heap[w.heap.size]? = some (.cells (tsC exFine) 29) := World.putObj_heap_same (at_ltS HF2.out.now.2)
  exact bodyPost_ret (results_cell_row (fn := Try.f29) rfl _ _ w.heap.size 29 _ (0, 0) _ rfl hg Try.underlying29 rfl info29s) rfl ⟨rfl, HF2.out.now.1.putObj (fun h => by omega) _⟩
set_option maxRecDepth 100000 in
set_option maxHeartbeats 2000000 in
theorem camera_any (w : World) : Calls Try.prog 30 #[] w fun e w' => e = .returned (tsV exCam) ∧ Mod noB w w' := by
  have HF : Hold (Kept (w.alloc (.cells tsZ 29)) (fun W => Mod noB w W ∧ W.heap[w.heap.size]? = some (.cells tsZ 29))) := ⟨fun W h => ⟨((Mod.refl noB w).alloc _).trans h, h.at (World.alloc_heap_new _ _) id⟩⟩
  go_enter Try.func30, Try.ntmps30
  go_wp2_with (first
    | (go_at_call 31; with_reducible refine (span_any (-2) 0 _).mono ?_; rintro e w1 ⟨rfl, hM⟩; have HF1 := Hold.mk (HF.out.later hM); clear hM)
    | (go_at_call 31; with_reducible refine (span_any 98 100 _).mono ?_; rintro e w2 ⟨rfl, hM⟩; have HF2 := Hold.mk (HF1.out.later hM); clear hM)
    | (refine wpList_store_row rfl 29 (.tmp 0) (.tmp 3) rfl w.heap.size _ rfl rfl 29 _ HF2.out.now.2 info29s rfl (by simp [Value.oneCell']) ?_; rw [setRow_put HF2.out.now.2]))
  have hg : (w2.putObj w.heap.size (.cells (tsC exCam) 29)).heap[w.heap.size]? = some (.cells (tsC exCam) 29) := World.putObj_heap_same (at_ltS HF2.out.now.2)
  exact bodyPost_ret (results_cell_row (fn := Try.f30) rfl _ _ w.heap.size 29 _ (0, 0) _ rfl hg Try.underlying29 rfl info29s) rfl ⟨rfl, HF2.out.now.1.putObj (fun h => by omega) _⟩
set_option maxRecDepth 100000 in
set_option maxHeartbeats 2000000 in
theorem rough_any (w : World) : Calls Try.prog 42 #[] w fun e w' => e = .returned (tsV exRough) ∧ Mod noB w w' := by
  have HF : Hold (Kept (w.alloc (.cells tsZ 29)) (fun W => Mod noB w W ∧ W.heap[w.heap.size]? = some (.cells tsZ 29))) := ⟨fun W h => ⟨((Mod.refl noB w).alloc _).trans h, h.at (World.alloc_heap_new _ _) id⟩⟩
  go_enter Try.func42, Try.ntmps42
  go_wp2_with (first
    | (go_at_call 31; with_reducible refine (span_any (-1000) 1000 _).mono ?_; rintro e w1 ⟨rfl, hM⟩; have HF1 := Hold.mk (HF.out.later hM); clear hM)
    | (go_at_call 31; with_reducible refine (span_any 109500 111690 _).mono ?_; rintro e w2 ⟨rfl, hM⟩; have HF2 := Hold.mk (HF1.out.later hM); clear hM)
    | (refine wpList_store_row rfl 29 (.tmp 0) (.tmp 3) rfl w.heap.size _ rfl rfl 29 _ HF2.out.now.2 info29s rfl (by simp [Value.oneCell']) ?_; rw [setRow_put HF2.out.now.2]))
  have hg : (w2.putObj w.heap.size (.cells (tsC exRough) 29)).heap[w.heap.size]? = some (.cells (tsC exRough) 29) := World.putObj_heap_same (at_ltS HF2.out.now.2)
  exact bodyPost_ret (results_cell_row (fn := Try.f42) rfl _ _ w.heap.size 29 _ (0, 0) _ rfl hg Try.underlying29 rfl info29s) rfl ⟨rfl, HF2.out.now.1.putObj (fun h => by omega) _⟩

@[reducible] def kindsX : Array Value := #[.int .i64 90, .int .i64 1000, .int .i64 1001, .int .i64 10, .int .i64 2000, .int .i64 2000]
set_option maxRecDepth 100000 in
set_option maxHeartbeats 2000000 in
theorem sample_any (w : World) : Calls Try.prog 28 #[] w fun e w' => ∃ ab, e = .returned (bxV (some ⟨ab, 0, none⟩) 2 2 exBox) ∧ w'.heap[ab]? = some (.cells kindsX 74) ∧ Mod noB w w' := by
  have HF : Hold (Kept (w.alloc (.cells #[.slice none 0 0, .int .i64 0, .int .i64 0, .int .i64 0, .int .i64 0] 26)) (fun W => Mod noB w W ∧ W.heap[w.heap.size]? = some (.cells #[.slice none 0 0, .int .i64 0, .int .i64 0, .int .i64 0, .int .i64 0] 26))) := ⟨fun W h => ⟨((Mod.refl noB w).alloc _).trans h, h.at (World.alloc_heap_new _ _) id⟩⟩
  go_enter Try.func28, Try.ntmps28
  go_wp2_with (first
    | (go_at_call 31; refine (span_any 1000 1001 _).mono ?_; rintro e w1 ⟨rfl, hM⟩; have HF1 := Hold.mk (HF.out.later hM); clear hM)
    | (go_at_call 31; refine (span_any 2000 2000 _).mono ?_; rintro e w2 ⟨rfl, hM⟩; have HF2 := Hold.mk (HF1.out.later hM); clear hM)
    | (go_at_call 31; refine (span_any 500 600 _).mono ?_; rintro e w3 ⟨rfl, hM⟩
       have HF3 := Hold.mk (HF2.out.later ((((Mod.refl noB w2).alloc (.cells kindsX 74)).trans hM)))
       have HK3 := Hold.mk (hM.at (World.alloc_heap_new w2 (.cells kindsX 74)) id)
       have HZ := Hold.mk (at_ltS HF2.out.now.2)
       clear hM)
    | (refine wpList_store_row rfl 26 (.tmp 0) (.tmp 7) rfl w.heap.size _ rfl rfl 26 _ HF3.out.now.2 info26s rfl (by simp [Value.oneCell']) ?_; rw [setRow_put HF3.out.now.2]))
  have hg : (w3.putObj w.heap.size (.cells (bxC (some ⟨w2.heap.size, 0, none⟩) 2 2 exBox) 26)).heap[w.heap.size]? = some (.cells (bxC (some ⟨w2.heap.size, 0, none⟩) 2 2 exBox) 26) := World.putObj_heap_same (at_ltS HF3.out.now.2)
  exact bodyPost_ret (results_cell_row (fn := Try.f28) rfl _ _ w.heap.size 26 _ (0, 0) _ rfl hg Try.underlying26 rfl info26s) rfl ⟨w2.heap.size, rfl, (World.putObj_heap_other (by have := HZ.out; omega)).trans HK3.out, HF3.out.now.1.putObj (fun h => by omega) _⟩

end Go.Proofs.Ytknbcmildpmokaa

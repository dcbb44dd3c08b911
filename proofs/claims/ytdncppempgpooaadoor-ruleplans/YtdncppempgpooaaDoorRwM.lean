/- The document's Proof: the walk. -/
import Derived.Test.YtdncppempgpooaaDoorRwL
import Derived.Deep.DeepCutAuto
set_option linter.unusedSimpArgs false
set_option linter.unusedVariables false
namespace Go.Proofs.YtdncppempgpooaaDoor
open Go.RowKit Go.Shelf

set_option maxRecDepth 100000 in
set_option maxHeartbeats 8000000 in
theorem refProof_any (B : Nat) (ao : Option Addr) (cap : Nat) (d : Dye) (lo : Option Addr) (lcap : Nat) (l : List (Int × Int)) (w : World) (hI : InB B w ao d lo l) :
    Calls Tryd.prog 21 #[dyV ao d.bl.length cap d, .slice lo l.length lcap] w (ProofOut (proofE d l) w) := by
  have hsm := hI.bl.small
  have hsm2 := hI.st.small
  have HF := Hold.mk (show Kept (w.alloc (.cells (dyC ao d.bl.length cap d) 24)) (fun W => W.heap[w.heap.size]? = some (.cells (dyC ao d.bl.length cap d) 24) ∧ InB B W ao d lo l ∧ Mod noB w W) from fun W h => by
    have hm := ((Mod.refl noB w).alloc _).trans h
    exact ⟨h.at (World.alloc_heap_new w _) id, hI.mod hm, hm⟩)
  have H53 : Hold (∀ W, InB B W ao d lo l → Calls Tryd.prog 53 #[dyV ao d.bl.length cap d, .slice lo l.length lcap] W fun e w' => e = .returned (.int .i64 (checkE d l)) ∧ Mod noB W w') := ⟨fun W h => check_any B ao cap d lo lcap l W h⟩
  have HI := Hold.mk (show ∀ W, Mod noB w W → InB B W ao d lo l from fun W h => hI.mod h)
  clear hI
  cases hd : dieB d with
  | false =>
    have hE : Hold (proofE d l = ([], [], 1)) := ⟨by simp [proofE, hd]⟩
    rw [show checkE d l = 1 by simp [checkE, hd]] at H53
    clear hd
    go_enter Tryd.func21, Tryd.ntmps21
    go_wp2_with (first
      | (refine wpList_load_row rfl 24 (.tmp 2) rfl w.heap.size rfl 24 _ (0, 0) _ HF.out.now.1 Tryd.underlying24 rfl info24 ?_)
      | (go_at_call 53; refine (H53.out _ HF.out.now.2.1).mono ?_; rintro e w1 ⟨rfl, hM⟩; have HF := Hold.mk (HF.out.later hM); clear hM))
    refine go_ret456 rfl ?_
    rw [hE.out]
    exact proof_nil HF.out.now.2.2
  | true =>
  cases hs : stintsB l with
  | false =>
    have hE : Hold (proofE d l = ([], [], 2)) := ⟨by simp [proofE, hd, hs]⟩
    rw [show checkE d l = 2 by simp [checkE, hd, hs]] at H53
    clear hd hs
    go_enter Tryd.func21, Tryd.ntmps21
    go_wp2_with (first
      | (refine wpList_load_row rfl 24 (.tmp 2) rfl w.heap.size rfl 24 _ (0, 0) _ HF.out.now.1 Tryd.underlying24 rfl info24 ?_)
      | (go_at_call 53; refine (H53.out _ HF.out.now.2.1).mono ?_; rintro e w1 ⟨rfl, hM⟩; have HF := Hold.mk (HF.out.later hM); clear hM))
    refine go_ret456 rfl ?_
    rw [hE.out]
    exact proof_nil HF.out.now.2.2
  | true =>
  have hl7 : l.length ≤ 7 := by simp [stintsB] at hs; omega
  obtain ⟨i0, hi, hz0, hz1, hz2⟩ := info_parts info28
  obtain ⟨j0, hj, hy0, hy1, hy2⟩ := info_parts info3
  rw [show checkE d l = 0 by simp [checkE, hd, hs]] at H53
  have H36 : Hold (∀ (f t : Nat) W, InB B W ao d lo l → f ≤ t → t < l.length → Calls Tryd.prog 36 #[dyV ao d.bl.length cap d, .slice lo l.length lcap, .int .i64 f, .int .i64 t] W fun e w' => e = .returned (failV (stuckR d (segL l f t))) ∧ Mod noB W w') := ⟨fun f t W h h1 h2 => stuck_any B ao cap d lo lcap l f t W hd hs h h1 h2⟩
  have HDS := Hold.mk (And.intro hd hs)
  clear hd hs
  go_enter Tryd.func21, Tryd.ntmps21
  go_wp2_with (first
    | (refine wpList_load_row rfl 24 (.tmp 2) rfl w.heap.size rfl 24 _ (0, 0) _ HF.out.now.1 Tryd.underlying24 rfl info24 ?_)
    | (go_at_call 53; refine (H53.out _ HF.out.now.2.1).mono ?_; rintro e w1 ⟨rfl, hM⟩; have HF := Hold.mk (HF.out.later hM); clear hM))
  go_loopw [8] (fun i wr => ∃ k : Nat, k ≤ l.length ∧ i = .int .i64 k ∧ (∀ j s, j < k → l[j]? = some s → failing d zeroR s = none) ∧ Mod noB w1 wr) (fun i _ => l.length - (intOf i).toNat)
  case atStart => exact ⟨0, Nat.zero_le _, rfl, fun j s hj => absurd hj (Nat.not_lt_zero _), Mod.refl _ _⟩
  case round =>
    obtain ⟨k, hk, rfl, hall, hm⟩ := hrel
    have HA := Hold.mk hall
    have HW := Hold.mk (HF.out.later hm)
    have HM := Hold.mk hm
    clear hall hm
    by_cases hlt : k < l.length
    · obtain ⟨s, hs⟩ : ∃ s, l[k]? = some s := ⟨_, List.getElem?_eq_getElem hlt⟩
      have hst := stuckR_one (d := d) hs
      have HS := Hold.mk hs
      have HC := H36.out k k wr HW.out.now.2.1 (Nat.le_refl _) hlt
      rw [hst] at HC
      have HC := Hold.mk HC
      clear hs hst
      cases ho : failing d zeroR s with
      | some b =>
        have hE : Hold (proofE d l = ([], [], 4)) := ⟨by
          have : bearsB d l = false := by
            unfold bearsB
            rw [List.all_eq_false]
            exact ⟨s, List.mem_of_getElem? HS.out, by simp [ho]⟩
          simp [proofE, HDS.out.1, HDS.out.2, this]⟩
        rw [ho] at HC
        simp only [failV] at HC
        clear ho
        go_wp2_with (first
          | (refine wpList_load_row rfl 24 (.tmp 2) rfl w.heap.size rfl 24 _ (0, 0) _ HW.out.now.1 Tryd.underlying24 rfl info24 ?_)
          | (go_at_call 36; refine HC.out.mono ?_; rintro e w2 ⟨rfl, hM⟩; have HW := Hold.mk (HW.out.later hM); clear hM))
        refine go_ret456 rfl ?_
        rw [hE.out]
        exact proof_nil HW.out.now.2.2
      | none =>
        rw [ho] at HC
        simp only [failV] at HC
        have HO := Hold.mk ho
        clear ho
        go_wp2_with (first
          | (refine wpList_load_row rfl 24 (.tmp 2) rfl w.heap.size rfl 24 _ (0, 0) _ HW.out.now.1 Tryd.underlying24 rfl info24 ?_)
          | (go_at_call 36; refine HC.out.mono ?_; rintro e w2 ⟨rfl, hM⟩; have HM := Hold.mk (HM.out.trans hM); clear hM))
        go_roundw
        case rel => exact ⟨k + 1, by omega, by go_num, fun j y hj hy => by
          rcases Nat.lt_succ_iff_lt_or_eq.1 hj with h | rfl
          · exact HA.out j y h hy
          · rw [HS.out] at hy; cases hy; exact HO.out, HM.out⟩
        case measure => simp [intOf]; omega
    · obtain rfl : k = l.length := by omega
      have hE : Hold (proofE d l = ((rowsR d 0 0 zeroR l).map fun x => (Int.ofNat x.1.1, Int.ofNat x.1.2), (rowsR d 0 0 zeroR l).map fun x => Int.ofNat x.2, 0)) := ⟨by
        have : bearsB d l = true := by
          unfold bearsB
          rw [List.all_eq_true]
          intro s hs
          obtain ⟨j, hj, he⟩ := List.getElem_of_mem hs
          rw [HA.out j s hj (by rw [List.getElem?_eq_getElem hj, he])]; rfl
        simp [proofE, HDS.out.1, HDS.out.2, this]⟩
      have HST : Hold (PrI w (dyC ao d.bl.length cap d) d l 1 0 (.slice none 0 0) (.slice none 0 0) wr) := ⟨PrI.start (fun s hs => HA.out 0 s (List.getElem?_eq_some_iff.1 hs).1 hs) HW.out.now.1 HW.out.now.2.2⟩
      go_wp2
      generalize wr = W1 at *
      go_loopw [14, 11, 12, 13] (fun tt vR vB fr W => ∃ t f : Nat, 1 ≤ t ∧ (t ≤ l.length ∨ t = 1) ∧ tt = .int .i64 t ∧ fr = .int .i64 f ∧ f < t ∧ PrI w (dyC ao d.bl.length cap d) d l t f vR vB W) (fun tt _ _ _ _ => l.length - (intOf tt).toNat)
      case atStart => exact ⟨1, 0, Nat.le_refl _, .inr rfl, rfl, rfl, by omega, HST.out⟩
      case round =>
        obtain ⟨t, f, ht1, ht2, rfl, rfl, hft, r, acc, q1, q2, q3, q4, q5⟩ := hrel
        by_cases hlt2 : t < l.length
        · obtain ⟨s, hs⟩ : ∃ s, l[t]? = some s := ⟨_, List.getElem?_eq_getElem hlt2⟩
          have hst : stuckR d (segL l f t) = failing d r s := by rw [segL_A, segA_succ hs (by omega)]; exact stuckR_next q2 q1
          have HC := H36.out f t wr (HI.out _ q5.m) (by omega) hlt2
          rw [hst] at HC
          have HC := Hold.mk HC
          have HQ := Hold.mk (And.intro q1 (And.intro q2 (And.intro q3 (And.intro q4 hs))))
          have HS0 := Hold.mk q5
          have hal : acc.length ≤ 10 := by omega
          have hff : f ≤ 10 := by omega
          have htt : t ≤ 10 := by omega
          clear q1 q2 q3 q4 q5 hs hst
          cases ho : failing d r s with
          | none =>
            rw [ho] at HC
            simp only [failV] at HC
            have HO := Hold.mk ho
            clear ho
            go_wp2_with (first
              | (refine wpList_load_row rfl 24 (.tmp 2) rfl w.heap.size rfl 24 _ (0, 0) _ HS0.out.a Tryd.underlying24 rfl info24 ?_)
              | (go_at_call 36; refine HC.out.mono ?_; rintro e w2 ⟨rfl, hM⟩; have HS1 := Hold.mk (HS0.out.later hM); clear hM))
            go_roundw
            case rel =>
              obtain ⟨q1, q2, q3, q4, hs⟩ := HQ.out
              exact ⟨t + 1, f, by omega, by omega, by go_num, rfl, by omega, PrI.pass q1 q2 q3 q4 hs (by omega) HO.out HS1.out⟩
            case measure => simp [intOf]; omega
          | some b =>
            rw [ho] at HC
            simp only [failV] at HC
            have HO := Hold.mk ho
            clear ho
            go_wp2_with (first
              | (refine wpList_load_row rfl 24 (.tmp 2) rfl w.heap.size rfl 24 _ (0, 0) _ HS0.out.a Tryd.underlying24 rfl info24 ?_)
              | (go_at_call 36; refine HC.out.mono ?_; rintro e w5 ⟨rfl, hM⟩; have HS5 := Hold.mk (HS0.out.later hM); clear hM)
              | (at_builtin; refine wpList_append_own_at _ rfl (.tmp 53) (.tmp 57) 37 rfl (w.heap.size + 1) 28 i0 (.agg #[.int .i64 0, .int .i64 0]) 2 16 Tryd.underlying37 hi hz0 hz1 hz2 rfl (by decide) u11 acc.length (rowCells acc) rfl ((HS5.out.later ((Mod.refl noB w5).alloc (.cells #[.int .i64 f, .int .i64 t] 28))).r) ⟨w5.heap.size, 0, none⟩ 1 1 [.int .i64 f, .int .i64 t] rfl rfl (two_cells w5 f t 28) (by intro u hu; simp only [List.mem_cons, List.not_mem_nil, or_false] at hu; rcases hu with rfl | rfl <;> rfl) (by unfold maxLen; omega) (by omega) (by have := at_ltS HS5.out.a; simp; omega) ?_
                 intro v6 w6 hown hgr _ _
                 have HS6 := Hold.mk ((HS5.out.later ((Mod.refl noB w5).alloc (.cells #[.int .i64 f, .int .i64 t] 28))).appR hown hgr)
                 clear hown hgr)
              | (at_builtin; refine wpList_append_own_at _ rfl (.tmp 59) (.tmp 61) 34 rfl (w.heap.size + 1) 3 j0 (.int .i64 0) 1 8 Tryd.underlying34 hj hy0 hy1 hy2 rfl (by decide) u12 acc.length (rowInts acc) rfl ((HS6.out.later ((Mod.refl noB w6).alloc (.cells #[.int .i64 b] 3))).b) ⟨w6.heap.size, 0, none⟩ 1 1 [.int .i64 b] rfl rfl (one_cell w6 b) (by intro u hu; simp only [List.mem_cons, List.not_mem_nil, or_false] at hu; subst hu; rfl) (by unfold maxLen; omega) (by omega) (by have := at_ltS HS6.out.a; simp; omega) ?_
                 intro v7 w7 hown hgr _ _
                 have HS7 := Hold.mk ((HS6.out.later ((Mod.refl noB w6).alloc (.cells #[.int .i64 b] 3))).appB hown hgr)
                 clear hown hgr))
            go_roundw
            case rel =>
              obtain ⟨q1, q2, q3, q4, hs⟩ := HQ.out
              exact ⟨t + 1, t, by omega, by omega, by go_num, rfl, by omega, PrI.stop q3 q4 hs (HA.out t s hlt2 hs) HO.out HS7.out⟩
            case measure => simp [intOf]; omega
        · have he : rowsR d 0 0 zeroR l = acc := by rw [q4, List.drop_eq_nil_of_le (by omega), rowsR, List.append_nil]
          obtain ⟨ao1, cap1, rfl⟩ := own_form q5.r
          obtain ⟨ao2, cap2, rfl⟩ := own_form q5.b
          have HR : Hold (ProofOut (proofE d l) w (.returned (.tuple #[.slice ao1 acc.length cap1, .slice ao2 acc.length cap2, .int .i64 0])) wr) := ⟨by
            rw [hE.out, he]
            refine ⟨_, _, rfl, ?_, ?_, q5.m⟩
            · have e1 : spanL (acc.map fun x => (Int.ofNat x.1.1, Int.ofNat x.1.2)) = rowCells acc := by
                simp only [spanL, rowCells, List.flatMap_map]; rfl
              rw [e1, List.length_map]
              exact own_mono q5.r (by omega)
            · have e2 : (acc.map fun x => Int.ofNat x.2).map (Value.int .i64) = rowInts acc := by
                simp only [rowInts, List.map_map]; rfl
              rw [e2, List.length_map]
              exact own_mono q5.b (by omega)⟩
          clear q1 q2 q3 q4 q5 he
          go_wp2
          refine go_ret456 rfl ?_
          exact HR.out
end Go.Proofs.YtdncppempgpooaaDoor

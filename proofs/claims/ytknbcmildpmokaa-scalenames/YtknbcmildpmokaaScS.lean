/- check: the error of a box, of readings, of tests. -/
import Derived.Test.YtknbcmildpmokaaScQ
set_option linter.unusedSimpArgs false
set_option linter.unusedVariables false
namespace Go.Proofs.Ytknbcmildpmokaa
open Go.RowKit Go.Shelf


/-- What check has at hand. -/
structure CkF (B : Nat) (w : World) (ao : Option Addr) (cap : Nat) (b : Bx) (ro : Option Addr) (l : List Rdg) (to : Option Addr) (ts : List Tst) (W : World) : Prop where
  b : BoxAt B W w.heap.size ao cap b
  r : ReadsAt B W ro l
  t : TestsAt B W to ts
  w : Mod noB w W

set_option maxRecDepth 100000 in
set_option maxHeartbeats 4000000 in
theorem check_any (B : Nat) (ao ro to : Option Addr) (cap rcap tcap : Nat) (b : Bx) (l : List Rdg) (ts : List Tst) (w : World) (hB : B ≤ w.heap.size) (hs : KindsAt B w ao b.ks) (hr : ReadsAt B w ro l) (ht : TestsAt B w to ts) :
    Calls Try.prog 48 #[bxV ao b.ks.length cap b, .slice ro l.length rcap, .slice to ts.length tcap] w fun e w' => e = .returned (.int .i64 (checkE b l ts)) ∧ Mod noB w w' := by
  have hls := hr.small
  have hts := ht.small
  have hksm := hs.small
  have HF : Hold (Kept (w.alloc (.cells (bxC ao b.ks.length cap b) 26)) (fun W => CkF B w ao cap b ro l to ts W)) := ⟨fun W h => by
    have hm := ((Mod.refl noB w).alloc (.cells (bxC ao b.ks.length cap b) 26)).trans h
    exact ⟨⟨new_at w _ W h, hs.low (Low.ofN hm hB)⟩, hr.low (Low.ofN hm hB), ht.low (Low.ofN hm hB), hm⟩⟩
  have HB := Hold.mk hB
  have H43 := Hold.mk (fun (W : World) (h : CkF B w ao cap b ro l to ts W) => isBox_any B ao cap b W (Nat.le_trans hB h.w.size) h.b.k)
  clear hs hr ht
  cases hb : boxB b with
  | false =>
    simp only [hb] at H43
    have he : Hold (checkE b l ts = 1) := ⟨by simp [checkE, hb]⟩
    clear hb
    go_enter Try.func48, Try.ntmps48
    go_wp2_with (go_at_call 43; refine (H43.out _ HF.out.now).mono ?_; rintro e w1 ⟨rfl, hM⟩; have HF1 := Hold.mk (HF.out.later hM); clear hM)
    go_ret
    exact ⟨by rw [he.out]; rfl, HF1.out.now.w⟩
  | true =>
    simp only [hb] at H43
    have hk4 := (boxB_ks hb).2.1
    by_cases h16 : l.length ≤ 16
    · by_cases h8 : ts.length ≤ 8
      · have he : Hold (checkE b l ts = if (l.all fun r => testB b.ks.length r.t) && ts.all (testB b.ks.length) then 0 else 1) := ⟨by simp [checkE, hb, h16, h8]⟩
        have H44 := Hold.mk (fun (t : Tst) (W : World) => isTest_any b.ks.length ao cap b t W hk4)
        clear hb
        go_enter Try.func48, Try.ntmps48
        go_wp2_with (go_at_call 43; refine (H43.out _ HF.out.now).mono ?_; rintro e w1 ⟨rfl, hM⟩; have HF1 := Hold.mk (HF.out.later hM); clear hM)
        go_loopw [24] (fun i wr => ∃ k : Nat, k ≤ l.length ∧ i = .int .i64 k ∧ (∀ j r, j < k → l[j]? = some r → testB b.ks.length r.t = true) ∧ Mod noB w1 wr) (fun i _ => l.length - (intOf i).toNat)
        case atStart => exact ⟨0, Nat.zero_le _, rfl, fun j _ hj => absurd hj (Nat.not_lt_zero _), Mod.refl _ _⟩
        case round =>
          obtain ⟨k, hk, rfl, h0, hmr⟩ := hrel
          have H0 := Hold.mk h0
          have HM := Hold.mk hmr
          clear h0 hmr
          by_cases hlt : k < l.length
          · obtain ⟨r, hz⟩ : ∃ r, l[k]? = some r := ⟨_, List.getElem?_eq_getElem hlt⟩
            obtain ⟨rb, roff, rfl, _, q0, q1, q2, q3, q4, q5, q6, q7⟩ := (HF1.out _ HM.out).r.reading hz
            have HZ := Hold.mk hz
            obtain ⟨W4, hW4⟩ : ∃ W4, wr.alloc (.cells #[.int .i64 r.t.how, .int .i64 r.t.kinds, .int .i64 r.t.err.1, .int .i64 r.t.err.2, .int .i64 r.t.pass.1, .int .i64 r.t.pass.2, .int .i64 r.t.cost, .int .i64 r.got] 54) = W4 := ⟨_, rfl⟩
            have hm4 : Mod noB wr W4 := by rw [← hW4]; exact (Mod.refl _ _).alloc _
            have hd4 : W4.heap[wr.heap.size]? = some (.cells (rdC r) 54) := by rw [← hW4]; exact World.alloc_heap_new _ _
            obtain ⟨b0, b1, b2, b3, b4⟩ := (HF1.out _ (HM.out.trans hm4)).b.cells
            obtain ⟨t0, t1, t2, t3, t4, t5, t6, t7⟩ := rd_cells hd4
            have HM4 := Hold.mk hm4
            obtain ⟨v, hv⟩ : ∃ v, testB b.ks.length r.t = v := ⟨_, rfl⟩
            have HP : Hold (∀ w, Calls Try.prog 44 #[bxV ao b.ks.length cap b, tsV r.t] w fun e w2 => e = .returned (.bool v) ∧ Mod noB w w2) := ⟨fun w => by rw [← hv]; exact H44.out _ w⟩
            have HV := Hold.mk hv
            clear hz hm4 hd4 hv
            cases v with
            | true =>
              go_wp2_with (go_at_call 44; (try rw [hW4]); refine (HP.out _).mono ?_; rintro e w5 ⟨rfl, hM⟩; have HM5 := Hold.mk (HM4.out.trans hM); clear hM)
              go_roundw
              case rel => exact ⟨k + 1, by omega, by go_num, fun j r hj hy => by
                rcases Nat.lt_succ_iff_lt_or_eq.1 hj with h | rfl
                · exact H0.out j r h hy
                · rw [HZ.out] at hy; cases hy; exact HV.out, HM.out.trans HM5.out⟩
              case measure => simp [intOf]; omega
            | false =>
              have hf : Hold ((l.all fun r => testB b.ks.length r.t) = false) := ⟨by rw [List.all_eq_false]; exact ⟨r, List.mem_of_getElem? HZ.out, by rw [HV.out]; simp⟩⟩
              go_wp2_with (go_at_call 44; (try rw [hW4]); refine (HP.out _).mono ?_; rintro e w5 ⟨rfl, hM⟩; have HM5 := Hold.mk (HM4.out.trans hM); clear hM)
              go_ret
              exact ⟨by rw [he.out, hf.out]; rfl, (HF1.out _ (HM.out.trans HM5.out)).w⟩
          · obtain rfl : k = l.length := by omega
            have hl1 : Hold ((l.all fun r => testB b.ks.length r.t) = true) := ⟨by
              rw [List.all_eq_true]
              intro r hr
              obtain ⟨j, hj⟩ := List.mem_iff_getElem?.1 hr
              exact H0.out j r (List.getElem?_eq_some_iff.1 hj).1 hj⟩
            have HF2 : Hold (Kept wr (fun W => CkF B w ao cap b ro l to ts W)) := ⟨fun W h => HF1.out W (HM.out.trans h)⟩
            clear H0
            generalize wr = wx at *
            go_wp2
            go_loopw [36] (fun i wr => ∃ k : Nat, k ≤ ts.length ∧ i = .int .i64 k ∧ (∀ j r, j < k → ts[j]? = some r → testB b.ks.length r = true) ∧ Mod noB wx wr) (fun i _ => ts.length - (intOf i).toNat)
            case atStart => exact ⟨0, Nat.zero_le _, rfl, fun j _ hj => absurd hj (Nat.not_lt_zero _), Mod.refl _ _⟩
            case round =>
              obtain ⟨k, hk, rfl, h0, hmr⟩ := hrel
              have H0 := Hold.mk h0
              have HMM := Hold.mk hmr
              clear h0 hmr
              by_cases hlt : k < ts.length
              · obtain ⟨r, hz⟩ : ∃ r, ts[k]? = some r := ⟨_, List.getElem?_eq_getElem hlt⟩
                obtain ⟨rb, roff, rfl, _, q0, q1, q2, q3, q4, q5, q6⟩ := (HF2.out _ HMM.out).t.test hz
                have HZ := Hold.mk hz
                obtain ⟨W4, hW4⟩ : ∃ W4, wr.alloc (.cells #[.int .i64 r.how, .int .i64 r.kinds, .int .i64 r.err.1, .int .i64 r.err.2, .int .i64 r.pass.1, .int .i64 r.pass.2, .int .i64 r.cost] 29) = W4 := ⟨_, rfl⟩
                have hm4 : Mod noB wr W4 := by rw [← hW4]; exact (Mod.refl _ _).alloc _
                have hd4 : W4.heap[wr.heap.size]? = some (.cells (tsC r) 29) := by rw [← hW4]; exact World.alloc_heap_new _ _
                obtain ⟨b0, b1, b2, b3, b4⟩ := (HF2.out _ (HMM.out.trans hm4)).b.cells
                obtain ⟨t0, t1, t2, t3, t4, t5, t6⟩ := ts_cells hd4
                have HM4 := Hold.mk hm4
                obtain ⟨v, hv⟩ : ∃ v, testB b.ks.length r = v := ⟨_, rfl⟩
                have HP : Hold (∀ w, Calls Try.prog 44 #[bxV ao b.ks.length cap b, tsV r] w fun e w2 => e = .returned (.bool v) ∧ Mod noB w w2) := ⟨fun w => by rw [← hv]; exact H44.out _ w⟩
                have HV := Hold.mk hv
                clear hz hm4 hd4 hv
                cases v with
                | true =>
                  go_wp2_with (go_at_call 44; (try rw [hW4]); refine (HP.out _).mono ?_; rintro e w5 ⟨rfl, hM⟩; have HM5 := Hold.mk (HM4.out.trans hM); clear hM)
                  go_roundw
                  case rel => exact ⟨k + 1, by omega, by go_num, fun j r hj hy => by
                    rcases Nat.lt_succ_iff_lt_or_eq.1 hj with h | rfl
                    · exact H0.out j r h hy
                    · rw [HZ.out] at hy; cases hy; exact HV.out, HMM.out.trans HM5.out⟩
                  case measure => simp [intOf]; omega
                | false =>
                  have hf : Hold ((ts.all (testB b.ks.length)) = false) := ⟨by rw [List.all_eq_false]; exact ⟨r, List.mem_of_getElem? HZ.out, by rw [HV.out]; simp⟩⟩
                  go_wp2_with (go_at_call 44; (try rw [hW4]); refine (HP.out _).mono ?_; rintro e w5 ⟨rfl, hM⟩; have HM5 := Hold.mk (HM4.out.trans hM); clear hM)
                  go_ret
                  exact ⟨by rw [he.out, hf.out, Bool.and_false]; rfl, (HF2.out _ (HMM.out.trans HM5.out)).w⟩
              · obtain rfl : k = ts.length := by omega
                have hf : Hold ((ts.all (testB b.ks.length)) = true) := ⟨by
                  rw [List.all_eq_true]
                  intro r hr
                  obtain ⟨j, hj⟩ := List.mem_iff_getElem?.1 hr
                  exact H0.out j r (List.getElem?_eq_some_iff.1 hj).1 hj⟩
                go_wp2
                go_ret
                exact ⟨by rw [he.out, hl1.out, hf.out]; rfl, (HF2.out _ HMM.out).w⟩
      · have he : Hold (checkE b l ts = 3) := ⟨by simp [checkE, hb, h8]⟩
        have hd1 : decide (16 < l.length) = false := by simp; omega
        clear hb
        go_enter Try.func48, Try.ntmps48
        go_wp2_with (go_at_call 43; refine (H43.out _ HF.out.now).mono ?_; rintro e w1 ⟨rfl, hM⟩; have HF1 := Hold.mk (HF.out.later hM); clear hM)
        go_ret
        exact ⟨by rw [he.out]; rfl, HF1.out.now.w⟩
    · have he : Hold (checkE b l ts = 3) := ⟨by simp [checkE, hb, h16]⟩
      clear hb
      go_enter Try.func48, Try.ntmps48
      go_wp2_with (go_at_call 43; refine (H43.out _ HF.out.now).mono ?_; rintro e w1 ⟨rfl, hM⟩; have HF1 := Hold.mk (HF.out.later hM); clear hM)
      go_ret
      exact ⟨by rw [he.out]; rfl, HF1.out.now.w⟩

end Go.Proofs.Ytknbcmildpmokaa

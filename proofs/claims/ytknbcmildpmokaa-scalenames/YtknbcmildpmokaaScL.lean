/- fits: does a list fit all readings? -/
import Derived.Test.YtknbcmildpmokaaScK
set_option linter.unusedSimpArgs false
set_option linter.unusedVariables false
namespace Go.Proofs.Ytknbcmildpmokaa
open Go.RowKit Go.Shelf


attribute [local go_sem] meth110 meth112
theorem rd_cells {W : World} {p : Nat} {r : Rdg} (h : W.heap[p]? = some (.cells (rdC r) 54)) : W.cell? ⟨p, 0, none⟩ = some (.int .i64 r.t.how) ∧ W.cell? ⟨p, 1, none⟩ = some (.int .i64 r.t.kinds) ∧ W.cell? ⟨p, 2, none⟩ = some (.int .i64 r.t.err.1) ∧ W.cell? ⟨p, 3, none⟩ = some (.int .i64 r.t.err.2) ∧ W.cell? ⟨p, 4, none⟩ = some (.int .i64 r.t.pass.1) ∧ W.cell? ⟨p, 5, none⟩ = some (.int .i64 r.t.pass.2) ∧ W.cell? ⟨p, 6, none⟩ = some (.int .i64 r.t.cost) ∧ W.cell? ⟨p, 7, none⟩ = some (.int .i64 r.got) :=
  ⟨cellsAt h 0, cellsAt h 1, cellsAt h 2, cellsAt h 3, cellsAt h 4, cellsAt h 5, cellsAt h 6, cellsAt h 7⟩
/-- A box and a list, laid one behind the other. -/
structure BlF (B : Nat) (w : World) (ao : Option Addr) (cap : Nat) (b : Bx) (has : List Int) (W : World) : Prop where
  b : BoxAt B W w.heap.size ao cap b
  h : W.heap[w.heap.size + 1]? = some (.cells (liC has) 77)
  w : Mod noB w W
theorem blF {B : Nat} {w : World} {ao : Option Addr} {cap : Nat} {b : Bx} {has : List Int} (hB : B ≤ w.heap.size) (hs : KindsAt B w ao b.ks) {W : World} (h : Mod noB (allocL w [.cells (bxC ao b.ks.length cap b) 26, .cells (liC has) 77]) W) : BlF B w ao cap b has W := by
  have hm := (allocL_mod noB [.cells (bxC ao b.ks.length cap b) 26, .cells (liC has) 77] w).trans h
  exact ⟨⟨at_allocL _ h 0 _ rfl, hs.low (Low.ofN hm hB)⟩, at_allocL _ h 1 _ rfl, hm⟩
/-- What any machine reads. -/
theorem reads_any (B : Nat) (ao : Option Addr) (cap : Nat) (b : Bx) (t : Tst) (has : List Int) (W : World) (hB : B ≤ W.heap.size) (hb : boxB b = true) (ht : testB b.ks.length t = true) (hs : KindsAt B W ao b.ks) (hl : has.length = b.ks.length) (hh : ∀ n ∈ has, -10000 ≤ n ∧ n ≤ 10000) :
    (t.how = 1 → Calls Try.prog 98 #[.agg #[.int .i64 t.kinds, .int .i64 t.err.1, .int .i64 t.err.2], bxV ao b.ks.length cap b, liV has] W fun e w2 => e = .returned (spV (readM b has t)) ∧ Mod noB W w2) ∧
    (¬ t.how = 1 → Calls Try.prog 101 #[.agg #[.int .i64 t.err.1, .int .i64 t.err.2], bxV ao b.ks.length cap b, liV has] W fun e w2 => e = .returned (spV (readM b has t)) ∧ Mod noB W w2) := by
  have htp := test_parts ht (boxB_ks hb).2.1
  refine ⟨fun h1 => ?_, fun h1 => ?_⟩
  · have := counter_any B ao cap b has t.kinds t.err W hB hb hs hl (htp.2.1 h1) htp.2.2.1 hh
    unfold readM
    rw [if_pos (by rw [h1]; rfl)]
    exact this
  · have := weigher_any B ao cap b has t.err W hB hb hs hl htp.2.2.1 hh
    unfold readM
    rw [if_neg (by simpa using h1)]
    exact this

set_option maxRecDepth 100000 in
set_option maxHeartbeats 4000000 in
theorem fits_any (B : Nat) (ao ro : Option Addr) (cap rcap : Nat) (b : Bx) (l : List Rdg) (has : List Int) (w : World) (hB : B ≤ w.heap.size) (hb : boxB b = true) (ht : ∀ r ∈ l, testB b.ks.length r.t = true) (hs : KindsAt B w ao b.ks) (hr : ReadsAt B w ro l) (hl : has.length = b.ks.length) (hh : ∀ n ∈ has, -10000 ≤ n ∧ n ≤ 10000) :
    Calls Try.prog 69 #[bxV ao b.ks.length cap b, .slice ro l.length rcap, liV has] w fun e w' => e = .returned (.bool (fitsB b l has)) ∧ Mod noB w w' := by
  have hsm := hr.small
  have HF : Hold (∀ W', Mod noB (allocL w [.cells (bxC ao b.ks.length cap b) 26, .cells (liC has) 77]) W' → BlF B w ao cap b has W' ∧ ReadsAt B W' ro l) := ⟨fun W' h => ⟨blF hB hs h, hr.low (Low.ofN ((allocL_mod noB _ w).trans h) hB)⟩⟩
  have HR : Hold (∀ W' t, Mod noB (allocL w [.cells (bxC ao b.ks.length cap b) 26, .cells (liC has) 77]) W' → testB b.ks.length t = true → _) := ⟨fun W' t h ht' => reads_any B ao cap b t has W' (Nat.le_trans hB (HF.out W' h).1.w.size) hb ht' (HF.out W' h).1.b.k hl hh⟩
  have HT := Hold.mk ht
  clear hB hb ht hs hr hl hh
  go_enter Try.func69, Try.ntmps69
  go_wp2
  go_loopw [11] (fun i wr => ∃ k : Nat, k ≤ l.length ∧ i = .int .i64 k ∧ (∀ j r, j < k → l[j]? = some r → meetsB (readM b has r.t) (r.got, r.got) = true) ∧ Mod noB (allocL w [.cells (bxC ao b.ks.length cap b) 26, .cells (liC has) 77]) wr) (fun i _ => l.length - (intOf i).toNat)
  case atStart => exact ⟨0, Nat.zero_le _, rfl, fun j _ hj => absurd hj (Nat.not_lt_zero _), Mod.refl _ _⟩
  case round =>
    obtain ⟨k, hk, rfl, h0, hmr⟩ := hrel
    have H0 := Hold.mk h0
    have HM := Hold.mk hmr
    clear h0 hmr
    by_cases hlt : k < l.length
    · obtain ⟨r, hz⟩ : ∃ r, l[k]? = some r := ⟨_, List.getElem?_eq_getElem hlt⟩
      obtain ⟨rb, roff, rfl, _, q0, q1, q2, q3, q4, q5, q6, q7⟩ := (HF.out _ HM.out).2.reading hz
      have HZ := Hold.mk hz
      obtain ⟨W4, hW4⟩ : ∃ W4, wr.alloc (.cells #[.int .i64 r.t.how, .int .i64 r.t.kinds, .int .i64 r.t.err.1, .int .i64 r.t.err.2, .int .i64 r.t.pass.1, .int .i64 r.t.pass.2, .int .i64 r.t.cost, .int .i64 r.got] 54) = W4 := ⟨_, rfl⟩
      have hm4 : Mod noB wr W4 := by rw [← hW4]; exact (Mod.refl _ _).alloc _
      have hd4 : W4.heap[wr.heap.size]? = some (.cells (rdC r) 54) := by rw [← hW4]; exact World.alloc_heap_new _ _
      have FIN : Hold (∀ W', Mod noB W4 W' → (BoxAt B W' w.heap.size ao cap b ∧ W'.heap[w.heap.size + 1]? = some (.cells (liC has) 77)) ∧ W'.heap[wr.heap.size]? = some (.cells (rdC r) 54) ∧ Mod noB wr W') := ⟨fun W' h => ⟨⟨(HF.out _ (HM.out.trans (hm4.trans h))).1.b, (HF.out _ (HM.out.trans (hm4.trans h))).1.h⟩, h.at hd4 id, hm4.trans h⟩⟩
      have HR4 := Hold.mk (fun W' (h : Mod noB W4 W') => HR.out W' r.t (HM.out.trans (hm4.trans h)) (HT.out r (List.mem_of_getElem? hz)))
      have HMA := Hold.mk (fun w => machineOf_any r.t w)
      have HJ := Hold.mk (fun w => just_any r.got w)
      obtain ⟨v, hv⟩ : ∃ v, meetsB (readM b has r.t) (r.got, r.got) = v := ⟨_, rfl⟩
      have HP : Hold (∀ w, Calls Try.prog 78 #[spV (readM b has r.t), spV (r.got, r.got)] w fun e w2 => e = .returned (.bool v) ∧ Mod noB w w2) := ⟨fun w => by rw [← hv]; exact meets_any _ _ w⟩
      have HV := Hold.mk hv
      clear hz hm4 hd4 hv
      obtain ⟨rm, hrm⟩ : ∃ rm, readM b has r.t = rm := ⟨_, rfl⟩
      rw [hrm] at HV HP
      simp only [hrm] at HR4
      have HRM := Hold.mk hrm
      clear hrm
      by_cases h1 : r.t.how = 1
      · have HRC : Hold (∀ W', Mod noB W4 W' → Calls Try.prog 98 #[.agg #[.int .i64 r.t.kinds, .int .i64 r.t.err.1, .int .i64 r.t.err.2], bxV ao b.ks.length cap b, liV has] W' fun e w2 => e = .returned (spV rm) ∧ Mod noB W' w2) := ⟨fun W' h => (HR4.out W' h).1 h1⟩
        rw [machV, if_pos h1] at HMA
        clear HR4 h1
        cases v with
        | true =>
          go_wp2
          (try rw [hW4])
          refine region_quietP (by kernel_rfl) (by kernel_rfl) (fun W' => Mod noB W4 W') (Mod.refl _ _).drew ?_
          repeat
            (first
              | go_big_quiet_skip
              | (go_big_quiet_want
                 go_simp
                 first
                   | go_big_quiet_on
                   | (apply Exists.intro
                      refine ⟨fun W' hC => ?_, ?_⟩
                      · obtain ⟨⟨⟨hb1, hb2⟩, hh1⟩, hr1, _⟩ := FIN.out W' hC; obtain ⟨b0, b1, b2, b3, b4⟩ := BoxAt.cells (B := B) ⟨hb1, hb2⟩; obtain ⟨t0, t1, t2, t3, t4, t5, t6, t7⟩ := rd_cells hr1; obtain ⟨l0, l1, l2, l3⟩ := li_cells hh1; clear hb1 hb2 hr1 hh1
                        first
                          | (go_at_call 46; exact (HMA.out _).mono fun e w2 hh => ⟨hh.1, hC.trans hh.2⟩)
                          | (go_at_call 98; exact (HRC.out _ hC).mono fun e w2 hh => ⟨hh.1, hC.trans hh.2⟩)
                          | (go_at_call 71; exact (HJ.out _).mono fun e w2 hh => ⟨hh.1, hC.trans hh.2⟩)
                          | (go_at_call 78; exact (HP.out _).mono fun e w2 hh => ⟨hh.1, hC.trans hh.2⟩)
                          | with_reducible rfl
                          | (go_simp; first | rfl | exact ⟨rfl, rfl⟩)
                      go_big_quiet_on)
                   | (refine ⟨⟨_, fun _ _ => rfl⟩, ?_⟩; go_big_quiet_on)))
          refine wpQuiet_nil ?_
          intro Wq hq
          have HQ := Hold.mk (FIN.out _ hq).2.2
          clear hq
          go_wp2
          go_roundw
          case rel => exact ⟨k + 1, by omega, by go_num, fun j r hj hy => by
            rcases Nat.lt_succ_iff_lt_or_eq.1 hj with h | rfl
            · exact H0.out j r h hy
            · rw [HZ.out] at hy; cases hy; rw [HRM.out]; exact HV.out, HM.out.trans HQ.out⟩
          case measure => simp [intOf]; omega
        | false =>
          go_wp2
          (try rw [hW4])
          refine region_quietP (by kernel_rfl) (by kernel_rfl) (fun W' => Mod noB W4 W') (Mod.refl _ _).drew ?_
          repeat
            (first
              | go_big_quiet_skip
              | (go_big_quiet_want
                 go_simp
                 first
                   | go_big_quiet_on
                   | (apply Exists.intro
                      refine ⟨fun W' hC => ?_, ?_⟩
                      · obtain ⟨⟨⟨hb1, hb2⟩, hh1⟩, hr1, _⟩ := FIN.out W' hC; obtain ⟨b0, b1, b2, b3, b4⟩ := BoxAt.cells (B := B) ⟨hb1, hb2⟩; obtain ⟨t0, t1, t2, t3, t4, t5, t6, t7⟩ := rd_cells hr1; obtain ⟨l0, l1, l2, l3⟩ := li_cells hh1; clear hb1 hb2 hr1 hh1
                        first
                          | (go_at_call 46; exact (HMA.out _).mono fun e w2 hh => ⟨hh.1, hC.trans hh.2⟩)
                          | (go_at_call 98; exact (HRC.out _ hC).mono fun e w2 hh => ⟨hh.1, hC.trans hh.2⟩)
                          | (go_at_call 71; exact (HJ.out _).mono fun e w2 hh => ⟨hh.1, hC.trans hh.2⟩)
                          | (go_at_call 78; exact (HP.out _).mono fun e w2 hh => ⟨hh.1, hC.trans hh.2⟩)
                          | with_reducible rfl
                          | (go_simp; first | rfl | exact ⟨rfl, rfl⟩)
                      go_big_quiet_on)
                   | (refine ⟨⟨_, fun _ _ => rfl⟩, ?_⟩; go_big_quiet_on)))
          refine wpQuiet_nil ?_
          intro Wq hq
          have HQ := Hold.mk (FIN.out _ hq).2.2
          clear hq
          go_wp2
          go_ret
          have HW := (HF.out _ (HM.out.trans HQ.out)).1.w
          have he : fitsB b l has = false := by
            rw [fitsB, List.all_eq_false]
            exact ⟨r, List.mem_of_getElem? HZ.out, by rw [HRM.out, HV.out]; simp⟩
          exact ⟨by rw [he]; rfl, HW⟩
      · have HRC : Hold (∀ W', Mod noB W4 W' → Calls Try.prog 101 #[.agg #[.int .i64 r.t.err.1, .int .i64 r.t.err.2], bxV ao b.ks.length cap b, liV has] W' fun e w2 => e = .returned (spV rm) ∧ Mod noB W' w2) := ⟨fun W' h => (HR4.out W' h).2 h1⟩
        rw [machV, if_neg h1] at HMA
        clear HR4 h1
        cases v with
        | true =>
          go_wp2
          (try rw [hW4])
          refine region_quietP (by kernel_rfl) (by kernel_rfl) (fun W' => Mod noB W4 W') (Mod.refl _ _).drew ?_
          repeat
            (first
              | go_big_quiet_skip
              | (go_big_quiet_want
                 go_simp
                 first
                   | go_big_quiet_on
                   | (apply Exists.intro
                      refine ⟨fun W' hC => ?_, ?_⟩
                      · obtain ⟨⟨⟨hb1, hb2⟩, hh1⟩, hr1, _⟩ := FIN.out W' hC; obtain ⟨b0, b1, b2, b3, b4⟩ := BoxAt.cells (B := B) ⟨hb1, hb2⟩; obtain ⟨t0, t1, t2, t3, t4, t5, t6, t7⟩ := rd_cells hr1; obtain ⟨l0, l1, l2, l3⟩ := li_cells hh1; clear hb1 hb2 hr1 hh1
                        first
                          | (go_at_call 46; exact (HMA.out _).mono fun e w2 hh => ⟨hh.1, hC.trans hh.2⟩)
                          | (go_at_call 101; exact (HRC.out _ hC).mono fun e w2 hh => ⟨hh.1, hC.trans hh.2⟩)
                          | (go_at_call 71; exact (HJ.out _).mono fun e w2 hh => ⟨hh.1, hC.trans hh.2⟩)
                          | (go_at_call 78; exact (HP.out _).mono fun e w2 hh => ⟨hh.1, hC.trans hh.2⟩)
                          | with_reducible rfl
                          | (go_simp; first | rfl | exact ⟨rfl, rfl⟩)
                      go_big_quiet_on)
                   | (refine ⟨⟨_, fun _ _ => rfl⟩, ?_⟩; go_big_quiet_on)))
          refine wpQuiet_nil ?_
          intro Wq hq
          have HQ := Hold.mk (FIN.out _ hq).2.2
          clear hq
          go_wp2
          go_roundw
          case rel => exact ⟨k + 1, by omega, by go_num, fun j r hj hy => by
            rcases Nat.lt_succ_iff_lt_or_eq.1 hj with h | rfl
            · exact H0.out j r h hy
            · rw [HZ.out] at hy; cases hy; rw [HRM.out]; exact HV.out, HM.out.trans HQ.out⟩
          case measure => simp [intOf]; omega
        | false =>
          go_wp2
          (try rw [hW4])
          refine region_quietP (by kernel_rfl) (by kernel_rfl) (fun W' => Mod noB W4 W') (Mod.refl _ _).drew ?_
          repeat
            (first
              | go_big_quiet_skip
              | (go_big_quiet_want
                 go_simp
                 first
                   | go_big_quiet_on
                   | (apply Exists.intro
                      refine ⟨fun W' hC => ?_, ?_⟩
                      · obtain ⟨⟨⟨hb1, hb2⟩, hh1⟩, hr1, _⟩ := FIN.out W' hC; obtain ⟨b0, b1, b2, b3, b4⟩ := BoxAt.cells (B := B) ⟨hb1, hb2⟩; obtain ⟨t0, t1, t2, t3, t4, t5, t6, t7⟩ := rd_cells hr1; obtain ⟨l0, l1, l2, l3⟩ := li_cells hh1; clear hb1 hb2 hr1 hh1
                        first
                          | (go_at_call 46; exact (HMA.out _).mono fun e w2 hh => ⟨hh.1, hC.trans hh.2⟩)
                          | (go_at_call 101; exact (HRC.out _ hC).mono fun e w2 hh => ⟨hh.1, hC.trans hh.2⟩)
                          | (go_at_call 71; exact (HJ.out _).mono fun e w2 hh => ⟨hh.1, hC.trans hh.2⟩)
                          | (go_at_call 78; exact (HP.out _).mono fun e w2 hh => ⟨hh.1, hC.trans hh.2⟩)
                          | with_reducible rfl
                          | (go_simp; first | rfl | exact ⟨rfl, rfl⟩)
                      go_big_quiet_on)
                   | (refine ⟨⟨_, fun _ _ => rfl⟩, ?_⟩; go_big_quiet_on)))
          refine wpQuiet_nil ?_
          intro Wq hq
          have HQ := Hold.mk (FIN.out _ hq).2.2
          clear hq
          go_wp2
          go_ret
          have HW := (HF.out _ (HM.out.trans HQ.out)).1.w
          have he : fitsB b l has = false := by
            rw [fitsB, List.all_eq_false]
            exact ⟨r, List.mem_of_getElem? HZ.out, by rw [HRM.out, HV.out]; simp⟩
          exact ⟨by rw [he]; rfl, HW⟩
    · obtain rfl : k = l.length := by omega
      have he : Hold (fitsB b l has = true) := ⟨by
        rw [fitsB, List.all_eq_true]
        intro r hr
        obtain ⟨j, hj⟩ := List.mem_iff_getElem?.1 hr
        exact H0.out j r (List.getElem?_eq_some_iff.1 hj).1 hj⟩
      have HW := Hold.mk ((HF.out _ HM.out).1.w)
      go_wp2
      go_ret
      exact ⟨by rw [he.out]; rfl, HW.out⟩

end Go.Proofs.Ytknbcmildpmokaa

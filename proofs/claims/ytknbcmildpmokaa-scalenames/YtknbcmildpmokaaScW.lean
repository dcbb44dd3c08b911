/- Reads. -/
import Derived.Test.YtknbcmildpmokaaScV
import Derived.Laws.CopyOwn
import Derived.Handy
set_option linter.unusedSimpArgs false
set_option linter.unusedVariables false
namespace Go.Proofs.Ytknbcmildpmokaa
open Go.RowKit Go.Shelf


attribute [local go_sem] meth110 meth112
theorem info3u : (Try.prog.info? 3).map (·.size) = some 1 := by kernel_rfl
theorem info24u : (Try.prog.info? 24).map (·.size) = some 2 := by kernel_rfl
/-- The blocks of Reads. -/
structure ReF (B : Nat) (w : World) (ao : Option Addr) (cap : Nat) (b : Bx) (t : Tst) (ho : Option Addr) (has : List Int) (W : World) : Prop where
  b : BoxAt B W w.heap.size ao cap b
  t : W.heap[w.heap.size + 1]? = some (.cells (tsC t) 29)
  r : W.heap[w.heap.size + 1 + 1]? = some (.cells (spC (0, 0)) 24)
  h : IntsAt W ho has
  w : Mod noB w W
  z : B ≤ W.heap.size
theorem reF {B : Nat} {w : World} {ao : Option Addr} {cap : Nat} {b : Bx} {t : Tst} {ho : Option Addr} {has : List Int} (hB : B ≤ w.heap.size) (hs : KindsAt B w ao b.ks) (hi : IntsAt w ho has) : Kept (allocL w [.cells (bxC ao b.ks.length cap b) 26, .cells (tsC t) 29, .cells (spC (0, 0)) 24]) (fun W => ReF B w ao cap b t ho has W) := fun W h => by
  have hm := (allocL_mod noB [.cells (bxC ao b.ks.length cap b) 26, .cells (tsC t) 29, .cells (spC (0, 0)) 24] w).trans h
  exact ⟨⟨at_allocL _ h 0 _ rfl, hs.low (Low.ofN hm hB)⟩, at_allocL _ h 1 _ rfl, at_allocL _ h 2 _ rfl, hi.mod hm, hm, Nat.le_trans hB hm.size⟩
theorem results14 {tmps : Array Value} {W : World} {b6 : Nat} {x y er : Int} (h6 : tmps.getD 6 undef = .pointer (some ⟨b6, 0, none⟩)) (h7 : tmps.getD 7 undef = .int .i64 er)
    (k6 : W.heap[b6]? = some (.cells #[.int .i64 x, .int .i64 y] 24)) : (results Try.f14 tmps).run Try.prog W = .ok (.tuple #[.agg #[.int .i64 x, .int .i64 y], .int .i64 er]) W := by
  have c0 := cellsAt k6 0
  have c1 := cellsAt k6 1
  have h6' : tmps[6]?.getD undef = .pointer (some ⟨b6, 0, none⟩) := by simpa using h6
  have h7' : tmps[7]?.getD undef = .int .i64 er := by simpa using h7
  simp [results, Try.results14, go_sem, *]
theorem canB_len {b : Bx} {has : List Int} (h : canB b has = true) : has.length = b.ks.length := by
  simp only [canB, Bool.and_eq_true, decide_eq_true_eq] at h
  exact h.1
theorem canB_bd {b : Bx} (hb : boxB b = true) {has : List Int} (h : canB b has = true) : ∀ n ∈ has, -10000 ≤ n ∧ n ≤ 10000 := by
  have hl := canB_len h
  simp only [canB, fitK, Bool.and_eq_true, decide_eq_true_eq, List.all_eq_true] at h
  intro n hn
  obtain ⟨j, hj⟩ := List.mem_iff_getElem?.1 hn
  have hjl := (List.getElem?_eq_some_iff.1 hj).1
  have hk : b.ks[j]? = some b.ks[j] := List.getElem?_eq_getElem (by omega)
  have := h.2.1 (b.ks[j], n) (List.mem_iff_getElem?.2 ⟨j, by rw [List.getElem?_zip_eq_some]; exact ⟨hk, hj⟩⟩)
  simp only [fromB, Bool.and_eq_true, decide_eq_true_eq] at this
  have hks := boxB_ks hb
  have := hks.2.2.1 _ (List.mem_of_getElem? hk)
  omega
/-- What copy leaves of four zeros. -/
theorem copy_li {has : List Int} (h : has.length ≤ 4) : (splice [.int .i64 0, .int .i64 0, .int .i64 0, .int .i64 0] 0 (has.map (Value.int .i64))).toArray = liC has := by
  match has, h with
  | [], _ => rfl
  | [_], _ => rfl
  | [_, _], _ => rfl
  | [_, _, _], _ => rfl
  | [_, _, _, _], _ => rfl
  | _ :: _ :: _ :: _ :: _ :: _, h => simp at h

theorem two_set {W : World} {b : Nat} {u v x y : Value} {T : TypeId} (h : W.heap[b]? = some (.cells #[u, v] T)) : ((W.setCell ⟨b, 0, none⟩ x).setCell ⟨b, 1, none⟩ y).heap[b]? = some (.cells #[x, y] T) := by
  rw [setCell_at (setCell_at h 0 x) 1 y]; rfl
theorem copy_run {W : World} {g : Nat} {ho : Option Addr} {has : List Int} (hcap : Nat) (hg : W.heap[g]? = some (.cells #[.int .i64 0, .int .i64 0, .int .i64 0, .int .i64 0] 77)) (hi : IntsAt W ho has) (hl : has.length ≤ 4) :
    ∃ W', (∀ ty, (Builtin.copy_ #[27, 27] ty #[.slice (some ⟨g, 0, none⟩) 4 4, .slice ho has.length hcap]).run Try.prog W = .ok (.int .i64 has.length) W') ∧ W'.heap[g]? = some (.cells (liC has) 77) ∧ Below g W W' := by
  by_cases h0 : has.length = 0
  · obtain rfl : has = [] := List.eq_nil_of_length_eq_zero h0
    exact ⟨W, fun ty => run_copy_none (P := Try.prog) W 27 27 ty 3 (some ⟨g, 0, none⟩) ho 4 4 0 hcap Try.underlying27 info3u rfl, hg, Below.refl _ _⟩
  · obtain ⟨b, off, e, hb, hc⟩ := hi.lies (by intro e; subst e; simp at h0)
    subst e
    refine ⟨W.setRow g ((([.int .i64 0, .int .i64 0, .int .i64 0, .int .i64 0] : List Value).take 0 ++ (has.map (Value.int .i64) ++ ([.int .i64 0, .int .i64 0, .int .i64 0, .int .i64 0] : List Value).drop (0 + (has.map (Value.int .i64)).length))).toArray), fun ty => ?_, ?_, below_setRow (Below.refl _ _) (Nat.le_refl _) _⟩
    · rw [run_copy_row (P := Try.prog) W 27 27 ty 3 g 0 4 4 ⟨b, off, none⟩ has.length hcap #[.int .i64 0, .int .i64 0, .int .i64 0, .int .i64 0] 77 (has.map (Value.int .i64)) Try.underlying27 info3u hg (by rw [List.length_map]; exact (Nat.min_eq_left hl).symm) (fun j v hj => by
        rw [List.getElem?_map] at hj
        obtain ⟨z, hz, rfl⟩ := Option.map_eq_some_iff.1 hj
        have := hc j (List.getElem?_eq_some_iff.1 hz).1
        rw [hz, Option.getD_some] at this
        have ea : Addr.add ⟨b, off, none⟩ j = ⟨b, off + j, none⟩ := by unfold Addr.add; simp
        rw [ea, ← this]) (by simpa using hl) (ints_one has)]
      simp [goInt]
    · rw [setRow_heap W g _ _ 77 _ hg]
      have := copy_li hl
      unfold splice at this
      rw [this]

theorem wpListIn_assign {F : Fence} {n : Nat} {P : Program} {ops : Array Oper} {Q : Exit → Act → World → Prop} {a : Act} {w : World} {rest : List Oper} {o : Oper} (hg : o.guard = none) (x : Operand) (hop : o.op = .assign x)
    (hK : wpListIn F n P ops Q rest (a.put o.dst (a.eval x)) w) : wpListIn F n P ops Q (o :: rest) a w := by
  refine wpListIn_plain hg fun K' hK' => ?_
  unfold Oper.wpIn
  refine ⟨by simp [Oper.about, hop], ?_⟩
  rw [Oper.semAt_eq _ _ _ (by rw [hop]; intro c hc'; cases hc')]
  unfold execOp
  simp only [hop, Sem.run_bind, Sem.run_pure, Result.andThen_ok]
  exact hK' _ _ hK

set_option maxRecDepth 100000 in
set_option maxHeartbeats 8000000 in
theorem reads14_any (B : Nat) (ao ho : Option Addr) (cap hcap : Nat) (b : Bx) (has : List Int) (t : Tst) (w : World) (hB : B ≤ w.heap.size) (hs : KindsAt B w ao b.ks) (hi : IntsAt w ho has) :
    Calls Try.prog 14 #[bxV ao b.ks.length cap b, .slice ho has.length hcap, tsV t] w fun e w' => e = .returned (.tuple #[spV (readsE b has t).1, .int .i64 (readsE b has t).2]) ∧ Mod noB w w' := by
  have hsm := hi.small
  have hksm := hs.small
  have HF : Hold (Kept (allocL w [.cells (bxC ao b.ks.length cap b) 26, .cells (tsC t) 29, .cells (spC (0, 0)) 24]) (fun W => ReF B w ao cap b t ho has W)) := ⟨reF hB hs hi⟩
  have H43 := Hold.mk (fun (W : World) (h : ReF B w ao cap b t ho has W) => isBox_any B ao cap b W h.z h.b.k)
  obtain ⟨b0, b1, b2, b3, b4⟩ := HF.out.now.b.cells
  obtain ⟨t0, t1, t2, t3, t4, t5, t6⟩ := ts_cells HF.out.now.t
  have e3 : (((w.alloc (.cells (bxC ao b.ks.length cap b) 26)).alloc (.cells (tsC t) 29)).alloc (.cells (spC (0, 0)) 24)) = allocL w [.cells (bxC ao b.ks.length cap b) 26, .cells (tsC t) 29, .cells (spC (0, 0)) 24] := rfl
  cases hb : boxB b with
  | false =>
    simp only [hb] at H43
    have he : Hold (readsE b has t = ((0, 0), 1)) := ⟨by simp [readsE, hb]⟩
    clear hb hs hi
    go_enter Try.func14, Try.ntmps14
    go_wp2_with (go_at_call 43; (try rw [e3]); refine (H43.out _ HF.out.now).mono ?_; rintro e w1 ⟨rfl, hM⟩; have HF1 := Hold.mk (HF.out.later hM); obtain ⟨r0, r1⟩ := sp_cells HF1.out.now.r; have f0 := frozen_at HF1.out.now.r 0; have f1 := frozen_at HF1.out.now.r 1; clear hM)
    refine bodyPost_ret (v := .tuple #[spV ((0, 0)), .int .i64 1]) (results14 rfl rfl (two_set HF1.out.now.r)) rfl ⟨by rw [he.out], Mod.setNew (Mod.setNew HF1.out.now.w (by omega) _) (by omega) _⟩
  | true =>
    simp only [hb] at H43
    have hk4 := (boxB_ks hb).2.1
    have H44 := Hold.mk (fun (W : World) => isTest_any b.ks.length ao cap b t W hk4)
    cases ht : testB b.ks.length t with
    | false =>
      simp only [ht] at H44
      have he : Hold (readsE b has t = ((0, 0), 1)) := ⟨by simp [readsE, ht]⟩
      clear hb hs hi ht
      go_enter Try.func14, Try.ntmps14
      go_wp2_with (first
        | (go_at_call 43; (try rw [e3]); refine (H43.out _ HF.out.now).mono ?_; rintro e w1 ⟨rfl, hM⟩; have HF1 := Hold.mk (HF.out.later hM); clear b0 b1 b2 b3 b4 t0 t1 t2 t3 t4 t5 t6; obtain ⟨b0, b1, b2, b3, b4⟩ := HF1.out.now.b.cells; obtain ⟨t0, t1, t2, t3, t4, t5, t6⟩ := ts_cells HF1.out.now.t; clear hM)
        | (go_at_call 44; refine (H44.out _).mono ?_; rintro e w2 ⟨rfl, hM⟩; have HF2 := Hold.mk (HF1.out.later hM); obtain ⟨r0, r1⟩ := sp_cells HF2.out.now.r; have f0 := frozen_at HF2.out.now.r 0; have f1 := frozen_at HF2.out.now.r 1; clear hM))
      refine bodyPost_ret (v := .tuple #[spV ((0, 0)), .int .i64 1]) (results14 rfl rfl (two_set HF2.out.now.r)) rfl ⟨by rw [he.out], Mod.setNew (Mod.setNew HF2.out.now.w (by omega) _) (by omega) _⟩
    | true =>
      simp only [ht] at H44
      have H45 := Hold.mk (fun (W : World) (h : ReF B w ao cap b t ho has W) => canHave_any B ao ho cap hcap b has W h.z hb h.b.k h.h)
      cases hc : canB b has with
      | false =>
        simp only [hc] at H45
        have he : Hold (readsE b has t = ((0, 0), 2)) := ⟨by simp [readsE, hb, ht, hc]⟩
        clear hb hs hi ht hc
        go_enter Try.func14, Try.ntmps14
        go_wp2_with (first
          | (go_at_call 43; (try rw [e3]); refine (H43.out _ HF.out.now).mono ?_; rintro e w1 ⟨rfl, hM⟩; have HF1 := Hold.mk (HF.out.later hM); clear b0 b1 b2 b3 b4 t0 t1 t2 t3 t4 t5 t6; obtain ⟨b0, b1, b2, b3, b4⟩ := HF1.out.now.b.cells; obtain ⟨t0, t1, t2, t3, t4, t5, t6⟩ := ts_cells HF1.out.now.t; clear hM)
          | (go_at_call 44; refine (H44.out _).mono ?_; rintro e w2 ⟨rfl, hM⟩; have HF2 := Hold.mk (HF1.out.later hM); clear b0 b1 b2 b3 b4; obtain ⟨b0, b1, b2, b3, b4⟩ := HF2.out.now.b.cells; clear hM)
          | (go_at_call 45; refine (H45.out _ HF2.out.now).mono ?_; rintro e w3 ⟨rfl, hM⟩; have HF3 := Hold.mk (HF2.out.later hM); obtain ⟨r0, r1⟩ := sp_cells HF3.out.now.r; have f0 := frozen_at HF3.out.now.r 0; have f1 := frozen_at HF3.out.now.r 1; clear hM))
        refine bodyPost_ret (v := .tuple #[spV ((0, 0)), .int .i64 2]) (results14 rfl rfl (two_set HF3.out.now.r)) rfl ⟨by rw [he.out], Mod.setNew (Mod.setNew HF3.out.now.w (by omega) _) (by omega) _⟩
      | true =>
        simp only [hc] at H45
        have hl := canB_len hc
        have hl4 : has.length ≤ 4 := by omega
        have hbd := canB_bd hb hc
        have he : Hold (readsE b has t = (readM b has t, 0)) := ⟨by simp [readsE, hb, ht, hc]⟩
        have HRD := Hold.mk (fun (W : World) (h : ReF B w ao cap b t ho has W) => reads_any B ao cap b t has W h.z hb ht h.b.k hl hbd)
        have HMA := Hold.mk (fun w => machineOf_any t w)
        have HCP := Hold.mk (fun (W : World) (h : ReF B w ao cap b t ho has W) => copy_run hcap (World.alloc_heap_new W (.cells #[.int .i64 0, .int .i64 0, .int .i64 0, .int .i64 0] 77)) (h.h.mod (Mod.alloc (Mod.refl noB W) (.cells #[.int .i64 0, .int .i64 0, .int .i64 0, .int .i64 0] 77))) hl4)
        clear hb hs hi ht hc hbd hl
        generalize readM b has t = rm at *
        go_enter Try.func14, Try.ntmps14
        go_wp2_with (first
          | (go_at_call 43; (try rw [e3]); refine (H43.out _ HF.out.now).mono ?_; rintro e w1 ⟨rfl, hM⟩; have HF1 := Hold.mk (HF.out.later hM); clear b0 b1 b2 b3 b4 t0 t1 t2 t3 t4 t5 t6; obtain ⟨b0, b1, b2, b3, b4⟩ := HF1.out.now.b.cells; obtain ⟨t0, t1, t2, t3, t4, t5, t6⟩ := ts_cells HF1.out.now.t; clear hM)
          | (go_at_call 44; refine (H44.out _).mono ?_; rintro e w2 ⟨rfl, hM⟩; have HF2 := Hold.mk (HF1.out.later hM); clear b0 b1 b2 b3 b4; obtain ⟨b0, b1, b2, b3, b4⟩ := HF2.out.now.b.cells; clear hM)
          | (go_at_call 45; refine (H45.out _ HF2.out.now).mono ?_; rintro e w3 ⟨rfl, hM⟩; have HF3 := Hold.mk (HF2.out.later hM); clear hM; obtain ⟨W4, hrun, k4, hbel⟩ := HCP.out _ HF3.out.now; have K4 := Hold.mk k4; have M4 := Hold.mk (Mod.of_below (((Below.refl w3.heap.size w3).alloc (Nat.le_refl _) (.cells #[.int .i64 0, .int .i64 0, .int .i64 0, .int .i64 0] 77)).trans hbel) rfl); have HF4 := Hold.mk (HF3.out.later M4.out); clear k4 hbel b0 b1 b2 b3 b4 t0 t1 t2 t3 t4 t5 t6; obtain ⟨b0, b1, b2, b3, b4⟩ := HF4.out.now.b.cells; obtain ⟨t0, t1, t2, t3, t4, t5, t6⟩ := ts_cells HF4.out.now.t))
        by_cases h1 : t.how = 1
        · have HR := Hold.mk (fun (W : World) (h : Mod noB W4 W) => (HRD.out W (HF4.out.later h).now).1 h1)
          rw [machV, if_pos h1] at HMA
          clear HRD H43 H44 H45 HCP h1 hrun
          refine region_tailP 5 ⟨by decide, by kernel_rfl, by kernel_rfl, by kernel_rfl, by kernel_rfl, by kernel_rfl⟩ (by kernel_rfl) (fun W' => Mod noB W4 W') (Mod.refl _ _).drew ?_
          simp only [strikeL, List.take_succ_cons, List.take_zero, List.drop_succ_cons, List.drop_zero, List.map_cons, List.map_nil, List.cons_append, List.nil_append, bareO]
          repeat
            (first
              | go_big_quiet_skip
              | (go_big_quiet_want
                 go_simp
                 first
                   | go_big_quiet_on
                   | (apply Exists.intro
                      refine ⟨fun W' hC => ?_, ?_⟩
                      · have q4 := HF4.out.later hC; obtain ⟨b0, b1, b2, b3, b4⟩ := q4.now.b.cells; obtain ⟨t0, t1, t2, t3, t4, t5, t6⟩ := ts_cells q4.now.t; obtain ⟨l0, l1, l2, l3⟩ := li_cells (hC.at K4.out id); clear q4
                        first
                          | (go_at_call 46; exact (HMA.out _).mono fun e w2 hh => ⟨hh.1, hC.trans hh.2⟩)
                          | (go_at_call 98; exact (HR.out _ hC).mono fun e w2 hh => ⟨hh.1, hC.trans hh.2⟩)
                          | with_reducible rfl
                          | (go_simp; first | rfl | exact ⟨rfl, rfl⟩)
                      go_big_quiet_on)
                   | (refine ⟨⟨_, fun _ _ => rfl⟩, ?_⟩; go_big_quiet_on)))
          refine wpQuiet_nil ?_
          intro Wq hq
          have HQ := Hold.mk (HF4.out.later hq).now
          clear hq
          refine wpListIn_storeRow rfl 24 (.tmp 6) (.tmp 31) rfl (w.heap.size + 1 + 1) rfl (spC rm) rfl 24 _ HQ.out.r info24u rfl (sp_one _) ?_
          refine wpListIn_assign rfl (.const (.int .i64 0)) rfl ?_
          refine wpListIn_nil ?_
          go_wp2
          refine bodyPost_ret (v := .tuple #[spV rm, .int .i64 0]) (results14 rfl rfl (World.putObj_heap_same (at_ltS HQ.out.r))) rfl ⟨by rw [he.out], HQ.out.w.putObj (fun h => by omega) _⟩
        · have HR := Hold.mk (fun (W : World) (h : Mod noB W4 W) => (HRD.out W (HF4.out.later h).now).2 h1)
          rw [machV, if_neg h1] at HMA
          clear HRD H43 H44 H45 HCP h1 hrun
          refine region_tailP 5 ⟨by decide, by kernel_rfl, by kernel_rfl, by kernel_rfl, by kernel_rfl, by kernel_rfl⟩ (by kernel_rfl) (fun W' => Mod noB W4 W') (Mod.refl _ _).drew ?_
          simp only [strikeL, List.take_succ_cons, List.take_zero, List.drop_succ_cons, List.drop_zero, List.map_cons, List.map_nil, List.cons_append, List.nil_append, bareO]
          repeat
            (first
              | go_big_quiet_skip
              | (go_big_quiet_want
                 go_simp
                 first
                   | go_big_quiet_on
                   | (apply Exists.intro
                      refine ⟨fun W' hC => ?_, ?_⟩
                      · have q4 := HF4.out.later hC; obtain ⟨b0, b1, b2, b3, b4⟩ := q4.now.b.cells; obtain ⟨t0, t1, t2, t3, t4, t5, t6⟩ := ts_cells q4.now.t; obtain ⟨l0, l1, l2, l3⟩ := li_cells (hC.at K4.out id); clear q4
                        first
                          | (go_at_call 46; exact (HMA.out _).mono fun e w2 hh => ⟨hh.1, hC.trans hh.2⟩)
                          | (go_at_call 101; exact (HR.out _ hC).mono fun e w2 hh => ⟨hh.1, hC.trans hh.2⟩)
                          | with_reducible rfl
                          | (go_simp; first | rfl | exact ⟨rfl, rfl⟩)
                      go_big_quiet_on)
                   | (refine ⟨⟨_, fun _ _ => rfl⟩, ?_⟩; go_big_quiet_on)))
          refine wpQuiet_nil ?_
          intro Wq hq
          have HQ := Hold.mk (HF4.out.later hq).now
          clear hq
          refine wpListIn_storeRow rfl 24 (.tmp 6) (.tmp 31) rfl (w.heap.size + 1 + 1) rfl (spC rm) rfl 24 _ HQ.out.r info24u rfl (sp_one _) ?_
          refine wpListIn_assign rfl (.const (.int .i64 0)) rfl ?_
          refine wpListIn_nil ?_
          go_wp2
          refine bodyPost_ret (v := .tuple #[spV rm, .int .i64 0]) (results14 rfl rfl (World.putObj_heap_same (at_ltS HQ.out.r))) rfl ⟨by rw [he.out], HQ.out.w.putObj (fun h => by omega) _⟩

end Go.Proofs.Ytknbcmildpmokaa

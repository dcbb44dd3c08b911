/- couldPass, fits: what could pass a test, or fits readings. -/
import Derived.Test.YtknbcmildpmokaaScJ
set_option linter.unusedSimpArgs false
set_option linter.unusedVariables false
namespace Go.Proofs.Ytknbcmildpmokaa
open Go.RowKit Go.Shelf


theorem test_parts {n : Nat} {t : Tst} (h : testB n t = true) (hn : n ≤ 4) : (t.how = 0 ∨ t.how = 1) ∧ (t.how = 1 → 0 ≤ t.kinds ∧ t.kinds < 1000000) ∧ Small 1000000 t.err ∧ t.pass.1 ≤ t.pass.2 ∧ (0 ≤ t.cost ∧ t.cost ≤ 10000) := by
  simp only [testB, howB, withinB, fromB, Bool.and_eq_true, Bool.or_eq_true, decide_eq_true_eq, beq_iff_eq] at h
  obtain ⟨h1, h2, h3, h4⟩ := h
  have hp : (2 : Int) ^ n ≤ 16 := by rcases (by omega : n = 0 ∨ n = 1 ∨ n = 2 ∨ n = 3 ∨ n = 4) with rfl | rfl | rfl | rfl | rfl <;> simp
  refine ⟨?_, fun h => ?_, ⟨⟨by omega, by omega⟩, by omega, by omega⟩, h3, h4⟩
  · rcases h1 with h1 | h1
    · exact .inl h1
    · exact .inr h1.1
  · rcases h1 with h1 | h1
    · omega
    · omega
theorem meth110 (v : Value) (w : World) : (method 248 110 v "jigworks/scale.reads").run Try.prog w = .ok (98, v) w := by kernel_rfl
theorem meth112 (v : Value) (w : World) : (method 248 112 v "jigworks/scale.reads").run Try.prog w = .ok (101, v) w := by kernel_rfl
attribute [local go_sem] meth110 meth112
/-- The blocks of a box, a test and a list, laid one behind the other. -/
structure BtF (B : Nat) (w : World) (ao : Option Addr) (cap : Nat) (b : Bx) (t : Tst) (has : List Int) (W : World) : Prop where
  b : BoxAt B W w.heap.size ao cap b
  t : W.heap[w.heap.size + 1]? = some (.cells (tsC t) 29)
  h : W.heap[w.heap.size + 1 + 1]? = some (.cells (liC has) 77)
  w : Mod noB w W
theorem btF {B : Nat} {w : World} {ao : Option Addr} {cap : Nat} {b : Bx} {t : Tst} {has : List Int} (hB : B ≤ w.heap.size) (hs : KindsAt B w ao b.ks) {W : World} (h : Mod noB (allocL w [.cells (bxC ao b.ks.length cap b) 26, .cells (tsC t) 29, .cells (liC has) 77]) W) : BtF B w ao cap b t has W := by
  have hm := (allocL_mod noB [.cells (bxC ao b.ks.length cap b) 26, .cells (tsC t) 29, .cells (liC has) 77] w).trans h
  exact ⟨⟨at_allocL _ h 0 _ rfl, hs.low (Low.ofN hm hB)⟩, at_allocL _ h 1 _ rfl, at_allocL _ h 2 _ rfl, hm⟩
theorem ts_cells {W : World} {p : Nat} {t : Tst} (h : W.heap[p]? = some (.cells (tsC t) 29)) : W.cell? ⟨p, 0, none⟩ = some (.int .i64 t.how) ∧ W.cell? ⟨p, 1, none⟩ = some (.int .i64 t.kinds) ∧ W.cell? ⟨p, 2, none⟩ = some (.int .i64 t.err.1) ∧ W.cell? ⟨p, 3, none⟩ = some (.int .i64 t.err.2) ∧ W.cell? ⟨p, 4, none⟩ = some (.int .i64 t.pass.1) ∧ W.cell? ⟨p, 5, none⟩ = some (.int .i64 t.pass.2) ∧ W.cell? ⟨p, 6, none⟩ = some (.int .i64 t.cost) :=
  ⟨cellsAt h 0, cellsAt h 1, cellsAt h 2, cellsAt h 3, cellsAt h 4, cellsAt h 5, cellsAt h 6⟩

set_option maxRecDepth 100000 in
set_option maxHeartbeats 4000000 in
theorem couldPass_any (B : Nat) (ao : Option Addr) (cap : Nat) (b : Bx) (t : Tst) (has : List Int) (w : World) (hB : B ≤ w.heap.size) (hb : boxB b = true) (ht : testB b.ks.length t = true) (hs : KindsAt B w ao b.ks) (hl : has.length = b.ks.length) (hh : ∀ n ∈ has, -10000 ≤ n ∧ n ≤ 10000) :
    Calls Try.prog 73 #[bxV ao b.ks.length cap b, tsV t, liV has] w fun e w' => e = .returned (.bool (passB b t has)) ∧ Mod noB w w' := by
  have hks := boxB_ks hb
  have htp := test_parts ht hks.2.1
  have HF : Hold (∀ W', Mod noB (allocL w [.cells (bxC ao b.ks.length cap b) 26, .cells (tsC t) 29, .cells (liC has) 77]) W' → BtF B w ao cap b t has W') := ⟨fun W' h => btF hB hs h⟩
  have HM := Hold.mk (fun w => machineOf_any t w)
  have HP := Hold.mk (fun s w => meets_any s t.pass w)
  have he : Hold (passB b t has = meetsB (readM b has t) t.pass) := ⟨rfl⟩
  by_cases h1 : t.how = 1
  · have HR : Hold (∀ W', Mod noB (allocL w [.cells (bxC ao b.ks.length cap b) 26, .cells (tsC t) 29, .cells (liC has) 77]) W' → Calls Try.prog 98 #[.agg #[.int .i64 t.kinds, .int .i64 t.err.1, .int .i64 t.err.2], bxV ao b.ks.length cap b, liV has] W' fun e w2 => e = .returned (spV (readM b has t)) ∧ Mod noB W' w2) := ⟨fun W' h => by
      have hf := HF.out W' h
      have := counter_any B ao cap b has t.kinds t.err W' (Nat.le_trans hB hf.w.size) hb hf.b.k hl (htp.2.1 h1) htp.2.2.1 hh
      unfold readM
      rw [if_pos (by rw [h1]; rfl)]
      exact this⟩
    rw [machV, if_pos h1] at HM
    clear hB hb ht hs hl hh htp hks h1
    generalize readM b has t = rm at *
    go_enter Try.func73, Try.ntmps73
    go_wp2
    refine region_quietP (by kernel_rfl) (by kernel_rfl) (fun W' => Mod noB (allocL w [.cells (bxC ao b.ks.length cap b) 26, .cells (tsC t) 29, .cells (liC has) 77]) W') (Mod.refl _ _).drew ?_
    repeat
      (first
        | go_big_quiet_skip
        | (go_big_quiet_want
           go_simp
           first
             | go_big_quiet_on
             | (apply Exists.intro
                refine ⟨fun W' hC => ?_, ?_⟩
                · obtain ⟨⟨hb1, hb2⟩, ht1, hh1, _⟩ := HF.out W' hC; obtain ⟨b0, b1, b2, b3, b4⟩ := BoxAt.cells (B := B) ⟨hb1, hb2⟩; obtain ⟨t0, t1, t2, t3, t4, t5, t6⟩ := ts_cells ht1; obtain ⟨l0, l1, l2, l3⟩ := li_cells hh1; clear hb1 hb2 ht1 hh1
                  first
                    | (go_at_call 46; exact (HM.out _).mono fun e w2 hh => ⟨hh.1, hC.trans hh.2⟩)
                    | (go_at_call 98; exact (HR.out _ hC).mono fun e w2 hh => ⟨hh.1, hC.trans hh.2⟩)
                    | (go_at_call 78; exact (HP.out _ _).mono fun e w2 hh => ⟨hh.1, hC.trans hh.2⟩)
                    | with_reducible rfl
                    | (go_simp; first | rfl | exact ⟨rfl, rfl⟩)
                go_big_quiet_on)
             | (refine ⟨⟨_, fun _ _ => rfl⟩, ?_⟩; go_big_quiet_on)))
    refine wpQuiet_nil ?_
    intro Wq hq
    have HQ := Hold.mk (HF.out _ hq).w
    clear hq
    go_wp2
    go_ret
    exact ⟨by rw [he.out]; rfl, HQ.out⟩
  · have HR : Hold (∀ W', Mod noB (allocL w [.cells (bxC ao b.ks.length cap b) 26, .cells (tsC t) 29, .cells (liC has) 77]) W' → Calls Try.prog 101 #[.agg #[.int .i64 t.err.1, .int .i64 t.err.2], bxV ao b.ks.length cap b, liV has] W' fun e w2 => e = .returned (spV (readM b has t)) ∧ Mod noB W' w2) := ⟨fun W' h => by
      have hf := HF.out W' h
      have := weigher_any B ao cap b has t.err W' (Nat.le_trans hB hf.w.size) hb hf.b.k hl htp.2.2.1 hh
      unfold readM
      rw [if_neg (by simpa using h1)]
      exact this⟩
    rw [machV, if_neg h1] at HM
    clear hB hb ht hs hl hh htp hks h1
    generalize readM b has t = rm at *
    go_enter Try.func73, Try.ntmps73
    go_wp2
    refine region_quietP (by kernel_rfl) (by kernel_rfl) (fun W' => Mod noB (allocL w [.cells (bxC ao b.ks.length cap b) 26, .cells (tsC t) 29, .cells (liC has) 77]) W') (Mod.refl _ _).drew ?_
    repeat
      (first
        | go_big_quiet_skip
        | (go_big_quiet_want
           go_simp
           first
             | go_big_quiet_on
             | (apply Exists.intro
                refine ⟨fun W' hC => ?_, ?_⟩
                · obtain ⟨⟨hb1, hb2⟩, ht1, hh1, _⟩ := HF.out W' hC; obtain ⟨b0, b1, b2, b3, b4⟩ := BoxAt.cells (B := B) ⟨hb1, hb2⟩; obtain ⟨t0, t1, t2, t3, t4, t5, t6⟩ := ts_cells ht1; obtain ⟨l0, l1, l2, l3⟩ := li_cells hh1; clear hb1 hb2 ht1 hh1
                  first
                    | (go_at_call 46; exact (HM.out _).mono fun e w2 hh => ⟨hh.1, hC.trans hh.2⟩)
                    | (go_at_call 101; exact (HR.out _ hC).mono fun e w2 hh => ⟨hh.1, hC.trans hh.2⟩)
                    | (go_at_call 78; exact (HP.out _ _).mono fun e w2 hh => ⟨hh.1, hC.trans hh.2⟩)
                    | with_reducible rfl
                    | (go_simp; first | rfl | exact ⟨rfl, rfl⟩)
                go_big_quiet_on)
             | (refine ⟨⟨_, fun _ _ => rfl⟩, ?_⟩; go_big_quiet_on)))
    refine wpQuiet_nil ?_
    intro Wq hq
    have HQ := Hold.mk (HF.out _ hq).w
    clear hq
    go_wp2
    go_ret
    exact ⟨by rw [he.out]; rfl, HQ.out⟩

end Go.Proofs.Ytknbcmildpmokaa

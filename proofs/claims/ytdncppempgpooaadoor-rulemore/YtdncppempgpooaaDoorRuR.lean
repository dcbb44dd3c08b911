/- bears: does some plan hold? -/
import Derived.Test.YtdncppempgpooaaDoorRuQ
set_option linter.unusedSimpArgs false
set_option linter.unusedVariables false
namespace Go.Proofs.YtdncppempgpooaaDoor
open Go.RowKit Go.Shelf

theorem bent_zero (set : Nat) : bentR zeroR set = zeroR := by funext k; simp [bentR, zeroR]
theorem zeros87 (w : World) (a : Act) {o : Oper} (hop : o.op = .alloc 87) : (execOp a.eval o).run Tryd.prog w = .ok (.value (.pointer (some ⟨w.heap.size, 0, none⟩))) (w.alloc (.cells zeroM 87)) := by
  simp only [execOp, hop]
  go_simp
  done

/-- A die on the press lies at b. -/
structure DieBox (B : Nat) (ao : Option Addr) (cap : Nat) (d : Dye) (oo : Option Addr) (oc : Nat) (r : Nat → Int) (b : Nat) (w : World) : Prop where
  a : w.heap[b]? = some (.cells (mtC ao d.bl.length cap d oo oc r) 87)
  m : Mnt B w oo d

set_option maxRecDepth 100000 in
set_option maxHeartbeats 4000000 in
theorem bears_any (B : Nat) (ao : Option Addr) (cap : Nat) (d : Dye) (oo : Option Addr) (oc : Nat) (lo : Option Addr) (lcap : Nat) (l : List (Int × Int)) (w : World) (hM : Mnt B w oo d) (hl : StintsAt B w lo l) (hs : stintsB l = true) :
    Calls Tryd.prog 54 #[mtV ao d.bl.length cap d oo oc zeroR, .slice lo l.length lcap] w fun e w' => e = .returned (.bool (bearsB d l)) ∧ Mod noB w w' := by
  have hn5 := (dieB_parts hM.die).1.2
  have hst : ∀ s ∈ l, stintB s = true := by
    simp only [stintsB, Bool.and_eq_true, List.all_eq_true] at hs
    exact hs.2
  have hlm := hl.small
  obtain ⟨W1, hW1⟩ : ∃ W1, w.alloc (.cells (mtC ao d.bl.length cap d oo oc zeroR) 87) = W1 := ⟨_, rfl⟩
  have hm1 : Mod noB w W1 := by rw [← hW1]; exact (Mod.refl _ _).alloc _
  have ha1 : W1.heap[w.heap.size]? = some (.cells (mtC ao d.bl.length cap d oo oc zeroR) 87) := by rw [← hW1]; exact World.alloc_heap_new _ _
  have HA := Hold.mk (fun d w => allBlades_any ao cap d w)
  have HB : Hold (∀ W, Mod noB w W → Calls Tryd.prog 50 #[mtV ao d.bl.length cap d oo oc zeroR, .int .i64 (allS d)] W fun e w' => e = .returned (mtV ao d.bl.length cap d oo oc zeroR) ∧ Mod noB W w') := ⟨fun W h => by
    have hall : allS d < 32 := by
      unfold allS
      have : 2 ^ d.bl.length ≤ 2 ^ 5 := Nat.pow_le_pow_right (by decide) hn5
      omega
    have := bent_any ao d.bl.length cap d oo oc zeroR (allS d) W hall (hM.mod h).tab
    rw [bent_zero] at this
    exact this⟩
  have HF : Hold (∀ s ∈ l, ∀ W, Mod noB w W → Calls Tryd.prog 51 #[mtV ao d.bl.length cap d oo oc zeroR, spV s] W fun e w' => e = .returned (failV (failing d zeroR s)) ∧ Mod noB W w') :=
    ⟨fun s hs W h => failing_any B ao cap d oo oc zeroR s W (hM.mod h) (runB_zero.mono (by omega)) (hst s hs)⟩
  have HL : Hold (∀ W, Mod noB w W → StintsAt B W lo l) := ⟨fun W h => hl.low (Low.ofN h hM.le)⟩
  have HM1 := Hold.mk (And.intro hm1 ha1)
  have HLE := Hold.mk (And.intro hM.le hn5)
  have HV := Hold.mk (@mtC_info ao d.bl.length cap d oo oc zeroR)
  clear hM hl hs hst hm1 ha1 hn5
  go_enter Tryd.func54, Tryd.ntmps54
  go_wp2
  try rw [hW1]
  clear hW1
  refine region_makerP (swapL _ 5 6 _ _) 5 6 _ _ (.cells zeroM 87) (made_of (by decide) rfl rfl rfl rfl rfl (by kernel_rfl) (by kernel_rfl) (by kernel_rfl) (fun a w => zeros87 w a rfl)) (fun _ => by kernel_rfl) (swapL_len _ _ _ _ _) ?_
  intro nb X hX
  dsimp only [swapL, List.set]
  have GET : Hold (∀ W', X W' → Mod noB w W' ∧ W'.heap[w.heap.size]? = some (.cells (mtC ao d.bl.length cap d oo oc zeroR) 87)) := ⟨fun W' h => by
    have hh := ((Mod.refl noB W1).drew).trans (hX.mod _ h)
    exact ⟨HM1.out.1.trans hh, hh.at HM1.out.2 id⟩⟩
  repeat
    (first
      | go_big_quiet_skip
      | (go_big_quiet_want
         go_simp
         first
           | go_big_quiet_on
           | (refine ⟨⟨_, fun _ _ => rfl⟩, ?_⟩; go_big_quiet_on)
           | (apply Exists.intro
              refine ⟨fun W' hC => ?_, ?_⟩
              · obtain ⟨gm, ga⟩ := GET.out W' hC
                have c0 := cellsAt ga 0; have c1 := cellsAt ga 1; have c2 := cellsAt ga 2; have c3 := cellsAt ga 3; have c4 := cellsAt ga 4
                have c5 := cellsAt ga 5; have c6 := cellsAt ga 6; have c7 := cellsAt ga 7; have c8 := cellsAt ga 8; have c9 := cellsAt ga 9
                first
                | (go_at_call 69; (with_reducible refine (HA.out d _ HLE.out.2).mono ?_); exact fun e w'' he => ⟨he.1, hX.stable _ _ hC he.2⟩)
                | (go_at_call 50; (with_reducible refine (HB.out _ gm).mono ?_); exact fun e w'' he => ⟨he.1, hX.stable _ _ hC he.2⟩)
                  | with_reducible rfl
                  | (clear ga gm; go_simp; first | rfl | exact ⟨rfl, rfl⟩)
              go_big_quiet_on)))
  refine wpQuiet_nil ?_
  intro Wq hMq hnb hbq
  have hMq1 := HM1.out.1.trans (((Mod.refl noB W1).drew).trans hMq)
  have HB0 := Hold.mk hbq
  have HMQ := Hold.mk hMq1
  have hlt1 : w.heap.size ≤ nb := by have := HM1.out.1.size; omega
  clear hbq hMq hX GET hMq1 HM1
  have hvv : Hold (mtV ao d.bl.length cap d oo oc zeroR = .agg (mtC ao d.bl.length cap d oo oc zeroR)) := ⟨rfl⟩
  refine wpListIn_storeRow rfl 87 (.tmp 5) (.tmp 14) rfl nb rfl (mtC ao d.bl.length cap d oo oc zeroR) rfl 87 _ HB0.out HV.out.1 HV.out.2.1 HV.out.2.2 ?_
  refine wpListIn_nil ?_
  obtain ⟨W3, hW3⟩ : ∃ W3, Wq.putObj nb (.cells (mtC ao d.bl.length cap d oo oc zeroR) 87) = W3 := ⟨_, rfl⟩
  rw [hW3]
  have HK : Hold (Kept W3 (fun W => W.heap[nb]? = some (.cells (mtC ao d.bl.length cap d oo oc zeroR) 87) ∧ Mod noB w W)) := ⟨fun W h => by
    have hb3 : W3.heap[nb]? = some (.cells (mtC ao d.bl.length cap d oo oc zeroR) 87) := by rw [← hW3]; exact World.putObj_heap_same (at_ltS HB0.out)
    have hM3 : Mod noB w W3 := by rw [← hW3]; exact HMQ.out.putObj (fun h => by omega) _
    exact ⟨h.at hb3 id, hM3.trans h⟩⟩
  clear hW3 HB0 HMQ
  go_wp2_with fail
  go_loopw [17] (fun i wr => ∃ k : Nat, k ≤ l.length ∧ i = .int .i64 k ∧ (∀ j s, j < k → l[j]? = some s → failing d zeroR s = none) ∧ Kept wr (fun W => W.heap[nb]? = some (.cells (mtC ao d.bl.length cap d oo oc zeroR) 87) ∧ Mod noB w W)) (fun i _ => l.length - (intOf i).toNat)
  case atStart => exact ⟨0, Nat.zero_le _, rfl, fun j s hj => absurd hj (Nat.not_lt_zero _), HK.out⟩
  case round =>
    obtain ⟨k, hk, rfl, h0, hF⟩ := hrel
    have H0 := Hold.mk h0
    have HK := Hold.mk hF
    clear h0 hF
    by_cases hlt : k < l.length
    · obtain ⟨s, hs⟩ : ∃ s, l[k]? = some s := ⟨_, List.getElem?_eq_getElem hlt⟩
      obtain ⟨hb, hm⟩ := HK.out.now
      obtain ⟨sb, off, rfl, hsb, q0, q1⟩ := (HL.out _ hm).stint hs
      have hm2 := hm.size
      have hw2 : nb < wr.heap.size := at_ltS hb
      have hne1 : sb ≠ wr.heap.size := by have := HLE.out.1; omega
      have HS := Hold.mk hs
      have hfl : ∀ o, failing d zeroR s = o → Hold (∀ W, Mod noB w W → Calls Tryd.prog 51 #[mtV ao d.bl.length cap d oo oc zeroR, spV s] W fun e w' => e = .returned (failV o) ∧ Mod noB W w') := fun o ho => ⟨fun W h => by rw [← ho]; exact HF.out s (List.mem_of_getElem? hs) W h⟩
      obtain ⟨W4, hW4⟩ : ∃ W4, wr.alloc (.cells (spC s) 58) = W4 := ⟨_, rfl⟩
      have hm4 : Mod noB wr W4 := by rw [← hW4]; exact (Mod.refl _ _).alloc _
      have hb4 := hm4.at hb id
      have hs4 : W4.heap[wr.heap.size]? = some (.cells (spC s) 58) := by rw [← hW4]; exact World.alloc_heap_new _ _
      have c0 := cellsAt hb4 0; have c1 := cellsAt hb4 1; have c2 := cellsAt hb4 2; have c3 := cellsAt hb4 3; have c4 := cellsAt hb4 4
      have c5 := cellsAt hb4 5; have c6 := cellsAt hb4 6; have c7 := cellsAt hb4 7; have c8 := cellsAt hb4 8; have c9 := cellsAt hb4 9
      have d0 := cellsAt hs4 0; have d1 := cellsAt hs4 1
      have HK4 := Hold.mk (HK.out.later hm4)
      have HM4 := Hold.mk (hm.trans hm4)
      clear hs hb hm hm4 hb4 hs4 HK
      cases ho : failing d zeroR s with
      | some b =>
        have HC : Hold (∀ W, Mod noB w W → Calls Tryd.prog 51 #[mtV ao d.bl.length cap d oo oc zeroR, spV s] W fun e w' => e = .returned (.tuple #[.int .i64 b, .bool true]) ∧ Mod noB W w') := ⟨(hfl _ ho).out⟩
        have HE : Hold (bearsB d l = false) := ⟨by
          unfold bearsB
          rw [List.all_eq_false]
          exact ⟨s, List.mem_of_getElem? HS.out, by simp [ho]⟩⟩
        clear hfl ho
        obtain ⟨s1, s2⟩ := s
        go_wp2_with (go_at_call 51; (try rw [hW4]); refine (HC.out _ HM4.out).mono ?_; rintro e w5 ⟨rfl, hM⟩; have HK5 := Hold.mk (HK4.out.later hM); clear hM)
        go_ret
        exact ⟨by rw [HE.out] <;> rfl, HK5.out.now.2⟩
      | none =>
        have HC : Hold (∀ W, Mod noB w W → Calls Tryd.prog 51 #[mtV ao d.bl.length cap d oo oc zeroR, spV s] W fun e w' => e = .returned (.tuple #[.int .i64 0, .bool false]) ∧ Mod noB W w') := ⟨(hfl _ ho).out⟩
        have HO := Hold.mk ho
        clear hfl ho
        obtain ⟨s1, s2⟩ := s
        go_wp2_with (go_at_call 51; (try rw [hW4]); refine (HC.out _ HM4.out).mono ?_; rintro e w5 ⟨rfl, hM⟩; have HK5 := Hold.mk (HK4.out.later hM); clear hM)
        go_roundw
        case rel => exact ⟨k + 1, by omega, by go_num, fun j s hj hs => by
          rcases Nat.lt_succ_iff_lt_or_eq.1 hj with h | rfl
          · exact H0.out j s h hs
          · rw [HS.out] at hs; cases hs; exact HO.out, HK5.out⟩
        case measure => simp [intOf]; omega
    · obtain rfl : k = l.length := by omega
      have HE : Hold (bearsB d l = true) := ⟨by
        unfold bearsB
        rw [List.all_eq_true]
        intro s hs
        obtain ⟨j, hj⟩ := List.mem_iff_getElem?.1 hs
        rw [H0.out j s (List.getElem?_eq_some_iff.1 hj).1 hj]; rfl⟩
      go_wp2
      go_ret
      exact ⟨by rw [HE.out] <;> rfl, HK.out.now.2⟩
end Go.Proofs.YtdncppempgpooaaDoor

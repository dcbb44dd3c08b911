/- The document's pairings: all that go on from one. -/
import Derived.Test.YtnjbamikfjdofaaRefQc
import Derived.Deep.DeepCutAuto
import Derived.Deep.CutRange
set_option linter.unusedSimpArgs false
set_option linter.unusedVariables false
namespace Go.Proofs.Ytnjbamikfjdofaa
open Go.RowKit Go.Shelf

theorem at_ltQ {w : World} {b : Nat} {o : Obj} (h : w.heap[b]? = some o) : b < w.heap.size := (Array.getElem?_eq_some_iff.1 h).1
theorem grown43 {B : Nat} {w w1 : World} {v : Value} {n : Nat} {xs : List Value} (h : w.ownsRow B 43 1 v n xs) (hg : w.grownBy w1 v.ownBlock) : Mod (Row43 B w) w w1 := by
  refine Mod.of_grownBy hg fun r hr _ => ?_
  obtain ⟨_, ⟨rfl, _⟩ | ⟨g, cap, cur, rfl, hb, hh, _⟩⟩ := h
  · cases hr
  · obtain rfl : g = r := by simpa [Value.ownBlock] using hr
    exact ⟨hb, cur, hh⟩
theorem rows_add {B : Nat} {w w1 : World} {LL : List (List Int)} {vs : List Value} {v1 u : Value} {l : List Int} (h2 : ∀ (i : Nat) (l : List Int), LL[i]? = some l → ∃ u, vs[i]? = some u ∧ IntV w u l)
    (hl : vs.length = LL.length) (h1 : w1.ownsRow B 43 1 v1 (LL.length + 1) (vs ++ [u])) (hu : IntV w u l) (hm : Mod (Row43 B w) w w1) : RowsV w1 B v1 (LL ++ [l]) := by
  refine ⟨vs ++ [u], by rw [List.length_append, List.length_singleton]; exact h1, fun i l' hi => ?_⟩
  rcases Nat.lt_or_ge i LL.length with hlt | hge
  · rw [List.getElem?_append_left hlt] at hi
    obtain ⟨u', e1, e2⟩ := h2 i l' hi
    exact ⟨u', by rw [List.getElem?_append_left (by omega)]; exact e1, e2.t43 hm⟩
  · rw [List.getElem?_append_right hge] at hi
    have : i - LL.length = 0 := by
      rcases Nat.eq_zero_or_pos (i - LL.length) with h | h
      · exact h
      · rw [List.getElem?_eq_none (by simp; omega)] at hi; cases hi
    rw [this] at hi
    obtain rfl : l = l' := by simpa using hi
    exact ⟨u, by rw [List.getElem?_append_right (by omega), hl, this]; rfl, hu.t43 hm⟩

theorem slice_cell (w : World) (s : Value) : ∀ (j : Nat) (u : Value), [s][j]? = some u → (w.alloc (.cells #[s] 43)).cell? (Addr.add ⟨w.heap.size, 0, none⟩ j) = some u := fun j u hj => by
  cases j with
  | succ j => cases hj
  | zero =>
    obtain rfl : s = u := by simpa using hj
    show (w.alloc (.cells #[s] 43)).cell? ⟨w.heap.size, 0, none⟩ = some s
    rw [cellsAt (World.alloc_heap_new w _) 0]
    rfl

set_option maxRecDepth 100000 in
set_option maxHeartbeats 4000000 in
theorem pairings_end (p : Ply) (tabs holes : List Edg) (ta ha : Option Addr) (ct ch : Nat) (n8 : tabs.length ≤ 8) (h8 : holes.length ≤ 8) (B : Nat)
    (pre : List Int) (u v : Value) (OUT : List (List Int)) (w : World) (hlen : pre.length = tabs.length) (hB : B ≤ w.heap.size) (hu : IntV w u pre) (hv : RowsV w B v OUT) (hsm : OUT.length ≤ 1000000000) :
    Calls Try.prog 67 #[plV p, .slice ta tabs.length ct, .slice ha holes.length ch, u, v] w fun e w' => ∃ v', e = .returned v' ∧ RowsV w' B v' (OUT ++ [pre]) ∧ Mod (Row43 B w) w w' := by
  obtain ⟨bo, cb, rfl, _⟩ := hu.ints (by omega)
  obtain ⟨vs, hO, hvs⟩ := hv
  have hvl : vs.length = OUT.length := by have := hO.1; omega
  obtain ⟨i0, hi, hz0, hz1, hz2⟩ := info_parts info43
  have heq : ((pre.length : Int) == (tabs.length : Int)) = true := by simp [hlen]
  have HO := Hold.mk hO
  have HV := Hold.mk (And.intro hvs (And.intro hvl hu))
  have HSC : Hold (∀ (j : Nat) (u : Value), [Value.slice bo pre.length cb][j]? = some u → ((w.alloc (.cells (plC p) 25)).alloc (.cells #[.slice bo pre.length cb] 43)).cell? (Addr.add ⟨w.heap.size + 1, 0, none⟩ j) = some u) := ⟨by have := slice_cell (w.alloc (.cells (plC p) 25)) (.slice bo pre.length cb); rwa [World.size_alloc] at this⟩
  clear hO hvs hvl hu hlen
  go_enter Try.func67, Try.ntmps67
  go_wp2_with (at_builtin; refine wpList_append_own _ rfl (.tmp 17) (.tmp 19) 82 rfl B 43 i0 (.slice none 0 0) 1 24 Try.underlying82 hi hz0 hz1 hz2 rfl (by decide) _ _ _ rfl ((HO.out.alloc _).alloc _) ⟨w.heap.size + 1, 0, none⟩ 1 1 [.slice bo pre.length cb] rfl rfl HSC.out (by simp [Value.oneCell']) (by unfold maxLen; omega) (by omega) (by simp; omega) ?_; intro v' wa hown' hgr _; have HW := Hold.mk (And.intro hown' hgr); clear hown' hgr)
  go_ret
  have hm0 : Mod noB w ((w.alloc (.cells (plC p) 25)).alloc (.cells #[.slice bo pre.length cb] 43)) := ((Mod.refl noB w).alloc _).alloc _
  have hm1 := grown43 ((HO.out.alloc _).alloc _) HW.out.2
  have hm : Mod (Row43 B w) w wa := (Mod.to43 hm0).t43 hm1
  exact ⟨v', rfl, rows_add (fun i l hi => by obtain ⟨u', e1, e2⟩ := HV.out.1 i l hi; exact ⟨u', e1, e2⟩) HV.out.2.1 HW.out.1 HV.out.2.2 hm, hm⟩

set_option maxRecDepth 100000 in
set_option maxHeartbeats 16000000 in
theorem pairings_step (p : Ply) (tabs holes : List Edg) (ta ha : Option Addr) (ct ch : Nat) (n8 : tabs.length ≤ 8) (h8 : holes.length ≤ 8) (hp : playB p = true) (hts : sidesB tabs = true) (hhs : sidesB holes = true) (w0 : World) (B : Nat) (hwB : w0.heap.size ≤ B)
    (HT : EdgesAt w0 ta tabs) (HH : EdgesAt w0 ha holes) (m : Nat) (pre : List Int) (u v : Value) (OUT : List (List Int)) (w : World) (hlen : pre.length + (m + 1) = tabs.length)
    (IH : ∀ (h : Int) (u v : Value) (OUT : List (List Int)) (w : World), Mod noB w0 w → B ≤ w.heap.size → IntV w u (pre ++ [h]) → RowsV w B v OUT → (OUT ++ pairsL (goesL p tabs holes) m (pre ++ [h])).length ≤ 1000000000 →
      Calls Try.prog 67 #[plV p, .slice ta tabs.length ct, .slice ha holes.length ch, u, v] w fun e w' => ∃ v', e = .returned v' ∧ RowsV w' B v' (OUT ++ pairsL (goesL p tabs holes) m (pre ++ [h])) ∧ Mod (Row43 B w) w w')
    (hm0 : Mod noB w0 w) (hB : B ≤ w.heap.size) (hu : IntV w u pre) (hv : RowsV w B v OUT) (hsm : (OUT ++ pairsL (goesL p tabs holes) (m + 1) pre).length ≤ 1000000000) :
    Calls Try.prog 67 #[plV p, .slice ta tabs.length ct, .slice ha holes.length ch, u, v] w fun e w' => ∃ v', e = .returned v' ∧ RowsV w' B v' (OUT ++ pairsL (goesL p tabs holes) (m + 1) pre) ∧ Mod (Row43 B w) w w' := by
  obtain ⟨bo, cb, rfl, _⟩ := hu.ints (by omega)
  obtain ⟨t, ht⟩ : ∃ t, tabs[pre.length]? = some t := ⟨_, List.getElem?_eq_getElem (by omega)⟩
  have hst : sideB t = true := List.all_eq_true.1 hts t (List.mem_of_getElem? ht)
  have heq : ((pre.length : Int) == (tabs.length : Int)) = false := by simp; omega
  have HSM := Hold.mk hsm
  have hgl : gatherK p t holes (goesL p tabs holes) m pre holes.length = pairsL (goesL p tabs holes) (m + 1) pre := gatherK_all ht
  rw [← hgl] at HSM ⊢
  have HE := Hold.mk (And.intro HT HH)
  have H0 := Hold.mk (And.intro hm0 (And.intro hB hwB))
  have HU0 := Hold.mk hu
  have HV0 := Hold.mk hv
  have HIH := Hold.mk IH
  have Ht := Hold.mk ht
  have HHS := Hold.mk hhs
  have HP0 : Hold (Kept (w.alloc (.cells (plC p) 25)) (fun w' => w'.heap[w.heap.size]? = some (.cells (plC p) 25))) := ⟨kept_block (World.alloc_heap_new w _)⟩
  have hl1 : pre.length < tabs.length := by omega
  clear hu hv hsm hgl HT HH IH hm0 hB hts hhs hlen hwB ht
  go_enter Try.func67, Try.ntmps67
  go_wp2_with fail
  go_loopw [4, 11] (fun o i wr => ∃ k : Nat, k ≤ holes.length ∧ i = .int .i64 k ∧ Hold (RowsV wr B o (OUT ++ gatherK p t holes (goesL p tabs holes) m pre k)) ∧ Hold (Mod (Row43 B w) w wr ∧ wr.heap[w.heap.size]? = some (.cells (plC p) 25) ∧ w.heap.size < wr.heap.size)) (fun _ i _ => holes.length - (intOf i).toNat)
  case atStart => exact ⟨0, Nat.zero_le _, rfl, ⟨by rw [gatherK_zero, List.append_nil]; exact HV0.out.mod ((Mod.refl noB w).alloc _)⟩, ⟨Mod.to43 ((Mod.refl noB w).alloc _), World.alloc_heap_new w _, by simp⟩⟩
  case round =>
    clear HV0 HP0
    obtain ⟨k, hk, rfl, HV, HM⟩ := hrel
    by_cases hlt : k < holes.length
    · obtain ⟨x, hx⟩ : ∃ x, holes[k]? = some x := ⟨_, List.getElem?_eq_getElem hlt⟩
      have hsx : sideB x = true := List.all_eq_true.1 HHS.out x (List.mem_of_getElem? hx)
      have hmr : Mod noB w0 wr := Mod.low43 H0.out.1 HM.out.1 H0.out.2.2
      obtain ⟨b1, o1, rfl, hb1, hc1⟩ := (HE.out.1.mod hmr).lies (fun e => by simp [e] at hl1)
      obtain ⟨b2, o2, rfl, hb2, hc2⟩ := (HE.out.2.mod hmr).lies (fun e => by simp [e] at hlt)
      have ht1 := hc1 _ t Ht.out
      have hx1 := hc2 _ x hx
      have HTC : Hold (∀ W', Mod noB wr W' → EdgeAt W' b1 (o1 + pre.length * 7) t) := ⟨fun W' h => ht1.same (h.block b1 hb1 id)⟩
      have HXC : Hold (∀ W', Mod noB wr W' → EdgeAt W' b2 (o2 + k * 7) x) := ⟨fun W' h => hx1.same (h.block b2 hb2 id)⟩
      have HP : Hold (∀ W', Mod noB wr W' → W'.heap[w.heap.size]? = some (.cells (plC p) 25)) := ⟨fun W' h => h.at HM.out.2.1 id⟩
      have HUW : Hold (IntV wr (.slice bo pre.length cb) pre) := ⟨HU0.out.t43 HM.out.1⟩
      have HU : Hold (∀ W', Mod noB wr W' → IntsAt W' bo pre) := ⟨fun W' h => by
        obtain ⟨ao, cap, e1, e2⟩ := (HUW.out.mod h).ints (by omega)
        cases e1
        exact e2⟩
      have HFT := Hold.mk (fun w => ref49_any p t x w hp hst hsx)
      have HX := Hold.mk hx
      have hbw := Hold.mk (And.intro hb1 hb2)
      clear hc1 hc2 ht1 hx1 hx hmr hb1 hb2
      by_cases hin : (k : Int) ∈ pre
      · have HIN : Hold (decide ((k : Int) ∈ pre) = true) := ⟨decide_eq_true hin⟩
        clear hin
        go_upto_region 6 with fail
        refine region_quietP (by kernel_rfl) (by kernel_rfl) (fun W' => Mod noB wr W') ((Mod.refl _ _).drew) ?_
        repeat
          (first
            | go_big_quiet_skip
            | (go_big_quiet_want
               go_simp
               first
                 | go_big_quiet_on
                 | (apply Exists.intro
                    refine ⟨fun W' hC => ?_, ?_⟩
                    · obtain ⟨p0, p1, p2, p3, p4⟩ := PlayAt.of (HP.out W' hC)
                      obtain ⟨t0, t1, t2, t3, t4, t5, t6⟩ := (HTC.out W' hC)
                      obtain ⟨x0, x1, x2, x3, x4, x5, x6⟩ := (HXC.out W' hC)
                      first
                        | (go_at_call 89; (with_reducible refine (has_any _ _ _ _ _ (HU.out W' hC)).mono ?_); exact fun e w'' he => ⟨by rw [he.1, HIN.out], hC.trans he.2⟩)
                        | (go_at_call 49; (with_reducible refine (HFT.out _).mono ?_); exact fun e w'' he => ⟨he.1, hC.trans he.2⟩)
                        | with_reducible rfl
                        | (go_simp; first | rfl | exact ⟨rfl, rfl⟩)
                    go_big_quiet_on)
                 | (refine ⟨⟨_, fun _ _ => rfl⟩, ?_⟩; go_big_quiet_on)))
        refine wpQuiet_nil ?_
        intro Wq hq
        have HQ := Hold.mk hq
        clear hq
        go_wp2_with fail
        go_roundw
        case rel => exact ⟨k + 1, by omega, by go_num, ⟨by rw [gatherK_in HX.out (of_decide_eq_true HIN.out)]; exact HV.out.mod HQ.out⟩, ⟨HM.out.1.t43 (Mod.to43 HQ.out), HQ.out.at HM.out.2.1 id, Nat.lt_of_lt_of_le HM.out.2.2 HQ.out.size⟩⟩
        case measure => simp [intOf]; omega
      · have HIN : Hold (decide ((k : Int) ∈ pre) = false) := ⟨decide_eq_false hin⟩
        clear hin
        obtain ⟨F, hF⟩ : ∃ F, F = fitR p t x := ⟨_, rfl⟩
        rw [← hF] at HFT
        have HF := Hold.mk hF
        clear hF
        by_cases hF0 : F = 0
        · subst hF0
          go_upto_region 6 with fail
          refine region_quietP (by kernel_rfl) (by kernel_rfl) (fun W' => Mod noB wr W') ((Mod.refl _ _).drew) ?_
          repeat
            (first
              | go_big_quiet_skip
              | (go_big_quiet_want
                 go_simp
                 first
                   | go_big_quiet_on
                   | (apply Exists.intro
                      refine ⟨fun W' hC => ?_, ?_⟩
                      · obtain ⟨p0, p1, p2, p3, p4⟩ := PlayAt.of (HP.out W' hC)
                        obtain ⟨t0, t1, t2, t3, t4, t5, t6⟩ := (HTC.out W' hC)
                        obtain ⟨x0, x1, x2, x3, x4, x5, x6⟩ := (HXC.out W' hC)
                        first
                          | (go_at_call 89; (with_reducible refine (has_any _ _ _ _ _ (HU.out W' hC)).mono ?_); exact fun e w'' he => ⟨by rw [he.1, HIN.out], hC.trans he.2⟩)
                          | (go_at_call 49; (with_reducible refine (HFT.out _).mono ?_); exact fun e w'' he => ⟨he.1, hC.trans he.2⟩)
                          | with_reducible rfl
                          | (go_simp; first | rfl | exact ⟨rfl, rfl⟩)
                      go_big_quiet_on)
                   | (refine ⟨⟨_, fun _ _ => rfl⟩, ?_⟩; go_big_quiet_on)))
          refine wpQuiet_nil ?_
          intro Wq hq
          have HQ := Hold.mk hq
          clear hq
          go_wp2_with fail
          go_roundw
          case rel => exact ⟨k + 1, by omega, by go_num, ⟨by rw [gatherK_no HX.out HF.out.symm]; exact HV.out.mod HQ.out⟩, ⟨HM.out.1.t43 (Mod.to43 HQ.out), HQ.out.at HM.out.2.1 id, Nat.lt_of_lt_of_le HM.out.2.2 HQ.out.size⟩⟩
          case measure => simp [intOf]; omega
        · have hF1 : (F != 0) = true := by simpa using hF0
          have hF2 : (F == 0) = false := by simpa using hF0
          have HF0 := Hold.mk hF0
          clear hF0
          go_upto_region 6 with fail
          refine region_quietP (by kernel_rfl) (by kernel_rfl) (fun W' => Mod noB wr W') ((Mod.refl _ _).drew) ?_
          repeat
            (first
              | go_big_quiet_skip
              | (go_big_quiet_want
                 go_simp
                 first
                   | go_big_quiet_on
                   | (apply Exists.intro
                      refine ⟨fun W' hC => ?_, ?_⟩
                      · obtain ⟨p0, p1, p2, p3, p4⟩ := PlayAt.of (HP.out W' hC)
                        obtain ⟨t0, t1, t2, t3, t4, t5, t6⟩ := (HTC.out W' hC)
                        obtain ⟨x0, x1, x2, x3, x4, x5, x6⟩ := (HXC.out W' hC)
                        first
                          | (go_at_call 89; (with_reducible refine (has_any _ _ _ _ _ (HU.out W' hC)).mono ?_); exact fun e w'' he => ⟨by rw [he.1, HIN.out], hC.trans he.2⟩)
                          | (go_at_call 49; (with_reducible refine (HFT.out _).mono ?_); exact fun e w'' he => ⟨he.1, hC.trans he.2⟩)
                          | with_reducible rfl
                          | (go_simp; first | rfl | exact ⟨rfl, rfl⟩)
                      go_big_quiet_on)
                   | (refine ⟨⟨_, fun _ _ => rfl⟩, ?_⟩; go_big_quiet_on)))
          refine wpQuiet_nil ?_
          intro Wq hq
          have HQ := Hold.mk hq
          clear hq
          go_upto_region 7 with fail
          have HPC := Hold.mk (HP.out Wq HQ.out)
          have HWU := Hold.mk (HUW.out.mod HQ.out)
          have HWV := Hold.mk (HV.out.mod HQ.out)
          have HWM : Hold (Mod (Row43 B w) w Wq) := ⟨HM.out.1.t43 (Mod.to43 HQ.out)⟩
          have HG := Hold.mk (gatherK_yes (goes := goesL p tabs holes) (m := m) (pre := pre) HX.out (by rw [← HF.out]; exact HF0.out))
          have HLE : Hold ((gatherK p t holes (goesL p tabs holes) m pre (k + 1)).length ≤ (gatherK p t holes (goesL p tabs holes) m pre holes.length).length) := ⟨by have := gatherK_le (p := p) (t := t) (holes := holes) (goes := goesL p tabs holes) (m := m) (pre := pre) (holes.length - (k + 1)) (k + 1) (by omega); rwa [show k + 1 + (holes.length - (k + 1)) = holes.length by omega] at this⟩
          have HIN2 := Hold.mk (of_decide_eq_false HIN.out)
          refine region7 (p := p) (T := .slice (some ⟨b1, o1, none⟩) tabs.length ct) (H := .slice (some ⟨b2, o2, none⟩) holes.length ch) (u := .slice bo pre.length cb) (v := u4) (k := (k : Int)) (pre := pre)
            (Po := fun v' w2 => RowsV w2 B v' (OUT ++ gatherK p t holes (goesL p tabs holes) m pre (k + 1)) ∧ Mod (Row43 B Wq) Wq w2) rfl rfl rfl rfl rfl w.heap.size rfl rfl HPC.out HWU.out (by omega) ?_ ?_
          · intro u' w' hu' hm'
            have hG := HG.out
            rw [if_neg HIN2.out] at hG
            have hLE := HLE.out
            have hS := HSM.out
            rw [List.length_append] at hS
            have hm2 : Mod noB w0 w' := (Mod.low43 H0.out.1 HWM.out H0.out.2.2).trans hm'
            refine (HIH.out (k : Int) u' u4 _ w' hm2 (by have := HWM.out.size; have := hm'.size; have := H0.out.2.1; omega) hu' (HWV.out.mod hm') ?_).mono fun e w2 hh => ?_
            · rw [List.append_assoc, ← hG, List.length_append]; omega
            · obtain ⟨v', e1, e2, e3⟩ := hh
              exact ⟨v', e1, by rw [hG, ← List.append_assoc]; exact e2, (Mod.to43 hm').t43 e3⟩
          · intro vs w2 hPo h11
            have HPo := Hold.mk hPo
            have HE11 := Hold.mk h11
            have hl2 : w.heap.size < w2.heap.size := by have := HPo.out.2.size; have := HQ.out.size; have := HM.out.2.2; omega
            clear hPo h11
            simp only [List.foldl_cons, List.foldl_nil]
            go_wp2_with fail
            refine ⟨⟨k + 1, by omega, by go_num, ⟨by rw [HE11.out]; exact HPo.out.1⟩, ⟨HWM.out.t43 HPo.out.2, HPo.out.2.at HPC.out ?_, hl2⟩⟩, by simp [intOf]; omega⟩
            rintro ⟨_, cs, hh⟩
            rw [HPC.out] at hh
            cases hh
    · obtain rfl : k = holes.length := by omega
      go_wp2_with fail
      go_ret
      exact ⟨_, rfl, HV.out, HM.out.1⟩

theorem refPairings_any (p : Ply) (tabs holes : List Edg) (ta ha : Option Addr) (ct ch : Nat) (n8 : tabs.length ≤ 8) (h8 : holes.length ≤ 8) (hp : playB p = true) (hts : sidesB tabs = true) (hhs : sidesB holes = true) (w0 : World) (B : Nat) (hwB : w0.heap.size ≤ B)
    (HT : EdgesAt w0 ta tabs) (HH : EdgesAt w0 ha holes) : ∀ (m : Nat) (pre : List Int) (u v : Value) (OUT : List (List Int)) (w : World), pre.length + m = tabs.length → Mod noB w0 w → B ≤ w.heap.size → IntV w u pre → RowsV w B v OUT → (OUT ++ pairsL (goesL p tabs holes) m pre).length ≤ 1000000000 →
      Calls Try.prog 67 #[plV p, .slice ta tabs.length ct, .slice ha holes.length ch, u, v] w fun e w' => ∃ v', e = .returned v' ∧ RowsV w' B v' (OUT ++ pairsL (goesL p tabs holes) m pre) ∧ Mod (Row43 B w) w w' := by
  intro m
  induction m with
  | zero =>
    intro pre u v OUT w hlen hm hB hu hv hsm
    exact pairings_end p tabs holes ta ha ct ch n8 h8 B pre u v OUT w (by omega) hB hu hv (by rw [List.length_append] at hsm; omega)
  | succ m ih =>
    intro pre u v OUT w hlen hm hB hu hv hsm
    exact pairings_step p tabs holes ta ha ct ch n8 h8 hp hts hhs w0 B hwB HT HH m pre u v OUT w hlen (fun h u v OUT w hm hB hu hv hs => ih (pre ++ [h]) u v OUT w (by rw [List.length_append, List.length_singleton]; omega) hm hB hu hv hs) hm hB hu hv hsm
end Go.Proofs.Ytnjbamikfjdofaa

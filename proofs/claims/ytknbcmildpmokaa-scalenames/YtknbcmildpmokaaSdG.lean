/- tellsApart. -/
import Derived.Test.YtknbcmildpmokaaSdF
set_option linter.unusedSimpArgs false
set_option linter.unusedVariables false
namespace Go.Proofs.Ytknbcmildpmokaa
open Go.RowKit Go.Shelf Go.Maps


attribute [local go_sem] meth110 meth112
theorem info78x : (Try.prog.info? 78).map (fun i => (i.zero, i.size, i.bytes)) = some (some (spV (0, 0)), 2, 16) := by kernel_rfl
/-- A list that a box can have, roughly. -/
def ListOk (b : Bx) (x : List Int) : Prop := x.length = b.ks.length ∧ ∀ z ∈ x, -10000 ≤ z ∧ z ≤ 10000
/-- What lies where. -/
structure TaF (B : Nat) (w : World) (ao : Option Addr) (cap : Nat) (b : Bx) (t : Tst) (so oo : Option Addr) (L1 L2 : List (List Int)) (W : World) : Prop where
  bx : BoxAt B W w.heap.size ao cap b
  t : W.heap[w.heap.size + 1]? = some (.cells (tsC t) 29)
  s : ListsAt B W so L1
  o : ListsAt B W oo L2
  w : Mod noB w W
  z : B ≤ W.heap.size
theorem taF {B : Nat} {w : World} {ao : Option Addr} {cap : Nat} {b : Bx} {t : Tst} {so oo : Option Addr} {L1 L2 : List (List Int)} (hB : B ≤ w.heap.size) (hs : KindsAt B w ao b.ks) (h1 : ListsAt B w so L1) (h2 : ListsAt B w oo L2) : Kept (allocL w [.cells (bxC ao b.ks.length cap b) 26, .cells (tsC t) 29]) (fun W => TaF B w ao cap b t so oo L1 L2 W) := fun W h => by
  have hm := (allocL_mod noB [.cells (bxC ao b.ks.length cap b) 26, .cells (tsC t) 29] w).trans h
  exact ⟨⟨at_allocL _ h 0 _ rfl, hs.low (Low.ofN hm hB)⟩, at_allocL _ h 1 _ rfl, h1.low (Low.ofN hm hB), h2.low (Low.ofN hm hB), hm, Nat.le_trans hB hm.size⟩
theorem TaF.turn {B : Nat} {w : World} {ao : Option Addr} {cap : Nat} {b : Bx} {t : Tst} {so oo : Option Addr} {L1 L2 : List (List Int)} {W W' : World} (hB : B ≤ w.heap.size) (h : TaF B w ao cap b t so oo L1 L2 W) (hm : Mod (fun k => w.heap.size + 2 ≤ k) W W') : TaF B w ao cap b t so oo L1 L2 W' := by
  have lo : Low B W W' := Low.of hm h.z (fun k hk => by omega)
  exact ⟨⟨hm.at h.bx.c (by omega), h.bx.k.low lo⟩, hm.at h.t (by omega), h.s.low lo, h.o.low lo, h.w.then hm (fun i hi hk => by omega), Nat.le_trans h.z hm.size⟩
/-- Between two rounds of the first loop. -/
structure TaI (B : Nat) (w : World) (ao : Option Addr) (cap : Nat) (b : Bx) (t : Tst) (so oo : Option Addr) (L1 L2 : List (List Int)) (k : Nat) (v : Value) (W : World) : Prop where
  f : TaF B w ao cap b t so oo L1 L2 W
  r : W.ownsRow (w.heap.size + 2) 78 2 v k (flatC spC ((L1.take k).map fun x => readM b x t))
  z : w.heap.size + 2 ≤ W.heap.size
theorem TaI.skip {B : Nat} {w : World} {ao : Option Addr} {cap : Nat} {b : Bx} {t : Tst} {so oo : Option Addr} {L1 L2 : List (List Int)} {k : Nat} {v : Value} {W W' : World} (hB : B ≤ w.heap.size) (h : TaI B w ao cap b t so oo L1 L2 k v W) (hm : Mod noB W W') : TaI B w ao cap b t so oo L1 L2 k v W' :=
  ⟨h.f.turn hB (hm.wider (fun _ _ h => h.elim)), own_mod h.r hm, Nat.le_trans h.z hm.size⟩
theorem TaI.next {B : Nat} {w : World} {ao : Option Addr} {cap : Nat} {b : Bx} {t : Tst} {so oo : Option Addr} {L1 L2 : List (List Int)} {k : Nat} {v v' : Value} {x : List Int} {W w1 w' : World} (hB : B ≤ w.heap.size) (hx : L1[k]? = some x) (h : TaI B w ao cap b t so oo L1 L2 k v W) (h1 : Mod noB W w1) (hg : w1.grownBy w' v.ownBlock)
    (ho : w'.ownsRow (w.heap.size + 2) 78 2 v' (k + 1) (flatC spC ((L1.take k).map fun x => readM b x t) ++ (spC (readM b x t)).toList)) : TaI B w ao cap b t so oo L1 L2 (k + 1) v' w' := by
  have m : Mod (fun j => w.heap.size + 2 ≤ j) W w' := (h1.wider (fun _ _ h => h.elim)).then (Mod.of_grownBy hg (fun r hr _ => hr)) (fun i hi hk => (own_block h.r hk).1)
  refine ⟨h.f.turn hB m, ?_, Nat.le_trans h.z m.size⟩
  rw [take_snoc' hx, List.map_append, List.map_cons, List.map_nil, flatC_snoc]
  exact ho

set_option maxRecDepth 100000 in
set_option maxHeartbeats 8000000 in
theorem tellsApart_any (B : Nat) (ao so oo : Option Addr) (cap scap ocap : Nat) (b : Bx) (t : Tst) (L1 L2 : List (List Int)) (w : World) (hB : B ≤ w.heap.size) (hb : boxB b = true) (ht : testB b.ks.length t = true) (hs : KindsAt B w ao b.ks) (h1 : ListsAt B w so L1) (h2 : ListsAt B w oo L2)
    (hk1 : ∀ x ∈ L1, ListOk b x) (hk2 : ∀ x ∈ L2, ListOk b x) (hn1 : L1.length ≤ 4096) :
    Calls Try.prog 58 #[bxV ao b.ks.length cap b, tsV t, .slice so L1.length scap, .slice oo L2.length ocap] w fun e w' => e = .returned (.bool (apartB b t L1 L2)) ∧ Mod noB w w' := by
  have hs1 := h1.small
  have hs2 := h2.small
  obtain ⟨j0, hj, hy0, hy1, hy2⟩ := info_parts info78x
  have HF : Hold (Kept (allocL w [.cells (bxC ao b.ks.length cap b) 26, .cells (tsC t) 29]) (fun W => TaF B w ao cap b t so oo L1 L2 W)) := ⟨taF hB hs h1 h2⟩
  have HRD := Hold.mk (fun (x : List Int) (W : World) (hx : ListOk b x) (h : TaF B w ao cap b t so oo L1 L2 W) => reads_any B ao cap b t x W h.z hb ht h.bx.k hx.1 hx.2)
  have HMA := Hold.mk (fun w => machineOf_any t w)
  have HME := Hold.mk (fun s t w => meets_any s t w)
  have HK1 := Hold.mk hk1
  have HK2 := Hold.mk hk2
  have HB := Hold.mk hB
  obtain ⟨t0, t1, t2, t3, t4, t5, t6⟩ := ts_cells HF.out.now.t
  clear hs h1 h2 hb ht hk1 hk2
  have e2 : ((w.alloc (.cells (bxC ao b.ks.length cap b) 26)).alloc (.cells (tsC t) 29)) = allocL w [.cells (bxC ao b.ks.length cap b) 26, .cells (tsC t) 29] := rfl
  by_cases hh : t.how = 1
  · rw [machV, if_pos hh] at HMA
    have HR := Hold.mk (fun (x : List Int) (W : World) (hx : ListOk b x) (h : TaF B w ao cap b t so oo L1 L2 W) => (HRD.out x W hx h).1 hh)
    clear HRD hh
    go_enter Try.func58, Try.ntmps58
    go_wp2_with (go_at_call 46; (try rw [e2]); refine (HMA.out _).mono ?_; rintro e w1 ⟨rfl, hM⟩; have HF1 := Hold.mk (HF.out.later hM); have HZ1 : Hold (w.heap.size + 2 ≤ w1.heap.size) := ⟨by have := hM.size; rw [allocL_size] at this; simp only [List.length_cons, List.length_nil] at this; omega⟩; clear hM)
    clear t0 t1 t2 t3 t4 t5 t6
    have HI0 : Hold (TaI B w ao cap b t so oo L1 L2 0 (.slice none 0 0) w1) := ⟨HF1.out.now, World.ownsRow_nil _ _ _ _, HZ1.out⟩
    go_loopw [10, 22] (fun v i wr => ∃ k : Nat, k ≤ L1.length ∧ i = .int .i64 k ∧ TaI B w ao cap b t so oo L1 L2 k v wr) (fun _ i _ => L1.length - (intOf i).toNat)
    case atStart => exact ⟨0, Nat.zero_le _, rfl, HI0.out⟩
    case round =>
      obtain ⟨k, hk, rfl, hI⟩ := hrel
      obtain ⟨ao1, cap1, rfl⟩ := own_form hI.r
      have HI := Hold.mk hI
      clear hI
      by_cases hlt : k < L1.length
      · obtain ⟨x, hx⟩ : ∃ x, L1[k]? = some x := ⟨_, List.getElem?_eq_getElem hlt⟩
        obtain ⟨rb, roff, rfl, _, p0, p1, p2, p3⟩ := HI.out.f.s.list hx
        obtain ⟨W4, hW4⟩ : ∃ W4, wr.alloc (.cells #[.int .i64 (x[0]?.getD 0), .int .i64 (x[1]?.getD 0), .int .i64 (x[2]?.getD 0), .int .i64 (x[3]?.getD 0)] 77) = W4 := ⟨_, rfl⟩
        have hm4 : Mod noB wr W4 := by rw [← hW4]; exact (Mod.refl _ _).alloc _
        have hd4 : W4.heap[wr.heap.size]? = some (.cells (liC x) 77) := by rw [← hW4]; exact World.alloc_heap_new _ _
        have HI4 := Hold.mk (HI.out.skip HB.out hm4)
        obtain ⟨b0, b1, b2, b3, b4⟩ := HI4.out.f.bx.cells
        obtain ⟨x0, x1, x2, x3⟩ := li_cells hd4
        have HXX := Hold.mk (And.intro hx (HK1.out x (List.mem_of_getElem? hx)))
        have HRx := Hold.mk (HR.out x W4 HXX.out.2 HI4.out.f)
        obtain ⟨rm, hrm⟩ : ∃ rm, readM b x t = rm := ⟨_, rfl⟩
        rw [hrm] at HRx
        have HRM := Hold.mk hrm
        clear hx hm4 hd4 hrm
        go_wp2_with (first
          | (go_at_call 98; (try rw [hW4]); refine (HRx.out).mono ?_; rintro e w5 ⟨rfl, hM⟩; have HI5 := Hold.mk (HI4.out.skip HB.out hM); clear hM)
          | (at_builtin; refine wpList_append_own_at _ rfl (.tmp 26) (.tmp 31) 124 rfl (w.heap.size + 2) 78 j0 (spV (0, 0)) 2 16 Try.underlying124 hj hy0 hy1 hy2 rfl (by decide) _ k (flatC spC ((L1.take k).map fun x => readM b x t)) rfl (World.ownsRow.alloc HI5.out.r _) ⟨w5.heap.size, 0, none⟩ 1 1 (spC rm).toList rfl rfl (new_cells w5 (spC rm) 78) (by simp [Value.oneCell']) (by unfold maxLen; omega) (by omega) (by have := HI5.out.z; simp; omega) ?_; intro v6 w6 hown hgr _ _
             have HI6 := Hold.mk (HI5.out.next HB.out HXX.out.1 ((Mod.refl noB w5).alloc _) hgr (by rw [HRM.out]; exact hown))
             clear hown hgr))
        go_roundw
        case rel => exact ⟨k + 1, by omega, by go_num, HI6.out⟩
        case measure => simp [intOf]; omega
      · obtain rfl : k = L1.length := by omega
        have hrow := HI.out.r
        rw [List.take_length] at hrow
        obtain ⟨R, hR⟩ : ∃ R, (L1.map fun x => readM b x t) = R := ⟨_, rfl⟩
        rw [hR] at hrow
        have hlR : L1.length = R.length := by rw [← hR, List.length_map]
        obtain ⟨a3, c3, e3, hla, _⟩ := own_list (l := R) (cs := spC) (sz := 2) (fun _ => rfl) (by rw [← hlR]; exact hrow) (by omega)
        rw [← hlR] at e3
        cases e3
        have HLA := Hold.mk hla
        have HRE := Hold.mk hR
        have HWR := Hold.mk HI.out.f
        have hnR := hlR
        generalize hln : L1.length = NL at *
        have HLR := Hold.mk hlR
        clear hrow hla hR HI HI0 hlR hnR
        generalize wr = wx at *
        go_wp2
        go_loopw [36] (fun i wr => ∃ k : Nat, k ≤ L2.length ∧ i = .int .i64 k ∧ Hold (∀ j x, j < k → L2[j]? = some x → (R.all fun r => !meetsB (readM b x t) r) = true) ∧ Mod noB wx wr) (fun i _ => L2.length - (intOf i).toNat)
        case atStart => exact ⟨0, Nat.zero_le _, rfl, ⟨fun j _ hj => absurd hj (Nat.not_lt_zero _)⟩, Mod.refl _ _⟩
        case round =>
          obtain ⟨k, hk, rfl, H0, hmr⟩ := hrel
          have HMM := Hold.mk hmr
          clear hmr
          by_cases hlt : k < L2.length
          · obtain ⟨x, hx⟩ : ∃ x, L2[k]? = some x := ⟨_, List.getElem?_eq_getElem hlt⟩
            have hfr := HWR.out.turn HB.out (HMM.out.wider (fun _ _ h => h.elim))
            obtain ⟨rb, roff, rfl, _, p0, p1, p2, p3⟩ := hfr.o.list hx
            obtain ⟨W4, hW4⟩ : ∃ W4, wr.alloc (.cells #[.int .i64 (x[0]?.getD 0), .int .i64 (x[1]?.getD 0), .int .i64 (x[2]?.getD 0), .int .i64 (x[3]?.getD 0)] 77) = W4 := ⟨_, rfl⟩
            have hm4 : Mod noB wr W4 := by rw [← hW4]; exact (Mod.refl _ _).alloc _
            have hd4 : W4.heap[wr.heap.size]? = some (.cells (liC x) 77) := by rw [← hW4]; exact World.alloc_heap_new _ _
            have hf4 := hfr.turn HB.out (hm4.wider (fun _ _ h => h.elim))
            obtain ⟨b0, b1, b2, b3, b4⟩ := hf4.bx.cells
            obtain ⟨x0, x1, x2, x3⟩ := li_cells hd4
            have HXX := Hold.mk (And.intro hx (HK2.out x (List.mem_of_getElem? hx)))
            have HRx := Hold.mk (HR.out x W4 HXX.out.2 hf4)
            obtain ⟨rm, hrm⟩ : ∃ rm, readM b x t = rm := ⟨_, rfl⟩
            rw [hrm] at HRx
            have HRM := Hold.mk hrm
            have HM4 := Hold.mk (HMM.out.trans hm4)
            clear hx hm4 hd4 hrm hf4 hfr
            go_wp2_with (go_at_call 98; (try rw [hW4]); refine (HRx.out).mono ?_; rintro e w5 ⟨rfl, hM⟩; have HM5 := Hold.mk (HM4.out.trans hM); clear hM)
            obtain ⟨W6, hW6⟩ : ∃ W6, w5.alloc (.cells #[.int .i64 rm.1, .int .i64 rm.2] 78) = W6 := ⟨_, rfl⟩
            have hm6 : Mod noB w5 W6 := by rw [← hW6]; exact (Mod.refl _ _).alloc _
            have hd6 : W6.heap[w5.heap.size]? = some (.cells (spC rm) 78) := by rw [← hW6]; exact World.alloc_heap_new _ _
            have HM6 := Hold.mk (HM5.out.trans hm6)
            have HD6 := Hold.mk hd6
            (try rw [hW6])
            clear b0 b1 b2 b3 b4 x0 x1 x2 x3 p0 p1 p2 p3 hm6 hd6
            go_loopw [46] (fun i wr => ∃ k2 : Nat, k2 ≤ R.length ∧ i = .int .i64 k2 ∧ Hold (∀ j r, j < k2 → R[j]? = some r → meetsB rm r = false) ∧ Mod noB W6 wr) (fun i _ => R.length - (intOf i).toNat)
            case atStart => exact ⟨0, Nat.zero_le _, rfl, ⟨fun j _ hj => absurd hj (Nat.not_lt_zero _)⟩, Mod.refl _ _⟩
            case round =>
              obtain ⟨k2, hk2, rfl, H2, hmr⟩ := hrel
              have HMI := Hold.mk hmr
              clear hmr
              by_cases hlt2 : k2 < R.length
              · obtain ⟨r, hr⟩ : ∃ r, R[k2]? = some r := ⟨_, List.getElem?_eq_getElem hlt2⟩
                obtain ⟨sb, soff, rfl, _, p0, p1⟩ := (HLA.out.low (Low.ofN (HM6.out.trans HMI.out) (Nat.le_refl _))).span hr
                obtain ⟨W7, hW7⟩ : ∃ W7, wr.alloc (.cells #[.int .i64 r.1, .int .i64 r.2] 78) = W7 := ⟨_, rfl⟩
                have hm7 : Mod noB wr W7 := by rw [← hW7]; exact (Mod.refl _ _).alloc _
                have hd7 : W7.heap[wr.heap.size]? = some (.cells (spC r) 78) := by rw [← hW7]; exact World.alloc_heap_new _ _
                obtain ⟨s0, s1⟩ := sp_cells hd7
                obtain ⟨r0, r1⟩ := sp_cells ((HMI.out.trans hm7).at HD6.out id)
                have HM7 := Hold.mk (HMI.out.trans hm7)
                obtain ⟨v, hv⟩ : ∃ v, meetsB rm r = v := ⟨_, rfl⟩
                have HP : Hold (∀ w, Calls Try.prog 78 #[spV rm, spV r] w fun e w2 => e = .returned (.bool v) ∧ Mod noB w w2) := ⟨fun w => by rw [← hv]; exact HME.out _ _ w⟩
                have HV := Hold.mk (And.intro hv hr)
                clear hv hr hm7 hd7
                have hlt3 : k2 < NL := by have := HLR.out; omega
                cases v with
                | true =>
                  go_wp2_with (go_at_call 78; (try rw [hW7]); refine (HP.out _).mono ?_; rintro e w8 ⟨rfl, hM⟩; have HM8 := Hold.mk (HM7.out.trans hM); clear hM)
                  go_ret
                  exact ⟨by
                    have hf : (R.all fun r => !meetsB (readM b x t) r) = false := by
                      rw [List.all_eq_false]; exact ⟨r, List.mem_of_getElem? HV.out.2, by rw [HRM.out, HV.out.1]; simp⟩
                    have : apartB b t L1 L2 = false := by
                      rw [apartB, List.all_eq_false]
                      refine ⟨x, List.mem_of_getElem? HXX.out.1, ?_⟩
                      rw [← HRE.out, List.all_map] at hf
                      have hf2 : (L1.all fun r => !meetsB (readM b x t) (readM b r t)) = false := hf
                      rw [hf2]; simp
                    rw [this]; rfl, HWR.out.w.trans (HM6.out.trans HM8.out)⟩
                | false =>
                  go_wp2_with (go_at_call 78; (try rw [hW7]); refine (HP.out _).mono ?_; rintro e w8 ⟨rfl, hM⟩; have HM8 := Hold.mk (HM7.out.trans hM); clear hM)
                  go_roundw
                  case rel => exact ⟨k2 + 1, by omega, by go_num, ⟨fun j y hj hy => by
                    rcases Nat.lt_succ_iff_lt_or_eq.1 hj with h | rfl
                    · exact H2.out j y h hy
                    · rw [HV.out.2] at hy; cases hy; exact HV.out.1⟩, HM8.out⟩
                  case measure => simp [intOf]; omega
              · have hlt3 : ¬ k2 < NL := by have := HLR.out; omega
                have hall : Hold ((R.all fun r => !meetsB (readM b x t) r) = true) := ⟨by
                  rw [List.all_eq_true]
                  intro r hr
                  obtain ⟨j, hj⟩ := List.mem_iff_getElem?.1 hr
                  have hjl := (List.getElem?_eq_some_iff.1 hj).1
                  rw [HRM.out, H2.out j r (by omega) hj]; rfl⟩
                go_wp2
                go_roundw
                case rel => exact ⟨k + 1, by omega, by go_num, ⟨fun j y hj hy => by
                  rcases Nat.lt_succ_iff_lt_or_eq.1 hj with h | rfl
                  · exact H0.out j y h hy
                  · rw [HXX.out.1] at hy; cases hy; exact hall.out⟩, HM6.out.trans HMI.out⟩
                case measure => simp [intOf]; omega
          · obtain rfl : k = L2.length := by omega
            go_wp2
            go_ret
            exact ⟨by
              have : apartB b t L1 L2 = true := by
                rw [apartB, List.all_eq_true]
                intro x hx
                obtain ⟨j, hj⟩ := List.mem_iff_getElem?.1 hx
                have h3 := H0.out j x (List.getElem?_eq_some_iff.1 hj).1 hj
                rw [← HRE.out, List.all_map] at h3
                exact h3
              rw [this]; rfl, HWR.out.w.trans HMM.out⟩
  · rw [machV, if_neg hh] at HMA
    have HR := Hold.mk (fun (x : List Int) (W : World) (hx : ListOk b x) (h : TaF B w ao cap b t so oo L1 L2 W) => (HRD.out x W hx h).2 hh)
    clear HRD hh
    go_enter Try.func58, Try.ntmps58
    go_wp2_with (go_at_call 46; (try rw [e2]); refine (HMA.out _).mono ?_; rintro e w1 ⟨rfl, hM⟩; have HF1 := Hold.mk (HF.out.later hM); have HZ1 : Hold (w.heap.size + 2 ≤ w1.heap.size) := ⟨by have := hM.size; rw [allocL_size] at this; simp only [List.length_cons, List.length_nil] at this; omega⟩; clear hM)
    clear t0 t1 t2 t3 t4 t5 t6
    have HI0 : Hold (TaI B w ao cap b t so oo L1 L2 0 (.slice none 0 0) w1) := ⟨HF1.out.now, World.ownsRow_nil _ _ _ _, HZ1.out⟩
    go_loopw [10, 22] (fun v i wr => ∃ k : Nat, k ≤ L1.length ∧ i = .int .i64 k ∧ TaI B w ao cap b t so oo L1 L2 k v wr) (fun _ i _ => L1.length - (intOf i).toNat)
    case atStart => exact ⟨0, Nat.zero_le _, rfl, HI0.out⟩
    case round =>
      obtain ⟨k, hk, rfl, hI⟩ := hrel
      obtain ⟨ao1, cap1, rfl⟩ := own_form hI.r
      have HI := Hold.mk hI
      clear hI
      by_cases hlt : k < L1.length
      · obtain ⟨x, hx⟩ : ∃ x, L1[k]? = some x := ⟨_, List.getElem?_eq_getElem hlt⟩
        obtain ⟨rb, roff, rfl, _, p0, p1, p2, p3⟩ := HI.out.f.s.list hx
        obtain ⟨W4, hW4⟩ : ∃ W4, wr.alloc (.cells #[.int .i64 (x[0]?.getD 0), .int .i64 (x[1]?.getD 0), .int .i64 (x[2]?.getD 0), .int .i64 (x[3]?.getD 0)] 77) = W4 := ⟨_, rfl⟩
        have hm4 : Mod noB wr W4 := by rw [← hW4]; exact (Mod.refl _ _).alloc _
        have hd4 : W4.heap[wr.heap.size]? = some (.cells (liC x) 77) := by rw [← hW4]; exact World.alloc_heap_new _ _
        have HI4 := Hold.mk (HI.out.skip HB.out hm4)
        obtain ⟨b0, b1, b2, b3, b4⟩ := HI4.out.f.bx.cells
        obtain ⟨x0, x1, x2, x3⟩ := li_cells hd4
        have HXX := Hold.mk (And.intro hx (HK1.out x (List.mem_of_getElem? hx)))
        have HRx := Hold.mk (HR.out x W4 HXX.out.2 HI4.out.f)
        obtain ⟨rm, hrm⟩ : ∃ rm, readM b x t = rm := ⟨_, rfl⟩
        rw [hrm] at HRx
        have HRM := Hold.mk hrm
        clear hx hm4 hd4 hrm
        go_wp2_with (first
          | (go_at_call 101; (try rw [hW4]); refine (HRx.out).mono ?_; rintro e w5 ⟨rfl, hM⟩; have HI5 := Hold.mk (HI4.out.skip HB.out hM); clear hM)
          | (at_builtin; refine wpList_append_own_at _ rfl (.tmp 26) (.tmp 31) 124 rfl (w.heap.size + 2) 78 j0 (spV (0, 0)) 2 16 Try.underlying124 hj hy0 hy1 hy2 rfl (by decide) _ k (flatC spC ((L1.take k).map fun x => readM b x t)) rfl (World.ownsRow.alloc HI5.out.r _) ⟨w5.heap.size, 0, none⟩ 1 1 (spC rm).toList rfl rfl (new_cells w5 (spC rm) 78) (by simp [Value.oneCell']) (by unfold maxLen; omega) (by omega) (by have := HI5.out.z; simp; omega) ?_; intro v6 w6 hown hgr _ _
             have HI6 := Hold.mk (HI5.out.next HB.out HXX.out.1 ((Mod.refl noB w5).alloc _) hgr (by rw [HRM.out]; exact hown))
             clear hown hgr))
        go_roundw
        case rel => exact ⟨k + 1, by omega, by go_num, HI6.out⟩
        case measure => simp [intOf]; omega
      · obtain rfl : k = L1.length := by omega
        have hrow := HI.out.r
        rw [List.take_length] at hrow
        obtain ⟨R, hR⟩ : ∃ R, (L1.map fun x => readM b x t) = R := ⟨_, rfl⟩
        rw [hR] at hrow
        have hlR : L1.length = R.length := by rw [← hR, List.length_map]
        obtain ⟨a3, c3, e3, hla, _⟩ := own_list (l := R) (cs := spC) (sz := 2) (fun _ => rfl) (by rw [← hlR]; exact hrow) (by omega)
        rw [← hlR] at e3
        cases e3
        have HLA := Hold.mk hla
        have HRE := Hold.mk hR
        have HWR := Hold.mk HI.out.f
        have hnR := hlR
        generalize hln : L1.length = NL at *
        have HLR := Hold.mk hlR
        clear hrow hla hR HI HI0 hlR hnR
        generalize wr = wx at *
        go_wp2
        go_loopw [36] (fun i wr => ∃ k : Nat, k ≤ L2.length ∧ i = .int .i64 k ∧ Hold (∀ j x, j < k → L2[j]? = some x → (R.all fun r => !meetsB (readM b x t) r) = true) ∧ Mod noB wx wr) (fun i _ => L2.length - (intOf i).toNat)
        case atStart => exact ⟨0, Nat.zero_le _, rfl, ⟨fun j _ hj => absurd hj (Nat.not_lt_zero _)⟩, Mod.refl _ _⟩
        case round =>
          obtain ⟨k, hk, rfl, H0, hmr⟩ := hrel
          have HMM := Hold.mk hmr
          clear hmr
          by_cases hlt : k < L2.length
          · obtain ⟨x, hx⟩ : ∃ x, L2[k]? = some x := ⟨_, List.getElem?_eq_getElem hlt⟩
            have hfr := HWR.out.turn HB.out (HMM.out.wider (fun _ _ h => h.elim))
            obtain ⟨rb, roff, rfl, _, p0, p1, p2, p3⟩ := hfr.o.list hx
            obtain ⟨W4, hW4⟩ : ∃ W4, wr.alloc (.cells #[.int .i64 (x[0]?.getD 0), .int .i64 (x[1]?.getD 0), .int .i64 (x[2]?.getD 0), .int .i64 (x[3]?.getD 0)] 77) = W4 := ⟨_, rfl⟩
            have hm4 : Mod noB wr W4 := by rw [← hW4]; exact (Mod.refl _ _).alloc _
            have hd4 : W4.heap[wr.heap.size]? = some (.cells (liC x) 77) := by rw [← hW4]; exact World.alloc_heap_new _ _
            have hf4 := hfr.turn HB.out (hm4.wider (fun _ _ h => h.elim))
            obtain ⟨b0, b1, b2, b3, b4⟩ := hf4.bx.cells
            obtain ⟨x0, x1, x2, x3⟩ := li_cells hd4
            have HXX := Hold.mk (And.intro hx (HK2.out x (List.mem_of_getElem? hx)))
            have HRx := Hold.mk (HR.out x W4 HXX.out.2 hf4)
            obtain ⟨rm, hrm⟩ : ∃ rm, readM b x t = rm := ⟨_, rfl⟩
            rw [hrm] at HRx
            have HRM := Hold.mk hrm
            have HM4 := Hold.mk (HMM.out.trans hm4)
            clear hx hm4 hd4 hrm hf4 hfr
            go_wp2_with (go_at_call 101; (try rw [hW4]); refine (HRx.out).mono ?_; rintro e w5 ⟨rfl, hM⟩; have HM5 := Hold.mk (HM4.out.trans hM); clear hM)
            obtain ⟨W6, hW6⟩ : ∃ W6, w5.alloc (.cells #[.int .i64 rm.1, .int .i64 rm.2] 78) = W6 := ⟨_, rfl⟩
            have hm6 : Mod noB w5 W6 := by rw [← hW6]; exact (Mod.refl _ _).alloc _
            have hd6 : W6.heap[w5.heap.size]? = some (.cells (spC rm) 78) := by rw [← hW6]; exact World.alloc_heap_new _ _
            have HM6 := Hold.mk (HM5.out.trans hm6)
            have HD6 := Hold.mk hd6
            (try rw [hW6])
            clear b0 b1 b2 b3 b4 x0 x1 x2 x3 p0 p1 p2 p3 hm6 hd6
            go_loopw [46] (fun i wr => ∃ k2 : Nat, k2 ≤ R.length ∧ i = .int .i64 k2 ∧ Hold (∀ j r, j < k2 → R[j]? = some r → meetsB rm r = false) ∧ Mod noB W6 wr) (fun i _ => R.length - (intOf i).toNat)
            case atStart => exact ⟨0, Nat.zero_le _, rfl, ⟨fun j _ hj => absurd hj (Nat.not_lt_zero _)⟩, Mod.refl _ _⟩
            case round =>
              obtain ⟨k2, hk2, rfl, H2, hmr⟩ := hrel
              have HMI := Hold.mk hmr
              clear hmr
              by_cases hlt2 : k2 < R.length
              · obtain ⟨r, hr⟩ : ∃ r, R[k2]? = some r := ⟨_, List.getElem?_eq_getElem hlt2⟩
                obtain ⟨sb, soff, rfl, _, p0, p1⟩ := (HLA.out.low (Low.ofN (HM6.out.trans HMI.out) (Nat.le_refl _))).span hr
                obtain ⟨W7, hW7⟩ : ∃ W7, wr.alloc (.cells #[.int .i64 r.1, .int .i64 r.2] 78) = W7 := ⟨_, rfl⟩
                have hm7 : Mod noB wr W7 := by rw [← hW7]; exact (Mod.refl _ _).alloc _
                have hd7 : W7.heap[wr.heap.size]? = some (.cells (spC r) 78) := by rw [← hW7]; exact World.alloc_heap_new _ _
                obtain ⟨s0, s1⟩ := sp_cells hd7
                obtain ⟨r0, r1⟩ := sp_cells ((HMI.out.trans hm7).at HD6.out id)
                have HM7 := Hold.mk (HMI.out.trans hm7)
                obtain ⟨v, hv⟩ : ∃ v, meetsB rm r = v := ⟨_, rfl⟩
                have HP : Hold (∀ w, Calls Try.prog 78 #[spV rm, spV r] w fun e w2 => e = .returned (.bool v) ∧ Mod noB w w2) := ⟨fun w => by rw [← hv]; exact HME.out _ _ w⟩
                have HV := Hold.mk (And.intro hv hr)
                clear hv hr hm7 hd7
                have hlt3 : k2 < NL := by have := HLR.out; omega
                cases v with
                | true =>
                  go_wp2_with (go_at_call 78; (try rw [hW7]); refine (HP.out _).mono ?_; rintro e w8 ⟨rfl, hM⟩; have HM8 := Hold.mk (HM7.out.trans hM); clear hM)
                  go_ret
                  exact ⟨by
                    have hf : (R.all fun r => !meetsB (readM b x t) r) = false := by
                      rw [List.all_eq_false]; exact ⟨r, List.mem_of_getElem? HV.out.2, by rw [HRM.out, HV.out.1]; simp⟩
                    have : apartB b t L1 L2 = false := by
                      rw [apartB, List.all_eq_false]
                      refine ⟨x, List.mem_of_getElem? HXX.out.1, ?_⟩
                      rw [← HRE.out, List.all_map] at hf
                      have hf2 : (L1.all fun r => !meetsB (readM b x t) (readM b r t)) = false := hf
                      rw [hf2]; simp
                    rw [this]; rfl, HWR.out.w.trans (HM6.out.trans HM8.out)⟩
                | false =>
                  go_wp2_with (go_at_call 78; (try rw [hW7]); refine (HP.out _).mono ?_; rintro e w8 ⟨rfl, hM⟩; have HM8 := Hold.mk (HM7.out.trans hM); clear hM)
                  go_roundw
                  case rel => exact ⟨k2 + 1, by omega, by go_num, ⟨fun j y hj hy => by
                    rcases Nat.lt_succ_iff_lt_or_eq.1 hj with h | rfl
                    · exact H2.out j y h hy
                    · rw [HV.out.2] at hy; cases hy; exact HV.out.1⟩, HM8.out⟩
                  case measure => simp [intOf]; omega
              · have hlt3 : ¬ k2 < NL := by have := HLR.out; omega
                have hall : Hold ((R.all fun r => !meetsB (readM b x t) r) = true) := ⟨by
                  rw [List.all_eq_true]
                  intro r hr
                  obtain ⟨j, hj⟩ := List.mem_iff_getElem?.1 hr
                  have hjl := (List.getElem?_eq_some_iff.1 hj).1
                  rw [HRM.out, H2.out j r (by omega) hj]; rfl⟩
                go_wp2
                go_roundw
                case rel => exact ⟨k + 1, by omega, by go_num, ⟨fun j y hj hy => by
                  rcases Nat.lt_succ_iff_lt_or_eq.1 hj with h | rfl
                  · exact H0.out j y h hy
                  · rw [HXX.out.1] at hy; cases hy; exact hall.out⟩, HM6.out.trans HMI.out⟩
                case measure => simp [intOf]; omega
          · obtain rfl : k = L2.length := by omega
            go_wp2
            go_ret
            exact ⟨by
              have : apartB b t L1 L2 = true := by
                rw [apartB, List.all_eq_true]
                intro x hx
                obtain ⟨j, hj⟩ := List.mem_iff_getElem?.1 hx
                have h3 := H0.out j x (List.getElem?_eq_some_iff.1 hj).1 hj
                rw [← HRE.out, List.all_map] at h3
                exact h3
              rw [this]; rfl, HWR.out.w.trans HMM.out⟩

end Go.Proofs.Ytknbcmildpmokaa

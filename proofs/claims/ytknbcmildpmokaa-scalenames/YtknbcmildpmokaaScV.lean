/- Left. -/
import Derived.Test.YtknbcmildpmokaaScU
import Derived.Laws.AppendOwnNone
set_option linter.unusedSimpArgs false
set_option linter.unusedVariables false
namespace Go.Proofs.Ytknbcmildpmokaa
open Go.RowKit Go.Shelf


theorem info24 : (Try.prog.info? 24).map (fun i => (i.zero, i.size, i.bytes)) = some (some (spV (0, 0)), 2, 16) := by kernel_rfl
theorem JuF.turn {B : Nat} {w : World} {ao : Option Addr} {cap : Nat} {b : Bx} {ro : Option Addr} {l : List Rdg} {to : Option Addr} {ts : List Tst} {W W' : World} (hB : B ≤ w.heap.size) (h : JuF B w ao cap b ro l to ts W) {C : Nat} (hC : w.heap.size < C) (hm : Mod (fun k => C ≤ k) W W') : JuF B w ao cap b ro l to ts W' := by
  have lo : Low B W W' := Low.of hm h.z (fun k hk => by omega)
  exact ⟨⟨hm.at h.b.c (by omega), h.b.k.low lo⟩, h.r.low lo, h.t.low lo, h.w.then hm (fun i hi hk => by omega), Nat.le_trans h.z hm.size⟩
theorem flat_one {l : List (List Int)} : ∀ u ∈ flatC liC l, u.oneCell' = true := by
  intro u hu
  obtain ⟨x, _, hx⟩ := List.mem_flatMap.1 hu
  simp only [List.mem_cons, List.not_mem_nil, or_false] at hx
  rcases hx with rfl | rfl | rfl | rfl <;> rfl
/-- What an owned list is, as the source of an append. -/
theorem own_news {w : World} {base n g cap : Nat} {e : TypeId} {sz : Nat} {xs : List Value} {a : Option Addr} (ha : a = some ⟨g, 0, none⟩) (h : w.ownsRow base e sz (.slice a n cap) n xs) : ∀ (j : Nat) (u : Value), xs[j]? = some u → w.cell? (Addr.add ⟨g, 0, none⟩ j) = some u := by
  subst ha
  obtain ⟨hl, ⟨h1, _⟩ | ⟨g', cap', cur, hv, hb, hh, h1, h2, h3, h4⟩⟩ := h
  · cases h1
  · cases hv
    intro j u hj
    have ea : Addr.add ⟨g, 0, none⟩ j = ⟨g, j, none⟩ := by simp [Addr.add]; omega
    rw [ea, cellsAt hh, ← Array.getElem?_toList]
    have hlt := (List.getElem?_eq_some_iff.1 hj).1
    rw [← h4, List.getElem?_take_of_lt (by omega)] at hj
    exact hj
theorem own_addr {w : World} {base n : Nat} {e : TypeId} {sz : Nat} {v : Value} {xs : List Value} (h : w.ownsRow base e sz v n xs) : (v = .slice none 0 0 ∧ n = 0) ∨ ∃ g cap, v = .slice (some ⟨g, 0, none⟩) n cap := by
  obtain ⟨hl, ⟨h1, h2⟩ | ⟨g', cap', cur, hv, _⟩⟩ := h
  · exact .inl ⟨h1, h2⟩
  · exact .inr ⟨g', cap', hv⟩

/-- Lists of spans, and an error. -/
def SpansOut (L : List (Int × Int)) (er : Int) (w : World) (e : Ending) (w' : World) : Prop := ∃ v, e = .returned (.tuple #[v, .int .i64 er]) ∧ w'.ownsRow w.heap.size 24 2 v L.length (flatC spC L) ∧ Mod noB w w'

/-- Between two rounds of Left. -/
structure LeI (B : Nat) (w : World) (ao : Option Addr) (cap : Nat) (b : Bx) (ro : Option Addr) (l : List Rdg) (C : Nat) (a3 : Option Addr) (L : List (List Int)) (k : Nat) (v : Value) (W : World) : Prop where
  f : JuF B w ao cap b ro l none ([] : List Tst) W
  a : ListsAt C W a3 L
  o : W.ownsRow C 24 2 v k (flatC spC ((List.range k).map (spanK L)))
  z : C ≤ W.heap.size
theorem LeI.next {B : Nat} {w : World} {ao : Option Addr} {cap : Nat} {b : Bx} {ro : Option Addr} {l : List Rdg} {C : Nat} {a3 : Option Addr} {L : List (List Int)} {k : Nat} {v v' : Value} {W w1 w' : World} (hB : B ≤ w.heap.size) (hC : w.heap.size < C) (h : LeI B w ao cap b ro l C a3 L k v W) (h1 : Mod noB W w1) (hg : w1.grownBy w' v.ownBlock)
    (ho : w'.ownsRow C 24 2 v' (k + 1) (flatC spC ((List.range k).map (spanK L)) ++ (spC (spanK L k)).toList)) : LeI B w ao cap b ro l C a3 L (k + 1) v' w' := by
  have m : Mod (fun j => C ≤ j) W w' := (h1.wider (fun _ _ h => h.elim)).then (Mod.of_grownBy hg (fun r hr _ => hr)) (fun i hi hk => (own_block h.o hk).1)
  refine ⟨h.f.turn hB hC m, h.a.low (Low.of m h.z (fun _ h => h)), ?_, Nat.le_trans h.z m.size⟩
  rw [List.range_succ, List.map_append, List.map_cons, List.map_nil, flatC_snoc]
  exact ho

theorem flatC_app {α : Type} (cs : α → Array Value) (l m : List α) : flatC cs (l ++ m) = flatC cs l ++ flatC cs m := by simp [flatC]
theorem left_none {L1 L2 : List (List Int)} {n1 n2 N B : Nat} {v1 : Value} {w : World} (h2 : L2.length = n2) (h0 : n2 = 0) (hN : n1 + n2 = N) (h : w.ownsRow B 77 4 v1 n1 (flatC liC L1)) : w.ownsRow B 77 4 v1 N (flatC liC (L1 ++ L2)) := by
  have : L2 = [] := List.length_eq_zero_iff.1 (by omega)
  subst this
  obtain rfl : n1 = N := by omega
  rw [List.append_nil]; exact h
theorem LeI.begin {B : Nat} {w : World} {ao : Option Addr} {cap : Nat} {b : Bx} {ro : Option Addr} {l : List Rdg} {a3 : Option Addr} {L : List (List Int)} {N cap3 : Nat} {w1 w2 wb : World} (hB : B ≤ w.heap.size) (hw : w.heap.size < w1.heap.size) (h : JuF B w ao cap b ro l none ([] : List Tst) w2) (h2 : Mod noB w1 w2) {T : Nat → Prop} (hm : Mod T w2 wb) (hT : ∀ k, T k → w1.heap.size ≤ k)
    (ho : wb.ownsRow w1.heap.size 77 4 (.slice a3 N cap3) N (flatC liC L)) (hl : L.length = N) (hN : N ≤ 1000000) : LeI B w ao cap b ro l wb.heap.size a3 L 0 (.slice none 0 0) wb := by
  rw [← hl] at ho
  obtain ⟨a4, c4, e4, hla, _⟩ := own_list (l := L) (cs := liC) (sz := 4) (fun _ => rfl) ho (by omega)
  cases e4
  exact ⟨h.turn hB hw (hm.wider (fun i _ hk => hT i hk)), hla, World.ownsRow_nil _ _ _ _, Nat.le_refl _⟩

set_option maxRecDepth 100000 in
set_option maxHeartbeats 8000000 in
theorem left_any (B : Nat) (ao ro : Option Addr) (cap rcap : Nat) (b : Bx) (l : List Rdg) (w : World) (hB : B ≤ w.heap.size) (hs : KindsAt B w ao b.ks) (hr : ReadsAt B w ro l) :
    Calls Try.prog 18 #[bxV ao b.ks.length cap b, .slice ro l.length rcap] w (SpansOut (leftE b l).1 (leftE b l).2 w) := by
  have hls := hr.small
  have hksm := hs.small
  obtain ⟨i0, hi, hz0, hz1, hz2⟩ := info_parts info77
  obtain ⟨j0, hj, hy0, hy1, hy2⟩ := info_parts info24
  have HF : Hold (Kept (w.alloc (.cells (bxC ao b.ks.length cap b) 26)) (fun W => JuF B w ao cap b ro l none ([] : List Tst) W)) := ⟨juF hB hs hr (ListAt.nilL _ _ _ _ _)⟩
  have H48 := Hold.mk (fun (W : World) (h : JuF B w ao cap b ro l none ([] : List Tst) W) => check_any B ao ro none cap rcap 0 b l [] W h.z h.b.k h.r h.t)
  have HB := Hold.mk hB
  have hws : w.heap.size < (w.alloc (.cells (bxC ao b.ks.length cap b) 26)).heap.size := by simp
  by_cases hc : checkE b l [] = 0
  · obtain ⟨hb, h16, _, hrt, _⟩ := check_zero hc
    simp only [hc] at H48
    have H49 := Hold.mk (fun (W : World) (h : JuF B w ao cap b ro l none ([] : List Tst) W) => fitting_any B ao ro cap rcap b l W h.z hb hrt h.b.k h.r)
    have hn1 : (completeL b l).length ≤ 4096 := Nat.le_trans (List.length_filter_le _ _) (allL_len hb)
    have hn2 : (othersL b l).length ≤ 4096 := Nat.le_trans (List.length_filter_le _ _) (allL_len hb)
    have hk4 := (boxB_ks hb).2.1
    have he : Hold (leftE b l = if (completeL b l ++ othersL b l).length = 0 then ([], 6) else ((List.range b.ks.length).map (spanK (completeL b l ++ othersL b l)), 0)) := ⟨by simp [leftE, hc]⟩
    clear hs hr hc hb hrt hB
    obtain ⟨L1, e1⟩ : ∃ n, completeL b l = n := ⟨_, rfl⟩
    obtain ⟨L2, e2⟩ : ∃ n, othersL b l = n := ⟨_, rfl⟩
    simp only [e1, e2] at H49
    rw [e1] at he hn1
    rw [e2] at he hn2
    clear e1 e2
    obtain ⟨n1, e1⟩ : ∃ n, L1.length = n := ⟨_, rfl⟩
    obtain ⟨n2, e2⟩ : ∃ n, L2.length = n := ⟨_, rfl⟩
    rw [e1] at hn1
    rw [e2] at hn2
    have HN := Hold.mk (And.intro e1 e2)
    clear e1 e2
    obtain ⟨N, hN⟩ : ∃ N, n1 + n2 = N := ⟨_, rfl⟩
    have HNN := Hold.mk hN
    have hN4 : N ≤ 8192 := by omega
    have HLL : Hold ((L1 ++ L2).length = N) := ⟨by rw [List.length_append, HN.out.1, HN.out.2, hN]⟩
    clear hN
    obtain ⟨b0, b1, b2, b3, b4⟩ := HF.out.now.b.cells
    by_cases hz : N = 0
    · have hN0 : ((N : Int) == 0) = true := len_z hz
      have hE : Hold (leftE b l = ([], 6)) := ⟨by rw [he.out, HLL.out, if_pos hz]⟩
      clear hz
      go_enter Try.func18, Try.ntmps18
      go_wp2_with (first
        | (go_at_call 48; refine (H48.out _ HF.out.now).mono ?_; rintro e w1 ⟨rfl, hM⟩; have HF1 := Hold.mk (HF.out.later hM); have hw1 := Nat.lt_of_lt_of_le hws hM.size; have HW1 := Hold.mk hw1; clear b0 b1 b2 b3 b4 hw1; obtain ⟨b0, b1, b2, b3, b4⟩ := HF1.out.now.b.cells; clear hM)
        | (go_at_call 49; refine (H49.out _ HF1.out.now).mono ?_; rintro e w2 ⟨v1, v2, rfl, ho1, ho2, hap, hM⟩; rw [HN.out.1] at ho1; rw [HN.out.2] at ho2; have HF2 := Hold.mk (HF1.out.later hM); have HM2 := Hold.mk hM; have HO1 := Hold.mk ho1; have HO2 := Hold.mk ho2; have HAP := Hold.mk hap; rcases own_addr ho2 with ⟨rfl, hn0⟩ | ⟨g2, cap2, rfl⟩ <;> (first | have HN0 := Hold.mk hn0 | have HN1 := Hold.mk True.intro) <;> clear hM ho1 ho2 hap)
        | (at_builtin; have HN0x := HN0; refine wpList_append_own_none rfl (.tmp 24) (.tmp 25) 85 rfl w1.heap.size 77 i0 4 Try.underlying85 hi v1 n1 (flatC liC L1) rfl HO1.out rfl ?_
           have ha := left_none HN.out.2 HN0.out HNN.out HO1.out
           obtain ⟨a3, cap3, rfl⟩ := own_form ha
           have HA := Hold.mk ha
           have HK := Hold.mk (LeI.begin HB.out HW1.out HF2.out.now HM2.out (Mod.refl noB _) (fun _ h => h.elim) ha HLL.out (by omega))
           obtain ⟨d0, d1, d2, d3, d4⟩ := HF2.out.now.b.cells
           clear ha)
        | (at_builtin; have HN1x := HN1; refine wpList_append_own_at _ rfl (.tmp 24) (.tmp 25) 85 rfl w1.heap.size 77 i0 (liV []) 4 32 Try.underlying85 hi hz0 hz1 hz2 rfl (by decide) v1 n1 (flatC liC L1) rfl HO1.out ⟨g2, 0, none⟩ n2 cap2 (flatC liC L2) rfl (by rw [flatC_len (cs := liC) (sz := 4) (fun _ => rfl), HN.out.2]) (own_news rfl HO2.out) flat_one (by unfold maxLen; omega) (by omega) (by have := HM2.out.size; omega) ?_; intro v3 wb hown hgr _ _
           rw [HNN.out] at hown
           have ha : wb.ownsRow w1.heap.size 77 4 v3 N (flatC liC (L1 ++ L2)) := (by rw [flatC_app]; exact hown)
           obtain ⟨a3, cap3, rfl⟩ := own_form ha
           have HA := Hold.mk ha
           have hgm : Mod (fun k => w1.heap.size ≤ k) w2 wb := Mod.of_grownBy hgr (fun r hr _ => (own_block HO1.out hr).1)
           have HK := Hold.mk (LeI.begin HB.out HW1.out HF2.out.now HM2.out hgm (fun _ h => h) ha HLL.out (by omega))
           obtain ⟨d0, d1, d2, d3, d4⟩ := HK.out.f.b.cells
           clear ha hown hgr hgm HF2))
      all_goals
        go_ret2
        exact ⟨_, by rw [hE.out]; rfl, by rw [hE.out]; exact World.ownsRow_nil _ _ _ _, HK.out.f.w⟩
    · have hN0 : ((N : Int) == 0) = false := len_nz hz
      have hE : Hold (leftE b l = ((List.range b.ks.length).map (spanK (L1 ++ L2)), 0)) := ⟨by rw [he.out, HLL.out, if_neg hz]⟩
      have hne : Hold (¬ (L1 ++ L2) = []) := ⟨fun e => by have := HLL.out; rw [e] at this; simp at this; omega⟩
      clear hz
      go_enter Try.func18, Try.ntmps18
      go_wp2_with (first
        | (go_at_call 48; refine (H48.out _ HF.out.now).mono ?_; rintro e w1 ⟨rfl, hM⟩; have HF1 := Hold.mk (HF.out.later hM); have hw1 := Nat.lt_of_lt_of_le hws hM.size; have HW1 := Hold.mk hw1; clear b0 b1 b2 b3 b4 hw1; obtain ⟨b0, b1, b2, b3, b4⟩ := HF1.out.now.b.cells; clear hM)
        | (go_at_call 49; refine (H49.out _ HF1.out.now).mono ?_; rintro e w2 ⟨v1, v2, rfl, ho1, ho2, hap, hM⟩; rw [HN.out.1] at ho1; rw [HN.out.2] at ho2; have HF2 := Hold.mk (HF1.out.later hM); have HM2 := Hold.mk hM; have HO1 := Hold.mk ho1; have HO2 := Hold.mk ho2; have HAP := Hold.mk hap; rcases own_addr ho2 with ⟨rfl, hn0⟩ | ⟨g2, cap2, rfl⟩ <;> (first | have HN0 := Hold.mk hn0 | have HN1 := Hold.mk True.intro) <;> clear hM ho1 ho2 hap)
        | (at_builtin; have HN0x := HN0; refine wpList_append_own_none rfl (.tmp 24) (.tmp 25) 85 rfl w1.heap.size 77 i0 4 Try.underlying85 hi v1 n1 (flatC liC L1) rfl HO1.out rfl ?_
           have ha := left_none HN.out.2 HN0.out HNN.out HO1.out
           obtain ⟨a3, cap3, rfl⟩ := own_form ha
           have HA := Hold.mk ha
           have HK := Hold.mk (LeI.begin HB.out HW1.out HF2.out.now HM2.out (Mod.refl noB _) (fun _ h => h.elim) ha HLL.out (by omega))
           obtain ⟨d0, d1, d2, d3, d4⟩ := HF2.out.now.b.cells
           clear ha)
        | (at_builtin; have HN1x := HN1; refine wpList_append_own_at _ rfl (.tmp 24) (.tmp 25) 85 rfl w1.heap.size 77 i0 (liV []) 4 32 Try.underlying85 hi hz0 hz1 hz2 rfl (by decide) v1 n1 (flatC liC L1) rfl HO1.out ⟨g2, 0, none⟩ n2 cap2 (flatC liC L2) rfl (by rw [flatC_len (cs := liC) (sz := 4) (fun _ => rfl), HN.out.2]) (own_news rfl HO2.out) flat_one (by unfold maxLen; omega) (by omega) (by have := HM2.out.size; omega) ?_; intro v3 wb hown hgr _ _
           rw [HNN.out] at hown
           have ha : wb.ownsRow w1.heap.size 77 4 v3 N (flatC liC (L1 ++ L2)) := (by rw [flatC_app]; exact hown)
           obtain ⟨a3, cap3, rfl⟩ := own_form ha
           have HA := Hold.mk ha
           have hgm : Mod (fun k => w1.heap.size ≤ k) w2 wb := Mod.of_grownBy hgr (fun r hr _ => (own_block HO1.out hr).1)
           have HK := Hold.mk (LeI.begin HB.out HW1.out HF2.out.now HM2.out hgm (fun _ h => h) ha HLL.out (by omega))
           obtain ⟨d0, d1, d2, d3, d4⟩ := HK.out.f.b.cells
           clear ha hown hgr hgm HF2))
      · have hwC : w.heap.size < w2.heap.size := Nat.lt_of_lt_of_le (at_ltS HK.out.f.b.c) (Nat.le_refl _)
        have HWC := Hold.mk hwC
        have H51 := Hold.mk (fun (k : Nat) (W : World) (h : k < 4) (hW : w2.heap.size ≤ W.heap.size) (hl : ListsAt w2.heap.size W a3 (L1 ++ L2)) => by
          have := numbersOf_any w2.heap.size a3 cap3 (L1 ++ L2) k W hW hl hne.out h
          rw [HLL.out] at this
          exact this)
        clear d0 d1 d2 d3 d4 hwC
        go_loopw [10, 33] (fun v i wr => ∃ k : Nat, k ≤ b.ks.length ∧ i = .int .i64 k ∧ LeI B w ao cap b ro l w2.heap.size a3 (L1 ++ L2) k v wr) (fun _ i _ => b.ks.length - (intOf i).toNat)
        case atStart => exact ⟨0, Nat.zero_le _, rfl, HK.out⟩
        case round =>
          obtain ⟨k, hk, rfl, hI⟩ := hrel
          obtain ⟨ao1, cap1, rfl⟩ := own_form hI.o
          have HI := Hold.mk hI
          clear hI
          by_cases hlt : k < b.ks.length
          · go_wp2_with (first
              | (go_at_call 51; refine (H51.out _ _ (by omega) HI.out.z HI.out.a).mono ?_; rintro e w5 ⟨rfl, hM⟩; have HM5 := Hold.mk hM; clear hM)
              | (at_builtin; refine wpList_append_own_at _ rfl (.tmp 36) (.tmp 40) 38 rfl w2.heap.size 24 j0 (spV (0, 0)) 2 16 Try.underlying38 hj hy0 hy1 hy2 rfl (by decide) _ k (flatC spC ((List.range k).map (spanK (L1 ++ L2)))) rfl (World.ownsRow.alloc (own_mod HI.out.o HM5.out) _) ⟨w5.heap.size, 0, none⟩ 1 1 (spC (spanK (L1 ++ L2) k)).toList rfl rfl (new_cells w5 (spC (spanK (L1 ++ L2) k)) 24) (by simp [Value.oneCell']) (by unfold maxLen; omega) (by omega) (by have := HI.out.z; have := HM5.out.size; simp; omega) ?_; intro v6 w6 hown hgr _ _
                 have HI6 := Hold.mk (HI.out.next HB.out HWC.out (HM5.out.alloc _) hgr hown)
                 clear hown hgr))
            go_roundw
            case rel => exact ⟨k + 1, by omega, by go_num, HI6.out⟩
            case measure => simp [intOf]; omega
          · obtain rfl : k = b.ks.length := by omega
            have HR : Hold (SpansOut ((List.range b.ks.length).map (spanK (L1 ++ L2))) 0 w (.returned (.tuple #[.slice ao1 b.ks.length cap1, .int .i64 0])) wr) := ⟨_, rfl, by
              rw [List.length_map, List.length_range]
              exact own_mono HI.out.o (Nat.le_of_lt HWC.out), HI.out.f.w⟩
            go_wp2
            go_ret2
            rw [hE.out]
            exact HR.out
      · have hwC : w.heap.size < wb.heap.size := Nat.lt_of_lt_of_le (at_ltS HK.out.f.b.c) (Nat.le_refl _)
        have HWC := Hold.mk hwC
        have H51 := Hold.mk (fun (k : Nat) (W : World) (h : k < 4) (hW : wb.heap.size ≤ W.heap.size) (hl : ListsAt wb.heap.size W a3 (L1 ++ L2)) => by
          have := numbersOf_any wb.heap.size a3 cap3 (L1 ++ L2) k W hW hl hne.out h
          rw [HLL.out] at this
          exact this)
        clear d0 d1 d2 d3 d4 hwC
        go_loopw [10, 33] (fun v i wr => ∃ k : Nat, k ≤ b.ks.length ∧ i = .int .i64 k ∧ LeI B w ao cap b ro l wb.heap.size a3 (L1 ++ L2) k v wr) (fun _ i _ => b.ks.length - (intOf i).toNat)
        case atStart => exact ⟨0, Nat.zero_le _, rfl, HK.out⟩
        case round =>
          obtain ⟨k, hk, rfl, hI⟩ := hrel
          obtain ⟨ao1, cap1, rfl⟩ := own_form hI.o
          have HI := Hold.mk hI
          clear hI
          by_cases hlt : k < b.ks.length
          · go_wp2_with (first
              | (go_at_call 51; refine (H51.out _ _ (by omega) HI.out.z HI.out.a).mono ?_; rintro e w5 ⟨rfl, hM⟩; have HM5 := Hold.mk hM; clear hM)
              | (at_builtin; refine wpList_append_own_at _ rfl (.tmp 36) (.tmp 40) 38 rfl wb.heap.size 24 j0 (spV (0, 0)) 2 16 Try.underlying38 hj hy0 hy1 hy2 rfl (by decide) _ k (flatC spC ((List.range k).map (spanK (L1 ++ L2)))) rfl (World.ownsRow.alloc (own_mod HI.out.o HM5.out) _) ⟨w5.heap.size, 0, none⟩ 1 1 (spC (spanK (L1 ++ L2) k)).toList rfl rfl (new_cells w5 (spC (spanK (L1 ++ L2) k)) 24) (by simp [Value.oneCell']) (by unfold maxLen; omega) (by omega) (by have := HI.out.z; have := HM5.out.size; simp; omega) ?_; intro v6 w6 hown hgr _ _
                 have HI6 := Hold.mk (HI.out.next HB.out HWC.out (HM5.out.alloc _) hgr hown)
                 clear hown hgr))
            go_roundw
            case rel => exact ⟨k + 1, by omega, by go_num, HI6.out⟩
            case measure => simp [intOf]; omega
          · obtain rfl : k = b.ks.length := by omega
            have HR : Hold (SpansOut ((List.range b.ks.length).map (spanK (L1 ++ L2))) 0 w (.returned (.tuple #[.slice ao1 b.ks.length cap1, .int .i64 0])) wr) := ⟨_, rfl, by
              rw [List.length_map, List.length_range]
              exact own_mono HI.out.o (Nat.le_of_lt HWC.out), HI.out.f.w⟩
            go_wp2
            go_ret2
            rw [hE.out]
            exact HR.out
  · have he : Hold (leftE b l = ([], checkE b l [])) := ⟨by simp [leftE, hc]⟩
    have hne : (checkE b l [] != 0) = true := by simpa using hc
    have hne2 : (checkE b l [] == 0) = false := by simpa using hc
    clear hs hr hc
    generalize checkE b l [] = ck at *
    obtain ⟨b0, b1, b2, b3, b4⟩ := HF.out.now.b.cells
    go_enter Try.func18, Try.ntmps18
    go_wp2_with (go_at_call 48; refine (H48.out _ HF.out.now).mono ?_; rintro e w1 ⟨rfl, hM⟩; have HF1 := Hold.mk (HF.out.later hM); clear hM)
    go_ret2
    exact ⟨_, by rw [he.out]; rfl, by rw [he.out]; exact World.ownsRow_nil _ _ _ _, HF1.out.now.w⟩

end Go.Proofs.Ytknbcmildpmokaa

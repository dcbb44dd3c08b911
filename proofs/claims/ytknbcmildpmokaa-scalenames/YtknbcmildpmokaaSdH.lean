/- Next. -/
import Derived.Test.YtknbcmildpmokaaSdG
set_option linter.unusedSimpArgs false
set_option linter.unusedVariables false
namespace Go.Proofs.Ytknbcmildpmokaa
open Go.RowKit Go.Shelf Go.Maps


theorem offersL_snoc (b : Bx) (c o : List (List Int)) (t : Tst) : ∀ (ts : List Tst) (i : Nat), offersL b c o i (ts ++ [t]) = offersL b c o i ts ++ (if apartB b t c o then [(((i + ts.length : Nat) : Int), t.cost)] else []) := by
  intro ts
  induction ts with
  | nil => intro i; simp [offersL]
  | cons s ts ih =>
    intro i
    rw [List.cons_append, offersL, offersL, ih, List.length_cons, List.append_assoc]
    have : i + 1 + ts.length = i + (ts.length + 1) := by omega
    rw [this]
def offN (b : Bx) (c o : List (List Int)) (ts : List Tst) (k : Nat) : List (Int × Int) := offersL b c o 0 (ts.take k)
theorem offN_next {b : Bx} {c o : List (List Int)} {ts : List Tst} {k : Nat} {t : Tst} (h : ts[k]? = some t) : offN b c o ts (k + 1) = offN b c o ts k ++ (if apartB b t c o then [((k : Int), t.cost)] else []) := by
  have hk := (List.getElem?_eq_some_iff.1 h).1
  unfold offN
  rw [take_snoc' h, offersL_snoc, List.length_take, Nat.min_eq_left (by omega), Nat.zero_add]
theorem offN_all (b : Bx) (c o : List (List Int)) (ts : List Tst) : offN b c o ts ts.length = offersL b c o 0 ts := by rw [offN, List.take_length]
theorem offersL_len (b : Bx) (c o : List (List Int)) : ∀ (ts : List Tst) (i : Nat), (offersL b c o i ts).length ≤ ts.length := by
  intro ts
  induction ts with
  | nil => intro i; simp [offersL]
  | cons s ts ih =>
    intro i
    have := ih (i + 1)
    rw [offersL, List.length_append, List.length_cons]
    split <;> simp <;> omega
theorem offN_len (b : Bx) (c o : List (List Int)) (ts : List Tst) (k : Nat) : (offN b c o ts k).length ≤ ts.length := Nat.le_trans (offersL_len b c o _ _) (by rw [List.length_take]; omega)
theorem listOk {b : Bx} (hb : boxB b = true) {x : List Int} (h : x ∈ allL b) : ListOk b x := ⟨(allL_mem hb h).1, fun n hn => by have := (allL_mem hb h).2 n hn; omega⟩
/-- Between two rounds. -/
structure NeI (B : Nat) (w : World) (ao : Option Addr) (cap : Nat) (b : Bx) (ro : Option Addr) (l : List Rdg) (to : Option Addr) (ts : List Tst) (C : Nat) (a1 a2 : Option Addr) (L1 L2 : List (List Int)) (n : Nat) (L : List (Int × Int)) (v : Value) (W : World) : Prop where
  f : JuF B w ao cap b ro l to ts W
  c : ListsAt C W a1 L1
  d : ListsAt C W a2 L2
  o : W.ownsRow C 94 2 v n (flatC spC L)
  z : C ≤ W.heap.size
theorem NeI.skip {B : Nat} {w : World} {ao : Option Addr} {cap : Nat} {b : Bx} {ro : Option Addr} {l : List Rdg} {to : Option Addr} {ts : List Tst} {C : Nat} {a1 a2 : Option Addr} {L1 L2 : List (List Int)} {n : Nat} {L : List (Int × Int)} {v : Value} {W W' : World} (hB : B ≤ w.heap.size) (hC : w.heap.size < C)
    (h : NeI B w ao cap b ro l to ts C a1 a2 L1 L2 n L v W) (hm : Mod noB W W') : NeI B w ao cap b ro l to ts C a1 a2 L1 L2 n L v W' :=
  ⟨h.f.turn hB hC (hm.wider (fun _ _ h => h.elim)), h.c.low (Low.ofN hm h.z), h.d.low (Low.ofN hm h.z), own_mod h.o hm, Nat.le_trans h.z hm.size⟩
theorem NeI.next {B : Nat} {w : World} {ao : Option Addr} {cap : Nat} {b : Bx} {ro : Option Addr} {l : List Rdg} {to : Option Addr} {ts : List Tst} {C : Nat} {a1 a2 : Option Addr} {L1 L2 : List (List Int)} {n : Nat} {L : List (Int × Int)} {x : Int × Int} {v v' : Value} {W w1 w' : World} (hB : B ≤ w.heap.size) (hC : w.heap.size < C)
    (h : NeI B w ao cap b ro l to ts C a1 a2 L1 L2 n L v W) (h1 : Mod noB W w1) (hg : w1.grownBy w' v.ownBlock) (ho : w'.ownsRow C 94 2 v' (n + 1) (flatC spC L ++ (spC x).toList)) : NeI B w ao cap b ro l to ts C a1 a2 L1 L2 (n + 1) (L ++ [x]) v' w' := by
  have m : Mod (fun j => C ≤ j) W w' := (h1.wider (fun _ _ h => h.elim)).then (Mod.of_grownBy hg (fun r hr _ => hr)) (fun i hi hk => (own_block h.o hk).1)
  have lo : Low C W w' := Low.of m h.z (fun _ h => h)
  refine ⟨h.f.turn hB hC m, h.c.low lo, h.d.low lo, ?_, Nat.le_trans h.z m.size⟩
  rw [flatC_snoc]
  exact ho

set_option maxRecDepth 100000 in
set_option maxHeartbeats 8000000 in
theorem next_any (B : Nat) (ao ro to : Option Addr) (cap rcap tcap : Nat) (b : Bx) (l : List Rdg) (ts : List Tst) (w : World) (hB : B ≤ w.heap.size) (hs : KindsAt B w ao b.ks) (hr : ReadsAt B w ro l) (ht : TestsAt B w to ts) :
    Calls Try.prog 25 #[bxV ao b.ks.length cap b, .slice ro l.length rcap, .slice to ts.length tcap] w fun e w' => e = .returned (.tuple #[.int .i64 (nextE b l ts).1, .int .i64 (nextE b l ts).2]) ∧ Mod noB w w' := by
  have hls := hr.small
  have hts := ht.small
  have hksm := hs.small
  obtain ⟨j0, hj, hy0, hy1, hy2⟩ := info_parts info94
  have HF : Hold (Kept (w.alloc (.cells (bxC ao b.ks.length cap b) 26)) (fun W => JuF B w ao cap b ro l to ts W)) := ⟨juF hB hs hr ht⟩
  have hws : w.heap.size < (w.alloc (.cells (bxC ao b.ks.length cap b) 26)).heap.size := by simp
  have HWS := Hold.mk hws
  have H48 := Hold.mk (fun (W : World) (h : JuF B w ao cap b ro l to ts W) => check_any B ao ro to cap rcap tcap b l ts W h.z h.b.k h.r h.t)
  have HB := Hold.mk hB
  obtain ⟨b0, b1, b2, b3, b4⟩ := HF.out.now.b.cells
  clear hws
  by_cases hc : checkE b l ts = 0
  · obtain ⟨hb, h16, h8, hrt, htt⟩ := check_zero hc
    simp only [hc] at H48
    have H49 := Hold.mk (fun (W : World) (h : JuF B w ao cap b ro l to ts W) => fitting_any B ao ro cap rcap b l W h.z hb hrt h.b.k h.r)
    have hn1 : (completeL b l).length ≤ 4096 := Nat.le_trans (List.length_filter_le _ _) (allL_len hb)
    have hn2 : (othersL b l).length ≤ 4096 := Nat.le_trans (List.length_filter_le _ _) (allL_len hb)
    have hk1 : ∀ x ∈ completeL b l, ListOk b x := fun x hx => listOk hb (List.mem_filter.1 hx).1
    have hk2 : ∀ x ∈ othersL b l, ListOk b x := fun x hx => listOk hb (List.mem_filter.1 hx).1
    have he0 : nextE b l ts = if (completeL b l).length = 0 ∨ (othersL b l).length = 0 then ((0 : Int), (6 : Int)) else match cheapest (offersL b (completeL b l) (othersL b l) 0 ts) with | some o => (o.1, (0 : Int)) | none => ((0 : Int), (4 : Int)) := by
      rw [nextE, if_pos hc]
      split
      · rfl
      · cases cheapest (offersL b (completeL b l) (othersL b l) 0 ts) <;> rfl
    obtain ⟨L1, e1⟩ : ∃ n, completeL b l = n := ⟨_, rfl⟩
    obtain ⟨L2, e2⟩ : ∃ n, othersL b l = n := ⟨_, rfl⟩
    simp only [e1, e2] at H49
    rw [e1, e2] at he0
    rw [e1] at hn1 hk1
    rw [e2] at hn2 hk2
    clear e1 e2
    have H58 := Hold.mk (fun (C : Nat) (a1 a2 : Option Addr) (c1 c2 : Nat) (t : Tst) (W : World) (ht2 : t ∈ ts) (hC : B ≤ C) (hz : C ≤ W.heap.size) (hs : KindsAt B W ao b.ks) (h1 : ListsAt C W a1 L1) (h2 : ListsAt C W a2 L2) =>
      tellsApart_any C ao a1 a2 cap c1 c2 b t L1 L2 W hz hb (htt t ht2) (hs.mono hC) h1 h2 hk1 hk2 hn1)
    have hcost : ∀ t ∈ ts, 0 ≤ t.cost ∧ t.cost ≤ 10000 := fun t ht2 => (test_parts (htt t ht2) (boxB_ks hb).2.1).2.2.2.2
    clear hs hr ht hc hb hrt htt hk1 hk2 hcost
    have HLN := Hold.mk (And.intro hn1 hn2)
    obtain ⟨n1, e1⟩ : ∃ n, L1.length = n := ⟨_, rfl⟩
    obtain ⟨n2, e2⟩ : ∃ n, L2.length = n := ⟨_, rfl⟩
    rw [e1] at hn1 he0
    rw [e2] at hn2 he0
    have HN := Hold.mk (And.intro e1 e2)
    clear e1 e2
    by_cases hz : n1 = 0 ∨ n2 = 0
    · have he : Hold (nextE b l ts = (0, 6)) := ⟨by rw [he0, if_pos hz]⟩
      clear he0
      by_cases hz1 : n1 = 0
      · have g1 := len_z hz1
        clear hz hz1
        go_enter Try.func25, Try.ntmps25
        go_wp2_with (first
          | (go_at_call 48; refine (H48.out _ HF.out.now).mono ?_; rintro e w1 ⟨rfl, hM⟩; have HF1 := Hold.mk (HF.out.later hM); clear b0 b1 b2 b3 b4; obtain ⟨b0, b1, b2, b3, b4⟩ := HF1.out.now.b.cells; clear hM)
          | (go_at_call 49; refine (H49.out _ HF1.out.now).mono ?_; rintro e w2 ⟨v1, v2, rfl, ho1, ho2, _, hM⟩; obtain ⟨ao1, cap1, rfl⟩ := own_form ho1; obtain ⟨ao2, cap2, rfl⟩ := own_form ho2; have HF2 := Hold.mk (HF1.out.later hM); simp only [HN.out.1, HN.out.2]; clear hM ho1 ho2))
        go_ret2
        exact ⟨by rw [he.out]; rfl, HF2.out.now.w⟩
      · have g1 := len_nz hz1
        have g2 := len_z (hz.resolve_left hz1)
        clear hz hz1
        go_enter Try.func25, Try.ntmps25
        go_wp2_with (first
          | (go_at_call 48; refine (H48.out _ HF.out.now).mono ?_; rintro e w1 ⟨rfl, hM⟩; have HF1 := Hold.mk (HF.out.later hM); clear b0 b1 b2 b3 b4; obtain ⟨b0, b1, b2, b3, b4⟩ := HF1.out.now.b.cells; clear hM)
          | (go_at_call 49; refine (H49.out _ HF1.out.now).mono ?_; rintro e w2 ⟨v1, v2, rfl, ho1, ho2, _, hM⟩; obtain ⟨ao1, cap1, rfl⟩ := own_form ho1; obtain ⟨ao2, cap2, rfl⟩ := own_form ho2; have HF2 := Hold.mk (HF1.out.later hM); simp only [HN.out.1, HN.out.2]; clear hM ho1 ho2))
        go_ret2
        exact ⟨by rw [he.out]; rfl, HF2.out.now.w⟩
    · have he : Hold (nextE b l ts = match cheapest (offersL b L1 L2 0 ts) with | some o => (o.1, (0 : Int)) | none => ((0 : Int), (4 : Int))) := ⟨by
        rw [he0, if_neg hz]⟩
      have g1 := len_nz (fun h => hz (.inl h))
      have g2 := len_nz (fun h => hz (.inr h))
      clear he0 hz
      have H55 : Hold (∀ (v : Value) (C n : Nat) (L : List (Int × Int)) (W : World), W.ownsRow C 94 2 v n (flatC spC L) → n = L.length → L.length ≤ 8 → Calls Try.prog 55 #[v] W fun e w' => e = .returned (.tuple #[spV (bestO L), .bool (cheapest L).isSome]) ∧ Mod noB W w') := ⟨fun v C n L W h hn h8 => by
        subst hn
        obtain ⟨ao2, cap2, e2, hla, _⟩ := own_list (l := L) (cs := spC) (sz := 2) (fun _ => rfl) h (by omega)
        have := cheapest_any W.heap.size ao2 cap2 L W (Nat.le_refl _) hla
        rw [← e2] at this
        exact this⟩
      go_enter Try.func25, Try.ntmps25
      go_wp2_with (first
        | (go_at_call 48; refine (H48.out _ HF.out.now).mono ?_; rintro e w1 ⟨rfl, hM⟩; have HF1 := Hold.mk (HF.out.later hM); have HW1 := Hold.mk (Nat.lt_of_lt_of_le HWS.out hM.size); clear b0 b1 b2 b3 b4; obtain ⟨b0, b1, b2, b3, b4⟩ := HF1.out.now.b.cells; clear hM)
        | (go_at_call 49; refine (H49.out _ HF1.out.now).mono ?_; rintro e w2 ⟨v1, v2, rfl, ho1, ho2, _, hM⟩; obtain ⟨a1, c1, rfl, hl1, _⟩ := own_list (l := L1) (cs := liC) (sz := 4) (fun _ => rfl) ho1 (by have := HLN.out; omega); obtain ⟨a2, c2, rfl, hl2, _⟩ := own_list (l := L2) (cs := liC) (sz := 4) (fun _ => rfl) ho2 (by have := HLN.out; omega); have HF2 := Hold.mk (HF1.out.later hM); have HW2 := Hold.mk (Nat.lt_of_lt_of_le HW1.out hM.size); have HL := Hold.mk (And.intro hl1 hl2); simp only [HN.out.1, HN.out.2]; clear hM ho1 ho2 hl1 hl2))
      clear b0 b1 b2 b3 b4
      have HI0 : Hold (NeI B w ao cap b ro l to ts w2.heap.size a1 a2 L1 L2 0 (offN b L1 L2 ts 0) (.slice none 0 0) w2) := ⟨HF2.out.now, HL.out.1, HL.out.2, World.ownsRow_nil _ _ _ _, Nat.le_refl _⟩
      go_loopw [11, 39] (fun v i wr => ∃ k n : Nat, k ≤ ts.length ∧ i = .int .i64 k ∧ n = (offN b L1 L2 ts k).length ∧ NeI B w ao cap b ro l to ts w2.heap.size a1 a2 L1 L2 n (offN b L1 L2 ts k) v wr) (fun _ i _ => ts.length - (intOf i).toNat)
      case atStart => exact ⟨0, 0, Nat.zero_le _, rfl, rfl, HI0.out⟩
      case round =>
        obtain ⟨k, n, hk, rfl, hn, hI⟩ := hrel
        obtain ⟨ao1, cap1, rfl⟩ := own_form hI.o
        have HNL := Hold.mk hn
        have hn4 : n ≤ 8 := by have := offN_len b L1 L2 ts k; omega
        have HI := Hold.mk hI
        clear hI hn
        by_cases hlt : k < ts.length
        · obtain ⟨t, hz⟩ : ∃ r, ts[k]? = some r := ⟨_, List.getElem?_eq_getElem hlt⟩
          obtain ⟨rb, roff, rfl, _, p0, p1, p2, p3, p4, p5, p6⟩ := HI.out.f.t.test hz
          have HNX := Hold.mk (offN_next (b := b) (c := L1) (o := L2) hz)
          obtain ⟨W4, hW4⟩ : ∃ W4, wr.alloc (.cells #[.int .i64 t.how, .int .i64 t.kinds, .int .i64 t.err.1, .int .i64 t.err.2, .int .i64 t.pass.1, .int .i64 t.pass.2, .int .i64 t.cost] 29) = W4 := ⟨_, rfl⟩
          have hm4 : Mod noB wr W4 := by rw [← hW4]; exact (Mod.refl _ _).alloc _
          have hd4 : W4.heap[wr.heap.size]? = some (.cells (tsC t) 29) := by rw [← hW4]; exact World.alloc_heap_new _ _
          have HI4 := Hold.mk (HI.out.skip HB.out HW2.out hm4)
          obtain ⟨b0, b1, b2, b3, b4⟩ := HI4.out.f.b.cells
          obtain ⟨t0, t1, t2, t3, t4, t5, t6⟩ := ts_cells hd4
          have HD4 := Hold.mk hd4
          obtain ⟨c, hcc⟩ : ∃ c, apartB b t L1 L2 = c := ⟨_, rfl⟩
          have hp := H58.out w2.heap.size a1 a2 c1 c2 t W4 (List.mem_of_getElem? hz) (Nat.le_trans HB.out (Nat.le_of_lt HW2.out)) HI4.out.z HI4.out.f.b.k HI4.out.c HI4.out.d
          rw [hcc] at HNX hp
          simp only [HN.out.1, HN.out.2] at hp
          have HP := Hold.mk hp
          clear hz hm4 hd4 hcc hp
          cases c with
          | true =>
            have HT2 : Hold (offN b L1 L2 ts (k + 1) = offN b L1 L2 ts k ++ [((k : Int), t.cost)]) := ⟨by rw [HNX.out]; simp⟩
            go_wp2_with (first
              | (go_at_call 58; (try rw [hW4]); refine (HP.out).mono ?_; rintro e w5 ⟨rfl, hM⟩; have HI5 := Hold.mk (HI4.out.skip HB.out HW2.out hM); clear t0 t1 t2 t3 t4 t5 t6 b0 b1 b2 b3 b4; obtain ⟨t0, t1, t2, t3, t4, t5, t6⟩ := ts_cells (hM.at HD4.out id); clear hM)
              | (at_builtin; refine wpList_append_own_at _ rfl (.tmp 49) (.tmp 54) 97 rfl w2.heap.size 94 j0 (spV (0, 0)) 2 16 Try.underlying97 hj hy0 hy1 hy2 rfl (by decide) _ n (flatC spC (offN b L1 L2 ts k)) rfl (World.ownsRow.alloc HI5.out.o _) ⟨w5.heap.size, 0, none⟩ 1 1 (spC ((k : Int), t.cost)).toList rfl rfl (new_cells w5 (spC ((k : Int), t.cost)) 94) (by simp [Value.oneCell']) (by unfold maxLen; omega) (by omega) (by have := HI5.out.z; simp; omega) ?_; intro v6 w6 hown hgr _ _
                 have HI6 := Hold.mk (HI5.out.next HB.out HW2.out ((Mod.refl noB w5).alloc _) hgr hown)
                 clear hown hgr))
            go_roundw
            case rel => exact ⟨k + 1, n + 1, by omega, by go_num, by rw [HT2.out, List.length_append, ← HNL.out]; rfl, by rw [HT2.out]; exact HI6.out⟩
            case measure => simp [intOf]; omega
          | false =>
            have HT2 : Hold (offN b L1 L2 ts (k + 1) = offN b L1 L2 ts k) := ⟨by rw [HNX.out]; simp⟩
            go_wp2_with (go_at_call 58; (try rw [hW4]); refine (HP.out).mono ?_; rintro e w5 ⟨rfl, hM⟩; have HI5 := Hold.mk (HI4.out.skip HB.out HW2.out hM); clear hM)
            go_roundw
            case rel => exact ⟨k + 1, n, by omega, by go_num, by rw [HT2.out]; exact HNL.out, by rw [HT2.out]; exact HI5.out⟩
            case measure => simp [intOf]; omega
        · obtain rfl : k = ts.length := by omega
          have hp := H55.out _ _ _ _ _ HI.out.o HNL.out (Nat.le_trans (offN_len b L1 L2 ts ts.length) h8)
          rw [offN_all] at hp
          cases hch : cheapest (offersL b L1 L2 0 ts) with
          | none =>
            have hef : Hold (nextE b l ts = (0, 4)) := ⟨by rw [he.out, hch]⟩
            simp only [hch, bestO, Option.getD_none, Option.isSome_none] at hp
            have HP := Hold.mk hp
            clear hch hp
            go_wp2_with (go_at_call 55; refine (HP.out).mono ?_; rintro e w3 ⟨rfl, hM⟩; have HI3 := Hold.mk (HI.out.skip HB.out HW2.out hM); clear hM)
            go_ret2
            exact ⟨by rw [hef.out]; rfl, HI3.out.f.w.trans ((Mod.refl _ _).alloc _)⟩
          | some x =>
            have hef : Hold (nextE b l ts = (x.1, 0)) := ⟨by rw [he.out, hch]⟩
            simp only [hch, bestO, Option.getD_some, Option.isSome_some] at hp
            have HP := Hold.mk hp
            clear hch hp
            go_wp2_with (go_at_call 55; refine (HP.out).mono ?_; rintro e w3 ⟨rfl, hM⟩; have HI3 := Hold.mk (HI.out.skip HB.out HW2.out hM)
                         obtain ⟨W4, hW4⟩ : ∃ W4, w3.alloc (.cells #[.int .i64 x.1, .int .i64 x.2] 94) = W4 := ⟨_, rfl⟩
                         have hm4 : Mod noB w3 W4 := by rw [← hW4]; exact (Mod.refl _ _).alloc _
                         have hd4 : W4.heap[w3.heap.size]? = some (.cells (spC x) 94) := by rw [← hW4]; exact World.alloc_heap_new _ _
                         obtain ⟨x0, x1⟩ := sp_cells hd4
                         have HI4 := Hold.mk (HI3.out.skip HB.out HW2.out hm4)
                         clear hM hm4 hd4)
            go_ret2
            exact ⟨by rw [hef.out]; rfl, HI4.out.f.w⟩
  · have he : Hold (nextE b l ts = (0, checkE b l ts)) := ⟨by simp [nextE, hc]⟩
    have hne : (checkE b l ts != 0) = true := by simpa using hc
    have hne2 : (checkE b l ts == 0) = false := by simpa using hc
    clear hs hr ht hc
    generalize checkE b l ts = ck at *
    go_enter Try.func25, Try.ntmps25
    go_wp2_with (go_at_call 48; refine (H48.out _ HF.out.now).mono ?_; rintro e w1 ⟨rfl, hM⟩; have HF1 := Hold.mk (HF.out.later hM); clear hM)
    go_ret2
    exact ⟨by rw [he.out]; rfl, HF1.out.now.w⟩

end Go.Proofs.Ytknbcmildpmokaa

/- what a camera reads; what any test reads. -/
import Derived.Test.YtknbcmildpmokaaScI
import Derived.Laws.BitsLemmas
set_option linter.unusedSimpArgs false
set_option linter.unusedVariables false
namespace Go.Proofs.Ytknbcmildpmokaa
open Go.RowKit Go.Shelf


theorem wraps_small (n : Int) (h0 : 0 ≤ n) (h1 : n < 2 ^ 20) : IntKind.i64.wrap n = n := IntWalk.i64_in _ (by omega)
theorem bit_and {s : Int} {y : Nat} (h0 : 0 ≤ s) (h1 : s < 1000000) : bits .and .i64 (s / 2 ^ y) 1 = if inB s y then 1 else 0 := by
  obtain ⟨u, rfl⟩ := Int.eq_ofNat_of_zero_le h0
  have e : (u : Int) / 2 ^ y = ((u / 2 ^ y : Nat) : Int) := by simp
  have hlt : u / 2 ^ y < 2 ^ 20 := Nat.lt_of_le_of_lt (Nat.div_le_self _ _) (by omega)
  unfold inB
  rw [e, show (1 : Int) = ((1 : Nat) : Int) from rfl, (bits_nat .i64 20 (by decide) wraps_small (u / 2 ^ y) 1 hlt (by decide)).1, Nat.and_one_is_mod]
  have := Nat.mod_two_eq_zero_or_one (u / 2 ^ y)
  rcases this with h | h
  · have : (((u / 2 ^ y : Nat) : Int) % 2 == ((1 : Nat) : Int)) = false := by rw [beq_eq_false_iff_ne]; omega
    rw [h, this]; rfl
  · have : (((u / 2 ^ y : Nat) : Int) % 2 == ((1 : Nat) : Int)) = true := by rw [beq_iff_eq]; omega
    rw [h, this]; rfl
/-- What a camera has counted of the first kinds. -/
def partT (set : Int) (ks : List Knd) (ns : List Int) (k : Nat) : List (Int × Int) := ((ks.zip ns).zipIdx.take k).flatMap fun p => if inB set p.2 then [(p.1.1.many + p.1.2, p.1.1.many + p.1.2)] else []
theorem partT_all (set : Int) (ks : List Knd) (ns : List Int) (h : ns.length = ks.length) : partT set ks ns ks.length = partsC set ks ns := by
  unfold partT partsC
  rw [List.take_of_length_le (by simp; omega)]
theorem partT_next {set : Int} {ks : List Knd} {ns : List Int} {k : Nat} {kk : Knd} {z : Int} (h1 : ks[k]? = some kk) (h2 : ns[k]? = some z) : partT set ks ns (k + 1) = partT set ks ns k ++ if inB set k then [(kk.many + z, kk.many + z)] else [] := by
  have hz : (ks.zip ns)[k]? = some (kk, z) := by rw [List.getElem?_zip_eq_some]; exact ⟨h1, h2⟩
  have : (ks.zip ns).zipIdx[k]? = some ((kk, z), k) := by rw [List.getElem?_zipIdx, hz]; simp
  unfold partT
  rw [take_snoc' this, List.flatMap_append]
  simp
theorem partT_len (set : Int) (ks : List Knd) (ns : List Int) (k : Nat) : (partT set ks ns k).length ≤ k := by
  unfold partT
  have : ∀ (l : List ((Knd × Int) × Nat)), (l.flatMap fun p => if inB set p.2 then [(p.1.1.many + p.1.2, p.1.1.many + p.1.2)] else []).length ≤ l.length := by
    intro l
    induction l with
    | nil => simp
    | cons x l ih =>
      rw [List.flatMap_cons, List.length_append, List.length_cons]
      split
      · simp only [List.length_singleton]; omega
      · simp only [List.length_nil]; omega
  exact Nat.le_trans (this _) (by simp; omega)
theorem partC_small {set : Int} {ks : List Knd} {ns : List Int} (hk : ∀ k ∈ ks, 0 ≤ k.many ∧ k.many ≤ 2000) (hn : ∀ n ∈ ns, -10000 ≤ n ∧ n ≤ 10000) : ∀ x ∈ partsC set ks ns, Small 10000000000 x := by
  intro x hx
  unfold partsC at hx
  obtain ⟨⟨⟨q1, q2⟩, qi⟩, hp, hx⟩ := List.mem_flatMap.1 hx
  simp only at hx
  have h1 : (q1, q2) ∈ ks.zip ns := by
    obtain ⟨i, hi⟩ := List.mem_iff_getElem?.1 hp
    rw [List.getElem?_zipIdx] at hi
    obtain ⟨q, hq, he⟩ := Option.map_eq_some_iff.1 hi
    cases he
    exact List.mem_iff_getElem?.2 ⟨i, hq⟩
  have h2 := List.of_mem_zip h1
  have := hk _ h2.1
  have := hn _ h2.2
  split at hx
  · simp only [List.mem_singleton] at hx
    subst hx
    exact ⟨⟨by simp only; omega, by simp only; omega⟩, by simp only; omega, by simp only; omega⟩
  · cases hx

set_option maxRecDepth 100000 in
set_option maxHeartbeats 4000000 in
theorem counter_any (B : Nat) (ao : Option Addr) (cap : Nat) (b : Bx) (has : List Int) (set : Int) (err : Int × Int) (w : World) (hB : B ≤ w.heap.size) (hb : boxB b = true) (hs : KindsAt B w ao b.ks) (hl : has.length = b.ks.length) (hst : 0 ≤ set ∧ set < 1000000) (he : Small 1000000 err) (hh : ∀ n ∈ has, -10000 ≤ n ∧ n ≤ 10000) :
    Calls Try.prog 98 #[.agg #[.int .i64 set, .int .i64 err.1, .int .i64 err.2], bxV ao b.ks.length cap b, liV has] w fun e w' => e = .returned (spV (sumP err (partsC set b.ks has))) ∧ Mod noB w w' := by
  have hks := boxB_ks hb
  have HB := Hold.mk hB
  obtain ⟨M, hM⟩ : ∃ M : Array Value, M = #[.int .i64 set, .int .i64 err.1, .int .i64 err.2] := ⟨_, rfl⟩
  have HFI : Hold (RdI B w #[.int .i64 set, .int .i64 err.1, .int .i64 err.2] 110 ao cap b has 0 (partT set b.ks has 0) (.slice none 0 0) (allocL w [.cells #[.int .i64 set, .int .i64 err.1, .int .i64 err.2] 110, .cells (bxC ao b.ks.length cap b) 26, .cells (liC has) 77, .cells (spC (0, 0)) 78])) := ⟨rdF hB hs (Mod.refl _ _), ⟨rfl, .inl ⟨rfl, rfl⟩⟩⟩
  have HKS := Hold.mk hks
  have HL := Hold.mk hl
  have HH := Hold.mk hh
  have HE := Hold.mk he
  have HST := Hold.mk hst
  have hle : b.ks.length ≤ 4 := hks.2.1
  clear hB hb hs hks hl hh he hM hst
  go_enter Try.func98, Try.ntmps98
  go_wp2
  go_loopw [7, 13] (fun v i wr => ∃ k n : Nat, k ≤ b.ks.length ∧ i = .int .i64 k ∧ n = (partT set b.ks has k).length ∧ RdI B w #[.int .i64 set, .int .i64 err.1, .int .i64 err.2] 110 ao cap b has n (partT set b.ks has k) v wr) (fun _ i _ => b.ks.length - (intOf i).toNat)
  case atStart => exact ⟨0, 0, Nat.zero_le _, rfl, rfl, HFI.out⟩
  case round =>
    obtain ⟨k, n, hk, rfl, hn, hI⟩ := hrel
    have HNL := Hold.mk hn
    have hn4 : n ≤ 4 := by have := partT_len set b.ks has k; omega
    obtain ⟨ao1, cap1, rfl⟩ := own_form hI.o
    have HI := Hold.mk hI
    clear hI hn
    by_cases hlt : k < b.ks.length
    · obtain ⟨kk, hkk⟩ : ∃ kk, b.ks[k]? = some kk := ⟨_, List.getElem?_eq_getElem hlt⟩
      obtain ⟨z, hz⟩ : ∃ z, has[k]? = some z := ⟨_, List.getElem?_eq_getElem (by rw [HL.out]; exact hlt)⟩
      obtain ⟨kb, koff, rfl, hkb, q0, q1, q2⟩ := HI.out.f.b.k.kind hkk
      have hkm := HKS.out.2.2.1 kk (List.mem_of_getElem? hkk)
      have hzb := HH.out z (List.mem_of_getElem? hz)
      have hzg : has[k]?.getD 0 = z := by simp [hz]
      have hm0 := cellsAt HI.out.f.m 0
      have HNX := Hold.mk (partT_next (set := set) hkk hz)
      obtain ⟨W4, hW4⟩ : ∃ W4, wr.alloc (.cells #[.int .i64 kk.many, .int .i64 kk.w.1, .int .i64 kk.w.2] 74) = W4 := ⟨_, rfl⟩
      have hm4 : Mod noB wr W4 := by rw [← hW4]; exact (Mod.refl _ _).alloc _
      have hd4 : W4.heap[wr.heap.size]? = some (.cells #[.int .i64 kk.many, .int .i64 kk.w.1, .int .i64 kk.w.2] 74) := by rw [← hW4]; exact World.alloc_heap_new _ _
      have HI4 := Hold.mk (HI.out.skip HB.out hm4)
      have m0 := cellsAt HI4.out.f.m 0
      have FIN : Hold (∀ W', Mod noB W4 W' → W'.cell? ⟨wr.heap.size, 0, none⟩ = some (.int .i64 kk.many) ∧ W'.cell? ⟨wr.heap.size, 1, none⟩ = some (.int .i64 kk.w.1) ∧ W'.cell? ⟨wr.heap.size, 2, none⟩ = some (.int .i64 kk.w.2) ∧ W'.cell? ⟨w.heap.size + 1 + 1, k, none⟩ = some (.int .i64 z)) := ⟨fun W' h => by
        have h1 := (HI4.out.f.mod HB.out h).h
        have h2 := h.at hd4 id
        have hc := cellsAt h1 k
        rw [li_at (by omega), hzg] at hc
        exact ⟨cellsAt h2 0, cellsAt h2 1, cellsAt h2 2, hc⟩⟩
      have HWS : Hold (IntKind.i64.wrap (kk.many + z) = kk.many + z) := ⟨IntWalk.i64_in _ (by omega)⟩
      have hk4 : (k : Int) < 4 := by omega
      have hbit := bit_and (y := k) HST.out.1 HST.out.2
      clear hkk hz hzg hm4 hd4 hkm hzb hm0
      cases hx : inB set k with
      | true =>
        rw [hx, if_pos rfl] at hbit
        have HX := Hold.mk hx
        clear hx
        go_wp2
        (try rw [hW4])
        refine region_ct (wb := wr.heap.size) (hb := w.heap.size + 1 + 1) (k := k) (n := n) (cap := cap1) (ao := ao1) (kk := kk) (z := z) (base := w.heap.size + 4) (xl := flatC spC (partT set b.ks has k)) rfl rfl rfl rfl rfl hk4 HWS.out FIN.out (fun w' h => own_mod HI4.out.o h) (by have := at_ltS HI4.out.f.r; omega) (by omega) ?_
        intro g v' w1 w2 h1 hg ho hat
        simp only [ctDs, ctC, valsA, List.foldl_cons, List.foldl_nil, Act.put, List.setIfInBounds_toArray, List.set_cons_succ, List.set_cons_zero, List.getD_cons_zero, List.getD_cons_succ, reduceIte, Nat.reduceEqDiff, Nat.reduceAdd]
        have HN : RdI B w #[.int .i64 set, .int .i64 err.1, .int .i64 err.2] 110 (some ⟨kb, koff, none⟩) cap b has (n + 1) (partT set b.ks has k ++ [(kk.many + z, kk.many + z)]) v' w2 := HI4.out.next HB.out h1 hg ho
        have HT : Hold (partT set b.ks has (k + 1) = partT set b.ks has k ++ [(kk.many + z, kk.many + z)]) := ⟨by rw [HNX.out, HX.out, if_pos rfl]⟩
        rw [← HT.out] at HN
        have HN := Hold.mk HN
        have HLN : Hold (n + 1 = (partT set b.ks has (k + 1)).length) := ⟨by rw [HT.out, List.length_append, ← HNL.out]; rfl⟩
        clear h1 hg ho hat
        go_wp2
        go_roundw
        case rel => exact ⟨k + 1, n + 1, by omega, by go_num, HLN.out, HN.out⟩
        case measure => simp [intOf]; omega
      | false =>
        rw [hx] at hbit
        simp only [Bool.false_eq_true, if_false] at hbit
        have HX := Hold.mk hx
        have HT : Hold (partT set b.ks has (k + 1) = partT set b.ks has k) := ⟨by rw [HNX.out, hx]; simp⟩
        clear hx
        have HN := HI4.out
        rw [← HT.out] at HN
        have HN := Hold.mk HN
        have HLN : Hold (n = (partT set b.ks has (k + 1)).length) := ⟨by rw [HT.out]; exact HNL.out⟩
        go_wp2
        go_roundw
        case rel => exact ⟨k + 1, n, by omega, by go_num, HLN.out, HN.out⟩
        case measure => simp [intOf]; omega
    · obtain rfl : k = b.ks.length := by omega
      have HO := HI.out.o
      have hpe := partT_all set b.ks has HL.out
      have hnl := HNL.out
      rw [hpe] at HO hnl
      rw [hnl] at HO
      obtain ⟨ao2, cap2, e2, HLA, _⟩ := own_list (l := partsC set b.ks has) (cs := spC) (sz := 2) (fun x => rfl) HO (by omega)
      rw [← hnl] at e2
      cases e2
      have HNL2 := Hold.mk hnl
      have HF : Hold (Kept wr (fun W => RdF B w #[.int .i64 set, .int .i64 err.1, .int .i64 err.2] 110 ao cap b has W ∧ SpansAt wr.heap.size W ao1 (partsC set b.ks has))) := ⟨fun W h => ⟨HI.out.f.mod HB.out h, HLA.low (Low.ofN h (Nat.le_refl _))⟩⟩
      have HS : Hold (∀ W, Mod noB wr W → Calls Try.prog 99 #[.func (.func 100) #[] #[], spV err, .slice ao1 n cap1] W fun e w' => e = .returned (spV (sumP err (partsC set b.ks has))) ∧ Mod noB W w') := ⟨fun W h => by
        have := sum_any wr.heap.size ao1 cap1 err (partsC set b.ks has) W h.size (HF.out W h).2 (HE.out.mono (by omega)) (by omega) (partC_small (fun k hk => ⟨(HKS.out.2.2.1 k hk).1, (HKS.out.2.2.1 k hk).2.1⟩) HH.out)
        rw [← HNL2.out] at this
        exact this⟩
      have m0 := cellsAt HF.out.now.1.m 0
      have m1 := cellsAt HF.out.now.1.m 1
      have m2 := cellsAt HF.out.now.1.m 2
      clear HO hpe hnl HLA
      go_wp2_with (first
        | (go_at_call 99; refine (HS.out _ (Mod.refl _ _)).mono ?_; rintro e w3 ⟨rfl, hM⟩; have H3 := Hold.mk (HF.out _ hM).1; clear hM)
        | (refine wpList_store_row rfl 78 (.tmp 6) (.tmp 38) rfl (w.heap.size + 1 + 1 + 1) (spC (sumP err (partsC set b.ks has))) rfl rfl 78 _ H3.out.r info78u rfl (sp_one _) ?_; rw [setRow_put H3.out.r]))
      have hz := World.putObj_heap_same (o := .cells (spC (sumP err (partsC set b.ks has))) 78) (at_ltS H3.out.r)
      obtain ⟨r0, r1⟩ := sp_cells hz
      clear hz
      refine bodyPost_ret (v := spV (sumP err (partsC set b.ks has))) ?_ rfl ⟨rfl, H3.out.w.putObj (fun h => by omega) _⟩
      simp [results, Try.results98, go_sem, *]

end Go.Proofs.Ytknbcmildpmokaa

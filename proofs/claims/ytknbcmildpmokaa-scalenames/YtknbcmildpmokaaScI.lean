/- what a scale reads, and a camera. -/
import Derived.Test.YtknbcmildpmokaaScR
set_option linter.unusedSimpArgs false
set_option linter.unusedVariables false
namespace Go.Proofs.Ytknbcmildpmokaa
open Go.RowKit Go.Shelf


theorem RdI.next {B : Nat} {w : World} {m : Array Value} {mt : Nat} {ao : Option Addr} {cap : Nat} {b : Bx} {has : List Int} {n : Nat} {L : List (Int × Int)} {v v' : Value} {x : Int × Int} {W w1 w' : World} (h : RdI B w m mt ao cap b has n L v W) (hB : B ≤ w.heap.size) (h1 : Mod noB W w1) (hg : w1.grownBy w' v.ownBlock) (ho : w'.ownsRow (w.heap.size + 4) 78 2 v' (n + 1) (flatC spC L ++ (spC x).toList)) :
    RdI B w m mt ao cap b has (n + 1) (L ++ [x]) v' w' :=
  ⟨(h.f.mod hB h1).grown hB hg (fun r hr => (own_block h.o hr).1), by rw [flatC_snoc]; exact ho⟩
theorem RdI.skip {B : Nat} {w : World} {m : Array Value} {mt : Nat} {ao : Option Addr} {cap : Nat} {b : Bx} {has : List Int} {n : Nat} {L : List (Int × Int)} {v : Value} {W w' : World} (h : RdI B w m mt ao cap b has n L v W) (hB : B ≤ w.heap.size) (h1 : Mod noB W w') : RdI B w m mt ao cap b has n L v w' :=
  ⟨h.f.mod hB h1, own_mod h.o h1⟩
theorem partW_small {kk : Knd} {z : Int} (h : 0 ≤ kk.many ∧ kk.many ≤ 2000 ∧ 0 ≤ kk.w.1 ∧ kk.w.1 ≤ kk.w.2 ∧ kk.w.2 ≤ 100000) (hz : -10000 ≤ z ∧ z ≤ 10000) : Small 10000000000 (partW kk z) := by
  obtain ⟨a, b⟩ := mul_bd (m := 100000) (k := 12000) (a := kk.w.1) (b := kk.many + z) (by omega) (by omega)
  obtain ⟨c, d⟩ := mul_bd (m := 100000) (k := 12000) (a := kk.w.2) (b := kk.many + z) (by omega) (by omega)
  simp only [Int.reduceMul, Int.reduceNeg] at a b c d
  exact ⟨⟨by show _ ≤ _ * _; omega, by show _ * _ ≤ _; omega⟩, by show _ ≤ _ * _; omega, by show _ * _ ≤ _; omega⟩

set_option maxRecDepth 100000 in
set_option maxHeartbeats 4000000 in
theorem weigher_any (B : Nat) (ao : Option Addr) (cap : Nat) (b : Bx) (has : List Int) (err : Int × Int) (w : World) (hB : B ≤ w.heap.size) (hb : boxB b = true) (hs : KindsAt B w ao b.ks) (hl : has.length = b.ks.length) (he : Small 1000000 err) (hh : ∀ n ∈ has, -10000 ≤ n ∧ n ≤ 10000) :
    Calls Try.prog 101 #[.agg #[.int .i64 err.1, .int .i64 err.2], bxV ao b.ks.length cap b, liV has] w fun e w' => e = .returned (spV (sumP (plusP err b.bag) (partsW b.ks has))) ∧ Mod noB w w' := by
  have hks := boxB_ks hb
  have HB := Hold.mk hB
  have HFI : Hold (RdI B w (spC err) 112 ao cap b has 0 ((partsW b.ks has).take 0) (.slice none 0 0) (allocL w [.cells (spC err) 112, .cells (bxC ao b.ks.length cap b) 26, .cells (liC has) 77, .cells (spC (0, 0)) 78])) := ⟨rdF hB hs (Mod.refl _ _), ⟨rfl, .inl ⟨rfl, rfl⟩⟩⟩
  have HKS := Hold.mk hks
  have HL := Hold.mk hl
  have HH := Hold.mk hh
  have HE := Hold.mk he
  have hle : b.ks.length ≤ 4 := hks.2.1
  clear hB hb hs hks hl hh he
  go_enter Try.func101, Try.ntmps101
  go_wp2
  go_loopw [7, 13] (fun v i wr => ∃ k : Nat, k ≤ b.ks.length ∧ i = .int .i64 k ∧ RdI B w (spC err) 112 ao cap b has k ((partsW b.ks has).take k) v wr) (fun _ i _ => b.ks.length - (intOf i).toNat)
  case atStart => exact ⟨0, Nat.zero_le _, rfl, HFI.out⟩
  case round =>
    obtain ⟨k, hk, rfl, hI⟩ := hrel
    obtain ⟨ao1, cap1, rfl⟩ := own_form hI.o
    have HI := Hold.mk hI
    clear hI
    by_cases hlt : k < b.ks.length
    · obtain ⟨kk, hkk⟩ : ∃ kk, b.ks[k]? = some kk := ⟨_, List.getElem?_eq_getElem hlt⟩
      obtain ⟨z, hz⟩ : ∃ z, has[k]? = some z := ⟨_, List.getElem?_eq_getElem (by rw [HL.out]; exact hlt)⟩
      obtain ⟨kb, koff, rfl, hkb, q0, q1, q2⟩ := HI.out.f.b.k.kind hkk
      have hkm := HKS.out.2.2.1 kk (List.mem_of_getElem? hkk)
      have hzb := HH.out z (List.mem_of_getElem? hz)
      have hzg : has[k]?.getD 0 = z := by simp [hz]
      have HT : Hold ((partsW b.ks has).take (k + 1) = (partsW b.ks has).take k ++ [partW kk z]) := ⟨take_snoc' (partsW_at hkk hz)⟩
      obtain ⟨W4, hW4⟩ : ∃ W4, wr.alloc (.cells #[.int .i64 kk.many, .int .i64 kk.w.1, .int .i64 kk.w.2] 74) = W4 := ⟨_, rfl⟩
      have hm4 : Mod noB wr W4 := by rw [← hW4]; exact (Mod.refl _ _).alloc _
      have hd4 : W4.heap[wr.heap.size]? = some (.cells #[.int .i64 kk.many, .int .i64 kk.w.1, .int .i64 kk.w.2] 74) := by rw [← hW4]; exact World.alloc_heap_new _ _
      have HI4 := Hold.mk (HI.out.skip HB.out hm4)
      have FIN : Hold (∀ W', Mod noB W4 W' → W'.cell? ⟨wr.heap.size, 0, none⟩ = some (.int .i64 kk.many) ∧ W'.cell? ⟨wr.heap.size, 1, none⟩ = some (.int .i64 kk.w.1) ∧ W'.cell? ⟨wr.heap.size, 2, none⟩ = some (.int .i64 kk.w.2) ∧ W'.cell? ⟨w.heap.size + 1 + 1, k, none⟩ = some (.int .i64 z)) := ⟨fun W' h => by
        have h1 := (HI4.out.f.mod HB.out h).h
        have h2 := h.at hd4 id
        have hc := cellsAt h1 k
        rw [li_at (by omega), hzg] at hc
        exact ⟨cellsAt h2 0, cellsAt h2 1, cellsAt h2 2, hc⟩⟩
      have HWS : Hold (IntKind.i64.wrap (kk.many + z) = kk.many + z) := ⟨IntWalk.i64_in _ (by omega)⟩
      have HTM := Hold.mk (fun w => times_any kk.w (kk.many + z) w ⟨by omega, by omega⟩ (by omega))
      have hk4 : (k : Int) < 4 := by omega
      clear hkk hz hzg hm4 hd4 hkm hzb
      go_wp2
      (try rw [hW4])
      refine region_wg (wb := wr.heap.size) (hb := w.heap.size + 1 + 1) (k := k) (n := k) (cap := cap1) (ao := ao1) (kk := kk) (z := z) (base := w.heap.size + 4) (xl := flatC spC ((partsW b.ks has).take k)) rfl rfl rfl rfl rfl hk4 HWS.out FIN.out HTM.out (fun w' h => own_mod HI4.out.o h) (by have := at_ltS HI4.out.f.r; omega) (by omega) ?_
      intro g v' w1 w2 h1 hg ho hat
      simp only [wgDs, wgC, valsA, List.foldl_cons, List.foldl_nil, Act.put, List.setIfInBounds_toArray, List.set_cons_succ, List.set_cons_zero, List.getD_cons_zero, List.getD_cons_succ, reduceIte, Nat.reduceEqDiff, Nat.reduceAdd]
      have HN : RdI B w (spC err) 112 (some ⟨kb, koff, none⟩) cap b has (k + 1) ((partsW b.ks has).take k ++ [partW kk z]) v' w2 := HI4.out.next HB.out h1 hg ho
      rw [← HT.out] at HN
      have HN := Hold.mk HN
      clear h1 hg ho hat
      go_wp2
      go_roundw
      case rel => exact ⟨k + 1, by omega, by go_num, HN.out⟩
      case measure => simp [intOf]; omega
    · obtain rfl : k = b.ks.length := by omega
      have HTL : Hold (((partsW b.ks has).take b.ks.length) = partsW b.ks has) := ⟨List.take_of_length_le (by rw [partsW_len]; omega)⟩
      have HO := HI.out.o
      rw [HTL.out] at HO
      have hpl : (partsW b.ks has).length = b.ks.length := by rw [partsW_len, HL.out]; omega
      rw [← hpl] at HO
      obtain ⟨ao2, cap2, e2, HLA, _⟩ := own_list (l := partsW b.ks has) (cs := spC) (sz := 2) (fun x => rfl) HO (by omega)
      rw [hpl] at e2
      cases e2
      have HF : Hold (Kept wr (fun W => RdF B w (spC err) 112 ao cap b has W ∧ SpansAt wr.heap.size W ao1 (partsW b.ks has))) := ⟨fun W h => ⟨HI.out.f.mod HB.out h, HLA.low (Low.ofN h (Nat.le_refl _))⟩⟩
      have hbag := HKS.out.2.2.2.1
      have hsm : Small 5000000 (plusP err b.bag) := by
        obtain ⟨⟨a1, a2⟩, a3, a4⟩ := HE.out
        exact ⟨⟨by show _ ≤ _ + _; omega, by show _ + _ ≤ _; omega⟩, by show _ ≤ _ + _; omega, by show _ + _ ≤ _; omega⟩
      have HP := Hold.mk (fun w => plus_any err b.bag w (HE.out.mono (by omega)) ⟨⟨by omega, by omega⟩, by omega, by omega⟩)
      have HS : Hold (∀ W, Mod noB wr W → Calls Try.prog 99 #[.func (.func 100) #[] #[], spV (plusP err b.bag), .slice ao1 b.ks.length cap1] W fun e w' => e = .returned (spV (sumP (plusP err b.bag) (partsW b.ks has))) ∧ Mod noB W w') := ⟨fun W h => by
        have := sum_any wr.heap.size ao1 cap1 (plusP err b.bag) (partsW b.ks has) W h.size (HF.out W h).2 (hsm.mono (by omega)) (by omega) (fun x hx => by
          obtain ⟨⟨kk, z⟩, hm, rfl⟩ := List.mem_map.1 hx
          have hm1 := List.of_mem_zip hm
          exact partW_small (HKS.out.2.2.1 kk hm1.1) (HH.out z hm1.2))
        rw [hpl] at this
        exact this⟩
      obtain ⟨e0, e1⟩ := sp_cells HF.out.now.1.m
      obtain ⟨d0, d1, d2, d3, d4⟩ := HF.out.now.1.b.cells
      clear HO hpl HLA hsm hbag
      go_wp2_with (first
        | (go_at_call 100; refine (HP.out _).mono ?_; rintro e w2 ⟨rfl, hM⟩; have HM2 := Hold.mk hM; clear hM)
        | (go_at_call 99; refine (HS.out _ HM2.out).mono ?_; rintro e w3 ⟨rfl, hM⟩; have HM3 := Hold.mk (HM2.out.trans hM); have H3 := Hold.mk (HF.out _ HM3.out).1; clear hM)
        | (refine wpList_store_row rfl 78 (.tmp 6) (.tmp 37) rfl (w.heap.size + 1 + 1 + 1) (spC (sumP (plusP err b.bag) (partsW b.ks has))) rfl rfl 78 _ H3.out.r info78u rfl (sp_one _) ?_; rw [setRow_put H3.out.r]))
      have hz := World.putObj_heap_same (o := .cells (spC (sumP (plusP err b.bag) (partsW b.ks has))) 78) (at_ltS H3.out.r)
      obtain ⟨r0, r1⟩ := sp_cells hz
      clear hz
      refine bodyPost_ret (v := spV (sumP (plusP err b.bag) (partsW b.ks has))) ?_ rfl ⟨rfl, H3.out.w.putObj (fun h => by omega) _⟩
      simp [results, Try.results101, go_sem, *]

end Go.Proofs.Ytknbcmildpmokaa

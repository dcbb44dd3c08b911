/- alive: the document's examples hold. -/
import Derived.Test.YtknbcmildpmokaaSdJ
set_option linter.unusedSimpArgs false
set_option linter.unusedVariables false
namespace Go.Proofs.Ytknbcmildpmokaa
open Go.RowKit Go.Shelf


theorem list_lit {α : Type} {cs : α → Array Value} {sz : Nat} (hs : ∀ x, (cs x).size = sz) {w : World} {b : Nat} {cells : Array Value} {t : TypeId} (L : List α) (h : w.heap[b]? = some (.cells cells t)) (hc : cells.toList = flatC cs L) (hl : L.length ≤ 1000000000000) : ListAt w.heap.size w sz cs (some ⟨b, 0, none⟩) L :=
  ⟨fun _ => ⟨b, 0, rfl, at_ltS h, fun k x hx j hj => by
    have e0 := flatC_at hs L k x hx j hj
    rw [← hc, Array.getElem?_toList] at e0
    rw [cellsAt h, Nat.zero_add]
    exact e0⟩, hl⟩
@[reducible] def bxX (ab : Nat) : Value := .agg #[.slice (some ⟨ab, 0, none⟩) 2 2, .int .i64 500, .int .i64 600, .int .i64 1, .int .i64 1]
abbrev KX (ab : Nat) (w : World) : Prop := w.heap[ab]? = some (.cells kindsX 74)
theorem kinds_sample {w : World} {ab : Nat} (h : KX ab w) : KindsAt w.heap.size w (some ⟨ab, 0, none⟩) exBox.ks := list_lit (cs := knC) (sz := 3) (fun _ => rfl) exBox.ks h rfl (by decide)
theorem callReads {ab ib : Nat} {w : World} (h : KX ab w) (hi : w.heap[ib]? = some (.cells #[.int .i64 (-1), .int .i64 0] 3)) : Calls Try.prog 14 #[bxX ab, .slice (some ⟨ib, 0, none⟩) 2 2, tsV exFine] w fun e w' => e = .returned (.tuple #[.agg #[.int .i64 109450, .int .i64 109739], .int .i64 0]) ∧ Mod noB w w' :=
  (reads14_any w.heap.size (some ⟨ab, 0, none⟩) (some ⟨ib, 0, none⟩) 2 2 exBox [-1, 0] exFine w (Nat.le_refl _) (kinds_sample h) (ints_lit [-1, 0] hi rfl (by decide))).mono fun e w' hh => by rw [ex_reads] at hh; exact hh
theorem callJudge {ab rb : Nat} {w : World} (h : KX ab w) (hr : w.heap[rb]? = some (.cells (rdC ⟨exCam, 98⟩) 54)) : Calls Try.prog 16 #[bxX ab, .slice (some ⟨rb, 0, none⟩) 1 1] w fun e w' => e = .returned (.tuple #[.int .i64 1, .int .i64 0]) ∧ Mod noB w w' :=
  (judge_any w.heap.size (some ⟨ab, 0, none⟩) (some ⟨rb, 0, none⟩) 2 1 exBox [⟨exCam, 98⟩] w (Nat.le_refl _) (kinds_sample h) (list_lit (cs := rdC) (sz := 8) (fun _ => rfl) [⟨exCam, 98⟩] hr rfl (by decide))).mono fun e w' hh => by rw [ex_judge] at hh; exact hh
theorem callLeft {ab rb : Nat} {w : World} (h : KX ab w) (hr : w.heap[rb]? = some (.cells (rdC ⟨exCam, 98⟩) 54)) : Calls Try.prog 18 #[bxX ab, .slice (some ⟨rb, 0, none⟩) 1 1] w fun e w' => ∃ a5 k5, e = .returned (.tuple #[.slice a5 2 k5, .int .i64 0]) ∧ ListAt w'.heap.size w' 2 spC a5 [(-1, 1), (-1, 1)] ∧ Mod noB w w' :=
  (left_any w.heap.size (some ⟨ab, 0, none⟩) (some ⟨rb, 0, none⟩) 2 1 exBox [⟨exCam, 98⟩] w (Nat.le_refl _) (kinds_sample h) (list_lit (cs := rdC) (sz := 8) (fun _ => rfl) [⟨exCam, 98⟩] hr rfl (by decide))).mono fun e w' hh => by
    rw [ex_left] at hh
    obtain ⟨v, rfl, ho, hm⟩ := hh
    obtain ⟨a5, k5, rfl, hl, _⟩ := own_list (l := [((-1 : Int), (1 : Int)), (-1, 1)]) (cs := spC) (sz := 2) (fun _ => rfl) ho (by decide)
    exact ⟨a5, k5, rfl, hl, hm⟩
theorem callSlips {ab tb : Nat} {w : World} (h : KX ab w) (ht : w.heap[tb]? = some (.cells (tsC exCam ++ tsC exRough) 29)) : Calls Try.prog 21 #[bxX ab, .slice (some ⟨tb, 0, none⟩) 2 2] w fun e w' => ∃ a7 k7, e = .returned (.tuple #[.slice a7 2 k7, .int .i64 0]) ∧ IntsAt w' a7 [-1, 0] ∧ Mod noB w w' :=
  (slips_any w.heap.size (some ⟨ab, 0, none⟩) (some ⟨tb, 0, none⟩) 2 2 exBox [exCam, exRough] w (Nat.le_refl _) (kinds_sample h) (list_lit (cs := tsC) (sz := 7) (fun _ => rfl) [exCam, exRough] ht rfl (by decide))).mono fun e w' hh => by
    rw [ex_slips] at hh
    obtain ⟨a, c, he, hi, hm⟩ := hh
    exact ⟨a, c, he, hi, hm⟩
theorem callEnough {ab tb : Nat} {w : World} (h : KX ab w) (ht : w.heap[tb]? = some (.cells (tsC exCam ++ tsC exRough ++ tsC exFine) 29)) : Calls Try.prog 23 #[bxX ab, .slice (some ⟨tb, 0, none⟩) 3 3] w fun e w' => e = .returned (.tuple #[.int .i64 4, .int .i64 10, .int .i64 0]) ∧ Mod noB w w' :=
  (enough_any w.heap.size (some ⟨ab, 0, none⟩) (some ⟨tb, 0, none⟩) 2 3 exBox [exCam, exRough, exFine] w (Nat.le_refl _) (kinds_sample h) (list_lit (cs := tsC) (sz := 7) (fun _ => rfl) [exCam, exRough, exFine] ht rfl (by decide))).mono fun e w' hh => by rw [ex_enough] at hh; exact hh
theorem callNext {ab rb tb : Nat} {w : World} (h : KX ab w) (hr : w.heap[rb]? = some (.cells (rdC ⟨exCam, 98⟩) 54)) (ht : w.heap[tb]? = some (.cells (tsC exCam ++ tsC exRough ++ tsC exFine) 29)) : Calls Try.prog 25 #[bxX ab, .slice (some ⟨rb, 0, none⟩) 1 1, .slice (some ⟨tb, 0, none⟩) 3 3] w fun e w' => e = .returned (.tuple #[.int .i64 2, .int .i64 0]) ∧ Mod noB w w' :=
  (next_any w.heap.size (some ⟨ab, 0, none⟩) (some ⟨rb, 0, none⟩) (some ⟨tb, 0, none⟩) 2 1 3 exBox [⟨exCam, 98⟩] [exCam, exRough, exFine] w (Nat.le_refl _) (kinds_sample h) (list_lit (cs := rdC) (sz := 8) (fun _ => rfl) [⟨exCam, 98⟩] hr rfl (by decide)) (list_lit (cs := tsC) (sz := 7) (fun _ => rfl) [exCam, exRough, exFine] ht rfl (by decide))).mono fun e w' hh => by rw [ex_next] at hh; exact hh
theorem callInts {ao bo : Option Addr} {L : List Int} {n m c d : Nat} (hn : n = L.length) (hm : m = L.length) {w : World} (ha : IntsAt w ao L) (hb : IntsAt w bo L) : Calls Try.prog 27 #[.slice ao n c, .slice bo m d] w fun e w' => e = .returned (.bool true) ∧ Mod noB w w' := by
  subst hn; subst hm
  exact (ints_any ao bo L L c d w ha hb).mono fun e w' hh => by simpa using hh
theorem kept_ints6 {w : World} {ao : Option Addr} {L : List Int} (h : IntsAt w ao L) : Kept w (fun W => IntsAt W ao L) := fun W hm => h.mod hm
theorem kept_spans6 {w : World} {ao : Option Addr} {L : List (Int × Int)} (h : ListAt w.heap.size w 2 spC ao L) : Kept w (fun W => ListAt W.heap.size W 2 spC ao L) := fun W hm => (h.low (Low.ofN hm (Nat.le_refl _))).mono hm.size
@[reducible] def intsX : Obj := .cells #[.int .i64 (-1), .int .i64 0] 3
@[reducible] def spX : Obj := .cells (spC (109450, 109739)) 24
@[reducible] def rdX : Obj := .cells (rdC ⟨exCam, 98⟩) 54
@[reducible] def t2X : Obj := .cells (tsC exCam ++ tsC exRough) 29
@[reducible] def t3X : Obj := .cells (tsC exCam ++ tsC exRough ++ tsC exFine) 29

set_option maxRecDepth 100000 in
set_option maxHeartbeats 8000000 in
theorem alive_any (w : World) : Calls Try.prog 13 #[] w fun e w' => e = .returned (.bool true) ∧ Mod noB w w' := by
  have HA : Hold (Kept w (fun W => Mod noB w W)) := ⟨fun W h => h⟩
  go_enter Try.func13, Try.ntmps13
  go_wp2_with (first
    | (go_at_call 28; refine (sample_any _).mono ?_; rintro e s1 ⟨as1, rfl, hA, hM⟩
       have hT : Mod noB w s1 := (Mod.refl noB w).trans hM
       have HA := Hold.mk (HA.out.later hT)
       have HSs1 := Hold.mk (kept_block hA)
       clear hA
       clear hM hT)
    | (go_at_call 29; refine (fine_any _).mono ?_; rintro e f1 ⟨rfl, hM⟩
       have hT : Mod noB s1 f1 := ((Mod.refl noB s1).alloc intsX).trans hM
       have HA := Hold.mk (HA.out.later hT)
       have HSs1 := Hold.mk (HSs1.out.later hT)
       have HI := Hold.mk (kept_block (hM.at (World.alloc_heap_new s1 intsX) id))
       clear hM hT)
    | (go_at_call 14; refine (callReads HSs1.out.now HI.out.now).mono ?_; rintro e r1 ⟨rfl, hM⟩
       have hT : Mod noB f1 r1 := (Mod.refl noB f1).trans hM
       have HA := Hold.mk (HA.out.later hT)
       clear hM hT)
    | (go_at_call 28; refine (sample_any _).mono ?_; rintro e s2 ⟨as2, rfl, hA, hM⟩
       have hT : Mod noB r1 s2 := ((Mod.refl noB r1).alloc spX).trans hM
       have HA := Hold.mk (HA.out.later hT)
       have HSs2 := Hold.mk (kept_block hA)
       clear hA
       have HB1 := Hold.mk (kept_block (hM.at (World.alloc_heap_new r1 spX) id))
       clear hM hT)
    | (go_at_call 30; refine (camera_any _).mono ?_; rintro e c2 ⟨rfl, hM⟩
       have hT : Mod noB s2 c2 := (Mod.refl noB s2).trans hM
       have HA := Hold.mk (HA.out.later hT)
       have HSs2 := Hold.mk (HSs2.out.later hT)
       have HB1 := Hold.mk (HB1.out.later hT)
       clear hM hT)
    | (go_at_call 16; refine (callJudge (HSs2.out _ ((Mod.refl noB c2).alloc rdX)) (World.alloc_heap_new c2 rdX)).mono ?_; rintro e j2 ⟨rfl, hM⟩
       have hT : Mod noB c2 j2 := ((Mod.refl noB c2).alloc rdX).trans hM
       have HA := Hold.mk (HA.out.later hT)
       have HB1 := Hold.mk (HB1.out.later hT)
       clear hM hT)
    | (go_at_call 28; refine (sample_any _).mono ?_; rintro e s3 ⟨as3, rfl, hA, hM⟩
       have hT : Mod noB j2 s3 := (Mod.refl noB j2).trans hM
       have HA := Hold.mk (HA.out.later hT)
       have HB1 := Hold.mk (HB1.out.later hT)
       have HSs3 := Hold.mk (kept_block hA)
       clear hA
       clear hM hT)
    | (go_at_call 30; refine (camera_any _).mono ?_; rintro e c3 ⟨rfl, hM⟩
       have hT : Mod noB s3 c3 := (Mod.refl noB s3).trans hM
       have HA := Hold.mk (HA.out.later hT)
       have HSs3 := Hold.mk (HSs3.out.later hT)
       have HB1 := Hold.mk (HB1.out.later hT)
       clear hM hT)
    | (go_at_call 18; refine (callLeft (HSs3.out _ ((Mod.refl noB c3).alloc rdX)) (World.alloc_heap_new c3 rdX)).mono ?_; rintro e l3 ⟨a5, k5, rfl, hl5, hM⟩
       have hT : Mod noB c3 l3 := ((Mod.refl noB c3).alloc rdX).trans hM
       have HA := Hold.mk (HA.out.later hT)
       have HB1 := Hold.mk (HB1.out.later hT)
       have HL5 := Hold.mk (kept_spans6 hl5)
       clear hl5
       clear hM hT)
    | (go_at_call 28; refine (sample_any _).mono ?_; rintro e s4 ⟨as4, rfl, hA, hM⟩
       have hT : Mod noB l3 s4 := (Mod.refl noB l3).trans hM
       have HA := Hold.mk (HA.out.later hT)
       have HB1 := Hold.mk (HB1.out.later hT)
       have HL5 := Hold.mk (HL5.out.later hT)
       have HSs4 := Hold.mk (kept_block hA)
       clear hA
       clear hM hT)
    | (go_at_call 30; refine (camera_any _).mono ?_; rintro e c4 ⟨rfl, hM⟩
       have hT : Mod noB s4 c4 := (Mod.refl noB s4).trans hM
       have HA := Hold.mk (HA.out.later hT)
       have HB1 := Hold.mk (HB1.out.later hT)
       have HL5 := Hold.mk (HL5.out.later hT)
       have HSs4 := Hold.mk (HSs4.out.later hT)
       clear hM hT)
    | (go_at_call 42; refine (rough_any _).mono ?_; rintro e g4 ⟨rfl, hM⟩
       have hT : Mod noB c4 g4 := (Mod.refl noB c4).trans hM
       have HA := Hold.mk (HA.out.later hT)
       have HB1 := Hold.mk (HB1.out.later hT)
       have HL5 := Hold.mk (HL5.out.later hT)
       have HSs4 := Hold.mk (HSs4.out.later hT)
       clear hM hT)
    | (go_at_call 21; refine (callSlips (HSs4.out _ ((Mod.refl noB g4).alloc t2X)) (World.alloc_heap_new g4 t2X)).mono ?_; rintro e p4 ⟨a7, k7, rfl, hi7, hM⟩
       have hT : Mod noB g4 p4 := ((Mod.refl noB g4).alloc t2X).trans hM
       have HA := Hold.mk (HA.out.later hT)
       have HB1 := Hold.mk (HB1.out.later hT)
       have HL5 := Hold.mk (HL5.out.later hT)
       have HI7 := Hold.mk (kept_ints6 hi7)
       clear hi7
       clear hM hT)
    | (go_at_call 28; refine (sample_any _).mono ?_; rintro e s5 ⟨as5, rfl, hA, hM⟩
       have hT : Mod noB p4 s5 := (Mod.refl noB p4).trans hM
       have HA := Hold.mk (HA.out.later hT)
       have HB1 := Hold.mk (HB1.out.later hT)
       have HL5 := Hold.mk (HL5.out.later hT)
       have HI7 := Hold.mk (HI7.out.later hT)
       have HSs5 := Hold.mk (kept_block hA)
       clear hA
       clear hM hT)
    | (go_at_call 30; refine (camera_any _).mono ?_; rintro e c5 ⟨rfl, hM⟩
       have hT : Mod noB s5 c5 := (Mod.refl noB s5).trans hM
       have HA := Hold.mk (HA.out.later hT)
       have HB1 := Hold.mk (HB1.out.later hT)
       have HL5 := Hold.mk (HL5.out.later hT)
       have HI7 := Hold.mk (HI7.out.later hT)
       have HSs5 := Hold.mk (HSs5.out.later hT)
       clear hM hT)
    | (go_at_call 42; refine (rough_any _).mono ?_; rintro e g5 ⟨rfl, hM⟩
       have hT : Mod noB c5 g5 := (Mod.refl noB c5).trans hM
       have HA := Hold.mk (HA.out.later hT)
       have HB1 := Hold.mk (HB1.out.later hT)
       have HL5 := Hold.mk (HL5.out.later hT)
       have HI7 := Hold.mk (HI7.out.later hT)
       have HSs5 := Hold.mk (HSs5.out.later hT)
       clear hM hT)
    | (go_at_call 29; refine (fine_any _).mono ?_; rintro e f5 ⟨rfl, hM⟩
       have hT : Mod noB g5 f5 := (Mod.refl noB g5).trans hM
       have HA := Hold.mk (HA.out.later hT)
       have HB1 := Hold.mk (HB1.out.later hT)
       have HL5 := Hold.mk (HL5.out.later hT)
       have HI7 := Hold.mk (HI7.out.later hT)
       have HSs5 := Hold.mk (HSs5.out.later hT)
       clear hM hT)
    | (go_at_call 23; refine (callEnough (HSs5.out _ ((Mod.refl noB f5).alloc t3X)) (World.alloc_heap_new f5 t3X)).mono ?_; rintro e e5 ⟨rfl, hM⟩
       have hT : Mod noB f5 e5 := ((Mod.refl noB f5).alloc t3X).trans hM
       have HA := Hold.mk (HA.out.later hT)
       have HB1 := Hold.mk (HB1.out.later hT)
       have HL5 := Hold.mk (HL5.out.later hT)
       have HI7 := Hold.mk (HI7.out.later hT)
       clear hM hT)
    | (go_at_call 28; refine (sample_any _).mono ?_; rintro e s6 ⟨as6, rfl, hA, hM⟩
       have hT : Mod noB e5 s6 := (Mod.refl noB e5).trans hM
       have HA := Hold.mk (HA.out.later hT)
       have HB1 := Hold.mk (HB1.out.later hT)
       have HL5 := Hold.mk (HL5.out.later hT)
       have HI7 := Hold.mk (HI7.out.later hT)
       have HSs6 := Hold.mk (kept_block hA)
       clear hA
       clear hM hT)
    | (go_at_call 30; refine (camera_any _).mono ?_; rintro e c6 ⟨rfl, hM⟩
       have hT : Mod noB s6 c6 := (Mod.refl noB s6).trans hM
       have HA := Hold.mk (HA.out.later hT)
       have HB1 := Hold.mk (HB1.out.later hT)
       have HL5 := Hold.mk (HL5.out.later hT)
       have HI7 := Hold.mk (HI7.out.later hT)
       have HSs6 := Hold.mk (HSs6.out.later hT)
       clear hM hT)
    | (go_at_call 30; refine (camera_any _).mono ?_; rintro e d6 ⟨rfl, hM⟩
       have hT : Mod noB c6 d6 := ((Mod.refl noB c6).alloc rdX).trans hM
       have HA := Hold.mk (HA.out.later hT)
       have HB1 := Hold.mk (HB1.out.later hT)
       have HL5 := Hold.mk (HL5.out.later hT)
       have HI7 := Hold.mk (HI7.out.later hT)
       have HSs6 := Hold.mk (HSs6.out.later hT)
       have HR6 := Hold.mk (kept_block (hM.at (World.alloc_heap_new c6 rdX) id))
       clear hM hT)
    | (go_at_call 42; refine (rough_any _).mono ?_; rintro e g6 ⟨rfl, hM⟩
       have hT : Mod noB d6 g6 := (Mod.refl noB d6).trans hM
       have HA := Hold.mk (HA.out.later hT)
       have HB1 := Hold.mk (HB1.out.later hT)
       have HL5 := Hold.mk (HL5.out.later hT)
       have HI7 := Hold.mk (HI7.out.later hT)
       have HSs6 := Hold.mk (HSs6.out.later hT)
       have HR6 := Hold.mk (HR6.out.later hT)
       clear hM hT)
    | (go_at_call 29; refine (fine_any _).mono ?_; rintro e f6 ⟨rfl, hM⟩
       have hT : Mod noB g6 f6 := (Mod.refl noB g6).trans hM
       have HA := Hold.mk (HA.out.later hT)
       have HB1 := Hold.mk (HB1.out.later hT)
       have HL5 := Hold.mk (HL5.out.later hT)
       have HI7 := Hold.mk (HI7.out.later hT)
       have HSs6 := Hold.mk (HSs6.out.later hT)
       have HR6 := Hold.mk (HR6.out.later hT)
       clear hM hT)
    | (go_at_call 25; refine (callNext (HSs6.out _ ((Mod.refl noB f6).alloc t3X)) (HR6.out _ ((Mod.refl noB f6).alloc t3X)) (World.alloc_heap_new f6 t3X)).mono ?_; rintro e n6 ⟨rfl, hM⟩
       have hT : Mod noB f6 n6 := ((Mod.refl noB f6).alloc t3X).trans hM
       have HA := Hold.mk (HA.out.later hT)
       have HB1 := Hold.mk (HB1.out.later hT)
       have HL5 := Hold.mk (HL5.out.later hT)
       have HI7 := Hold.mk (HI7.out.later hT)
       clear hM hT))
  refine alive_region (b1 := r1.heap.size) (a5 := a5) (k5 := k5) rfl rfl rfl rfl rfl rfl rfl HB1.out HL5.out ?_
  intro vs w7 hv hm7
  have HA := Hold.mk (HA.out.later hm7)
  have HI7 := Hold.mk (HI7.out.later hm7)
  clear hm7
  simp only [avDs, List.foldl_cons, List.foldl_nil, Act.put, List.setIfInBounds_toArray, List.set_cons_succ, List.set_cons_zero, List.getD_cons_zero, List.getD_cons_succ, reduceIte, Nat.reduceEqDiff, Nat.reduceAdd, hv]
  go_wp2_with (go_at_call 27; refine (callInts (L := [-1, 0]) rfl rfl (HI7.out _ ((Mod.refl noB w7).alloc intsX)) (ints_lit [-1, 0] (World.alloc_heap_new w7 intsX) rfl (by decide))).mono ?_; rintro e w8 ⟨rfl, hM⟩
               have HA := Hold.mk (HA.out.later (((Mod.refl noB w7).alloc intsX).trans hM)); clear hM)
  go_ret
  exact ⟨rfl, HA.out.now⟩

end Go.Proofs.Ytknbcmildpmokaa

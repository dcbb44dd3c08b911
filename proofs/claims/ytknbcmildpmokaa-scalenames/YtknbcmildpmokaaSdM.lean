/- ScaleNames: the walk. -/
import Derived.Test.YtknbcmildpmokaaSdL
set_option linter.unusedSimpArgs false
set_option linter.unusedVariables false
namespace Go.Proofs.Ytknbcmildpmokaa
open Go.RowKit Go.Shelf


theorem callReads0 {ab ib : Nat} {w : World} (h : KX ab w) (hi : w.heap[ib]? = some (.cells #[.int .i64 0, .int .i64 0] 3)) : Calls Try.prog 14 #[bxX ab, .slice (some ⟨ib, 0, none⟩) 2 2, tsV exFine] w fun e w' => e = .returned (.tuple #[.agg #[.int .i64 110450, .int .i64 110740], .int .i64 0]) ∧ Mod noB w w' :=
  (reads14_any w.heap.size (some ⟨ab, 0, none⟩) (some ⟨ib, 0, none⟩) 2 2 exBox [0, 0] exFine w (Nat.le_refl _) (kinds_sample h) (ints_lit [0, 0] hi rfl (by decide))).mono fun e w' hh => by rw [ex_reads0] at hh; exact hh
theorem callReads1 {ab ib : Nat} {w : World} (h : KX ab w) (hi : w.heap[ib]? = some (.cells #[.int .i64 (-1), .int .i64 0] 3)) : Calls Try.prog 14 #[bxX ab, .slice (some ⟨ib, 0, none⟩) 2 2, tsV exCam] w fun e w' => e = .returned (.tuple #[.agg #[.int .i64 97, .int .i64 99], .int .i64 0]) ∧ Mod noB w w' :=
  (reads14_any w.heap.size (some ⟨ab, 0, none⟩) (some ⟨ib, 0, none⟩) 2 2 exBox [-1, 0] exCam w (Nat.le_refl _) (kinds_sample h) (ints_lit [-1, 0] hi rfl (by decide))).mono fun e w' hh => by rw [ex_reads1] at hh; exact hh
theorem callJudge2 {ab rb : Nat} {w : World} (h : KX ab w) (hr : w.heap[rb]? = some (.cells (rdC ⟨exCam, 98⟩ ++ rdC ⟨exFine, 110600⟩) 54)) : Calls Try.prog 16 #[bxX ab, .slice (some ⟨rb, 0, none⟩) 2 2] w fun e w' => e = .returned (.tuple #[.int .i64 2, .int .i64 0]) ∧ Mod noB w w' :=
  (judge_any w.heap.size (some ⟨ab, 0, none⟩) (some ⟨rb, 0, none⟩) 2 2 exBox [⟨exCam, 98⟩, ⟨exFine, 110600⟩] w (Nat.le_refl _) (kinds_sample h) (list_lit (cs := rdC) (sz := 8) (fun _ => rfl) [⟨exCam, 98⟩, ⟨exFine, 110600⟩] hr rfl (by decide))).mono fun e w' hh => by rw [ex_judge2] at hh; exact hh
theorem callJudge3 {ab rb : Nat} {w : World} (h : KX ab w) (hr : w.heap[rb]? = some (.cells (rdC ⟨exCam, 98⟩ ++ rdC ⟨exFine, 109500⟩) 54)) : Calls Try.prog 16 #[bxX ab, .slice (some ⟨rb, 0, none⟩) 2 2] w fun e w' => e = .returned (.tuple #[.int .i64 0, .int .i64 0]) ∧ Mod noB w w' :=
  (judge_any w.heap.size (some ⟨ab, 0, none⟩) (some ⟨rb, 0, none⟩) 2 2 exBox [⟨exCam, 98⟩, ⟨exFine, 109500⟩] w (Nat.le_refl _) (kinds_sample h) (list_lit (cs := rdC) (sz := 8) (fun _ => rfl) [⟨exCam, 98⟩, ⟨exFine, 109500⟩] hr rfl (by decide))).mono fun e w' hh => by rw [ex_judge3] at hh; exact hh
theorem callLeft2 {ab rb : Nat} {w : World} (h : KX ab w) (hr : w.heap[rb]? = some (.cells (rdC ⟨exCam, 100⟩) 54)) : Calls Try.prog 18 #[bxX ab, .slice (some ⟨rb, 0, none⟩) 1 1] w fun e w' => ∃ a5 k5, e = .returned (.tuple #[.slice a5 2 k5, .int .i64 0]) ∧ ListAt w'.heap.size w' 2 spC a5 [(-1, 1), (-1, 1)] ∧ Mod noB w w' :=
  (left_any w.heap.size (some ⟨ab, 0, none⟩) (some ⟨rb, 0, none⟩) 2 1 exBox [⟨exCam, 100⟩] w (Nat.le_refl _) (kinds_sample h) (list_lit (cs := rdC) (sz := 8) (fun _ => rfl) [⟨exCam, 100⟩] hr rfl (by decide))).mono fun e w' hh => by
    rw [ex_left2] at hh
    obtain ⟨v, rfl, ho, hm⟩ := hh
    obtain ⟨a5, k5, rfl, hl, _⟩ := own_list (l := [((-1 : Int), (1 : Int)), (-1, 1)]) (cs := spC) (sz := 2) (fun _ => rfl) ho (by decide)
    exact ⟨a5, k5, rfl, hl, hm⟩
theorem callSlips2 {ab tb : Nat} {w : World} (h : KX ab w) (ht : w.heap[tb]? = some (.cells (tsC exCam) 29)) : Calls Try.prog 21 #[bxX ab, .slice (some ⟨tb, 0, none⟩) 1 1] w fun e w' => ∃ a7 k7, e = .returned (.tuple #[.slice a7 2 k7, .int .i64 0]) ∧ IntsAt w' a7 [-1, 0] ∧ Mod noB w w' :=
  (slips_any w.heap.size (some ⟨ab, 0, none⟩) (some ⟨tb, 0, none⟩) 2 1 exBox [exCam] w (Nat.le_refl _) (kinds_sample h) (list_lit (cs := tsC) (sz := 7) (fun _ => rfl) [exCam] ht rfl (by decide))).mono fun e w' hh => by
    rw [ex_slips2] at hh
    obtain ⟨a, c, he, hi, hm⟩ := hh
    exact ⟨a, c, he, hi, hm⟩
theorem callSlips3 {ab tb : Nat} {w : World} (h : KX ab w) (ht : w.heap[tb]? = some (.cells (tsC exFine) 29)) : Calls Try.prog 21 #[bxX ab, .slice (some ⟨tb, 0, none⟩) 1 1] w fun e w' => ∃ a7 k7, e = .returned (.tuple #[.slice a7 0 k7, .int .i64 4]) ∧ Mod noB w w' :=
  (slips_any w.heap.size (some ⟨ab, 0, none⟩) (some ⟨tb, 0, none⟩) 2 1 exBox [exFine] w (Nat.le_refl _) (kinds_sample h) (list_lit (cs := tsC) (sz := 7) (fun _ => rfl) [exFine] ht rfl (by decide))).mono fun e w' hh => by
    rw [ex_slips3] at hh
    obtain ⟨a, c, he, hi, hm⟩ := hh
    exact ⟨a, c, he, hm⟩
@[reducible] def ints0X : Obj := .cells #[.int .i64 0, .int .i64 0] 3
@[reducible] def sp1X : Obj := .cells (spC (110450, 110740)) 24
@[reducible] def sp3X : Obj := .cells (spC (97, 99)) 24
@[reducible] def rd2X : Obj := .cells (rdC ⟨exCam, 98⟩ ++ rdC ⟨exFine, 110600⟩) 54
@[reducible] def rd3X : Obj := .cells (rdC ⟨exCam, 98⟩ ++ rdC ⟨exFine, 109500⟩) 54
@[reducible] def rd4X : Obj := .cells (rdC ⟨exCam, 100⟩) 54
@[reducible] def tcX : Obj := .cells (tsC exCam) 29
@[reducible] def tfX : Obj := .cells (tsC exFine) 29

set_option maxRecDepth 100000 in
set_option maxHeartbeats 16000000 in
theorem names_any (w : World) : Calls Try.prog 5 #[] w fun e w' => e = .returned (.bool true) ∧ Mod noB w w' := by
  have HA : Hold (Kept w (fun W => Mod noB w W)) := ⟨fun W h => h⟩
  go_enter Try.func5, Try.ntmps5
  go_wp2_with (first
    | (go_at_call 21; refine (callSlips3 (HSs7.out _ ((Mod.refl noB f7).alloc tfX)) (World.alloc_heap_new f7 tfX)).mono ?_; rintro e p7 ⟨a13, k13, rfl, hM⟩
       have hT : Mod noB f7 p7 := ((Mod.refl noB f7).alloc tfX).trans hM
       have HA := Hold.mk (HA.out.later hT)
       have HB1 := Hold.mk (HB1.out.later hT)
       have HB3 := Hold.mk (HB3.out.later hT)
       have HL9 := Hold.mk (HL9.out.later hT)
       have HI11 := Hold.mk (HI11.out.later hT)
       clear hM hT)
    | (go_at_call 29; refine (fine_any _).mono ?_; rintro e f7 ⟨rfl, hM⟩
       have hT : Mod noB s7 f7 := (Mod.refl noB s7).trans hM
       have HA := Hold.mk (HA.out.later hT)
       have HB1 := Hold.mk (HB1.out.later hT)
       have HB3 := Hold.mk (HB3.out.later hT)
       have HL9 := Hold.mk (HL9.out.later hT)
       have HI11 := Hold.mk (HI11.out.later hT)
       have HSs7 := Hold.mk (HSs7.out.later hT)
       clear hM hT)
    | (go_at_call 28; refine (sample_any _).mono ?_; rintro e s7 ⟨as7, rfl, hA, hM⟩
       have hT : Mod noB p6 s7 := (Mod.refl noB p6).trans hM
       have HA := Hold.mk (HA.out.later hT)
       have HB1 := Hold.mk (HB1.out.later hT)
       have HB3 := Hold.mk (HB3.out.later hT)
       have HL9 := Hold.mk (HL9.out.later hT)
       have HI11 := Hold.mk (HI11.out.later hT)
       have HSs7 := Hold.mk (kept_block hA)
       clear hA
       clear hM hT)
    | (go_at_call 21; refine (callSlips2 (HSs6.out _ ((Mod.refl noB c6).alloc tcX)) (World.alloc_heap_new c6 tcX)).mono ?_; rintro e p6 ⟨a11, k11, rfl, hi11, hM⟩
       have hT : Mod noB c6 p6 := ((Mod.refl noB c6).alloc tcX).trans hM
       have HA := Hold.mk (HA.out.later hT)
       have HB1 := Hold.mk (HB1.out.later hT)
       have HB3 := Hold.mk (HB3.out.later hT)
       have HL9 := Hold.mk (HL9.out.later hT)
       have HI11 := Hold.mk (kept_ints6 hi11)
       clear hi11
       clear hM hT)
    | (go_at_call 30; refine (camera_any _).mono ?_; rintro e c6 ⟨rfl, hM⟩
       have hT : Mod noB s6 c6 := (Mod.refl noB s6).trans hM
       have HA := Hold.mk (HA.out.later hT)
       have HB1 := Hold.mk (HB1.out.later hT)
       have HB3 := Hold.mk (HB3.out.later hT)
       have HL9 := Hold.mk (HL9.out.later hT)
       have HSs6 := Hold.mk (HSs6.out.later hT)
       clear hM hT)
    | (go_at_call 28; refine (sample_any _).mono ?_; rintro e s6 ⟨as6, rfl, hA, hM⟩
       have hT : Mod noB l5 s6 := (Mod.refl noB l5).trans hM
       have HA := Hold.mk (HA.out.later hT)
       have HB1 := Hold.mk (HB1.out.later hT)
       have HB3 := Hold.mk (HB3.out.later hT)
       have HL9 := Hold.mk (HL9.out.later hT)
       have HSs6 := Hold.mk (kept_block hA)
       clear hA
       clear hM hT)
    | (go_at_call 18; refine (callLeft2 (HSs5.out _ ((Mod.refl noB c5).alloc rd4X)) (World.alloc_heap_new c5 rd4X)).mono ?_; rintro e l5 ⟨a9, k9, rfl, hl9, hM⟩
       have hT : Mod noB c5 l5 := ((Mod.refl noB c5).alloc rd4X).trans hM
       have HA := Hold.mk (HA.out.later hT)
       have HB1 := Hold.mk (HB1.out.later hT)
       have HB3 := Hold.mk (HB3.out.later hT)
       have HL9 := Hold.mk (kept_spans6 hl9)
       clear hl9
       clear hM hT)
    | (go_at_call 30; refine (camera_any _).mono ?_; rintro e c5 ⟨rfl, hM⟩
       have hT : Mod noB s5 c5 := (Mod.refl noB s5).trans hM
       have HA := Hold.mk (HA.out.later hT)
       have HB1 := Hold.mk (HB1.out.later hT)
       have HB3 := Hold.mk (HB3.out.later hT)
       have HSs5 := Hold.mk (HSs5.out.later hT)
       clear hM hT)
    | (go_at_call 28; refine (sample_any _).mono ?_; rintro e s5 ⟨as5, rfl, hA, hM⟩
       have hT : Mod noB j4 s5 := (Mod.refl noB j4).trans hM
       have HA := Hold.mk (HA.out.later hT)
       have HB1 := Hold.mk (HB1.out.later hT)
       have HB3 := Hold.mk (HB3.out.later hT)
       have HSs5 := Hold.mk (kept_block hA)
       clear hA
       clear hM hT)
    | (go_at_call 16; refine (callJudge3 (HSs4.out _ ((Mod.refl noB f4).alloc rd3X)) (World.alloc_heap_new f4 rd3X)).mono ?_; rintro e j4 ⟨rfl, hM⟩
       have hT : Mod noB f4 j4 := ((Mod.refl noB f4).alloc rd3X).trans hM
       have HA := Hold.mk (HA.out.later hT)
       have HB1 := Hold.mk (HB1.out.later hT)
       have HB3 := Hold.mk (HB3.out.later hT)
       clear hM hT)
    | (go_at_call 29; refine (fine_any _).mono ?_; rintro e f4 ⟨rfl, hM⟩
       have hT : Mod noB c4 f4 := (Mod.refl noB c4).trans hM
       have HA := Hold.mk (HA.out.later hT)
       have HB1 := Hold.mk (HB1.out.later hT)
       have HB3 := Hold.mk (HB3.out.later hT)
       have HSs4 := Hold.mk (HSs4.out.later hT)
       clear hM hT)
    | (go_at_call 30; refine (camera_any _).mono ?_; rintro e c4 ⟨rfl, hM⟩
       have hT : Mod noB s4 c4 := (Mod.refl noB s4).trans hM
       have HA := Hold.mk (HA.out.later hT)
       have HB1 := Hold.mk (HB1.out.later hT)
       have HB3 := Hold.mk (HB3.out.later hT)
       have HSs4 := Hold.mk (HSs4.out.later hT)
       clear hM hT)
    | (go_at_call 28; refine (sample_any _).mono ?_; rintro e s4 ⟨as4, rfl, hA, hM⟩
       have hT : Mod noB j3 s4 := (Mod.refl noB j3).trans hM
       have HA := Hold.mk (HA.out.later hT)
       have HB1 := Hold.mk (HB1.out.later hT)
       have HB3 := Hold.mk (HB3.out.later hT)
       have HSs4 := Hold.mk (kept_block hA)
       clear hA
       clear hM hT)
    | (go_at_call 16; refine (callJudge2 (HSs3.out _ ((Mod.refl noB f3).alloc rd2X)) (World.alloc_heap_new f3 rd2X)).mono ?_; rintro e j3 ⟨rfl, hM⟩
       have hT : Mod noB f3 j3 := ((Mod.refl noB f3).alloc rd2X).trans hM
       have HA := Hold.mk (HA.out.later hT)
       have HB1 := Hold.mk (HB1.out.later hT)
       have HB3 := Hold.mk (HB3.out.later hT)
       clear hM hT)
    | (go_at_call 29; refine (fine_any _).mono ?_; rintro e f3 ⟨rfl, hM⟩
       have hT : Mod noB c3 f3 := (Mod.refl noB c3).trans hM
       have HA := Hold.mk (HA.out.later hT)
       have HB1 := Hold.mk (HB1.out.later hT)
       have HB3 := Hold.mk (HB3.out.later hT)
       have HSs3 := Hold.mk (HSs3.out.later hT)
       clear hM hT)
    | (go_at_call 30; refine (camera_any _).mono ?_; rintro e c3 ⟨rfl, hM⟩
       have hT : Mod noB s3 c3 := (Mod.refl noB s3).trans hM
       have HA := Hold.mk (HA.out.later hT)
       have HB1 := Hold.mk (HB1.out.later hT)
       have HB3 := Hold.mk (HB3.out.later hT)
       have HSs3 := Hold.mk (HSs3.out.later hT)
       clear hM hT)
    | (go_at_call 28; refine (sample_any _).mono ?_; rintro e s3 ⟨as3, rfl, hA, hM⟩
       have hT : Mod noB r2 s3 := ((Mod.refl noB r2).alloc sp3X).trans hM
       have HA := Hold.mk (HA.out.later hT)
       have HB1 := Hold.mk (HB1.out.later hT)
       have HSs3 := Hold.mk (kept_block hA)
       clear hA
       have HB3 := Hold.mk (kept_block (hM.at (World.alloc_heap_new r2 sp3X) id))
       clear hM hT)
    | (go_at_call 14; refine (callReads1 HSs2.out.now HJ.out.now).mono ?_; rintro e r2 ⟨rfl, hM⟩
       have hT : Mod noB c2 r2 := (Mod.refl noB c2).trans hM
       have HA := Hold.mk (HA.out.later hT)
       have HB1 := Hold.mk (HB1.out.later hT)
       clear hM hT)
    | (go_at_call 30; refine (camera_any _).mono ?_; rintro e c2 ⟨rfl, hM⟩
       have hT : Mod noB s2 c2 := ((Mod.refl noB s2).alloc intsX).trans hM
       have HA := Hold.mk (HA.out.later hT)
       have HB1 := Hold.mk (HB1.out.later hT)
       have HSs2 := Hold.mk (HSs2.out.later hT)
       have HJ := Hold.mk (kept_block (hM.at (World.alloc_heap_new s2 intsX) id))
       clear hM hT)
    | (go_at_call 28; refine (sample_any _).mono ?_; rintro e s2 ⟨as2, rfl, hA, hM⟩
       have hT : Mod noB r1 s2 := ((Mod.refl noB r1).alloc sp1X).trans hM
       have HA := Hold.mk (HA.out.later hT)
       have HSs2 := Hold.mk (kept_block hA)
       clear hA
       have HB1 := Hold.mk (kept_block (hM.at (World.alloc_heap_new r1 sp1X) id))
       clear hM hT)
    | (go_at_call 14; refine (callReads0 HSs1.out.now HI.out.now).mono ?_; rintro e r1 ⟨rfl, hM⟩
       have hT : Mod noB f1 r1 := (Mod.refl noB f1).trans hM
       have HA := Hold.mk (HA.out.later hT)
       clear hM hT)
    | (go_at_call 29; refine (fine_any _).mono ?_; rintro e f1 ⟨rfl, hM⟩
       have hT : Mod noB s1 f1 := ((Mod.refl noB s1).alloc ints0X).trans hM
       have HA := Hold.mk (HA.out.later hT)
       have HSs1 := Hold.mk (HSs1.out.later hT)
       have HI := Hold.mk (kept_block (hM.at (World.alloc_heap_new s1 ints0X) id))
       clear hM hT)
    | (go_at_call 28; refine (sample_any _).mono ?_; rintro e s1 ⟨as1, rfl, hA, hM⟩
       have hT : Mod noB w s1 := (Mod.refl noB w).trans hM
       have HA := Hold.mk (HA.out.later hT)
       have HSs1 := Hold.mk (kept_block hA)
       clear hA
       clear hM hT))
  refine names_region (b1 := r1.heap.size) (b3 := r2.heap.size) (a9 := a9) (k9 := k9) (a11 := a11) (k11 := k11) rfl rfl rfl rfl rfl rfl rfl rfl rfl rfl rfl rfl rfl rfl HB1.out HB3.out HL9.out HI11.out ?_
  intro a' w' hd hz h0 hM
  rename_i K0 hK0
  refine hK0 _ _ ?_
  refine wp_ret ?_
  clear K0 hK0
  refine bodyPost_ret (v := .bool true) ((results_tmp (fn := Try.f5) (t := 0) rfl a'.tmps Try.prog w').trans (by rw [show a'.tmps.getD 0 undef = .bool true from h0])) hd ?_
  exact ⟨rfl, HA.out.now.trans hM⟩

end Go.Proofs.Ytknbcmildpmokaa

/- awake: the walk. -/
import Derived.Test.YtdncppempgpooaaDoorRvK
import Derived.Test.YtdncppempgpooaaDoorRvS
import Derived.Deep.RegionHeld3
set_option linter.unusedSimpArgs false
set_option linter.unusedVariables false
namespace Go.Proofs.YtdncppempgpooaaDoor
open Go.RowKit Go.Shelf

abbrev dieBox (ab : Nat) : Obj := .cells #[.slice (some ⟨ab, 0, none⟩) 2 2, .int .i64 40, .int .i64 10, .int .i64 3] 24
abbrev spBox (s : Int × Int) : Obj := .cells (spC s) 28

theorem ints2 (w : World) (A : Obj) (x y z : Int) : IntsAt ((w.alloc A).alloc (.cells #[.int .i64 x, .int .i64 y, .int .i64 z] 3)) (some ⟨w.heap.size + 1, 0, none⟩) [x, y, z] :=
  ints_lit [x, y, z] (allocL_at [A, .cells #[.int .i64 x, .int .i64 y, .int .i64 z] 3] w 1 _ rfl) rfl (by simp)
theorem ints1 (w : World) (x y z : Int) : IntsAt (w.alloc (.cells #[.int .i64 x, .int .i64 y, .int .i64 z] 3)) (some ⟨w.heap.size, 0, none⟩) [x, y, z] :=
  ints_lit [x, y, z] (World.alloc_heap_new _ _) rfl (by simp)

set_option maxRecDepth 100000 in
set_option maxHeartbeats 4000000 in
theorem awake_any (w : World) (hT : Tab w) : Calls Tryd.prog 13 #[] w fun e w' => e = .returned (.bool true) ∧ Mod noB w w' := by
  have hw1 : 1 < w.heap.size := World.block_lt_of_cell? _ _ (hT.at_ 0 (by omega))
  have HT := Hold.mk (And.intro hT hw1)
  clear hT hw1
  have H0 := Hold.mk trivial
  go_enter Tryd.func13, Tryd.ntmps13
  go_wp2_with (first
    | (go_at_call 37; refine (sample_any _).mono ?_; rintro e wS ⟨ab, sb, rfl, hA, hS, hM⟩
       have HI := Hold.mk (show Kept wS (fun W => InX wS.heap.size ab sb W ∧ Mod noB w W) from fun W h => ⟨⟨(blades_sample hA (at_ltS hA)).low (Low.ofN h (Nat.le_refl _)), (stints_sample hS (at_ltS hS)).low (Low.ofN h (Nat.le_refl _)), h.size, HT.out.1.same ((hM.trans h).block 1 HT.out.2 id), by have := HT.out.2; have := hM.size; omega⟩, hM.trans h⟩)
       clear hM hA hS H0)
    | (go_at_call 14; have hY := (HI.out _ ((Mod.refl noB wS).alloc (dieBox ab))).1; with_reducible refine (callOff hY).mono ?_; clear hY; rintro e wO ⟨rfl, hM⟩
       have HD := Hold.mk (kept_block (hM.at (World.alloc_heap_new wS (dieBox ab)) id))
       have HI := Hold.mk (HI.out.later (((Mod.refl noB wS).alloc (dieBox ab)).trans hM))
       clear hM)
    | (go_at_call 16; have hY := (HI.out _ ((Mod.refl noB wO).alloc (spBox (20, 35)))).1; with_reducible refine (callLasts hY).mono ?_; clear hY; rintro e wL ⟨rfl, hM⟩
       have hX : Mod noB wO wL := ((Mod.refl noB wO).alloc (spBox (20, 35))).trans hM
       have HO := Hold.mk (kept_block (hM.at (World.alloc_heap_new wO (spBox (20, 35))) id))
       have HD := Hold.mk (HD.out.later hX)
       have HI := Hold.mk (HI.out.later hX)
       clear hM hX)
    | (go_at_call 18; have hY := (HI.out _ (((Mod.refl noB wL).alloc (spBox (36, 7000))).alloc (.cells #[.int .i64 1, .int .i64 1, .int .i64 1] 3))).1; with_reducible refine (callFollow hY (ints2 wL (spBox (36, 7000)) 1 1 1)).mono ?_; clear hY; rintro e wF ⟨rfl, hM⟩
       have hX : Mod noB wL wF := (((Mod.refl noB wL).alloc (spBox (36, 7000))).alloc _).trans hM
       have HL := Hold.mk (kept_block (((Mod.refl noB _).alloc _).trans hM |>.at (World.alloc_heap_new wL (spBox (36, 7000))) id))
       have HO := Hold.mk (HO.out.later hX)
       have HD := Hold.mk (HD.out.later hX)
       have HI := Hold.mk (HI.out.later hX)
       clear hM hX)
    | (go_at_call 18; have hY := (HI.out _ ((Mod.refl noB wF).alloc (.cells #[.int .i64 1, .int .i64 0, .int .i64 1] 3))).1; with_reducible refine (callFollow2 hY (ints1 wF 1 0 1)).mono ?_; clear hY; rintro e wG ⟨rfl, hM⟩
       have hX : Mod noB wF wG := ((Mod.refl noB wF).alloc _).trans hM
       have HL := Hold.mk (HL.out.later hX)
       have HO := Hold.mk (HO.out.later hX)
       have HD := Hold.mk (HD.out.later hX)
       have HI := Hold.mk (HI.out.later hX)
       clear hM hX)
    | (go_at_call 25; have hY := (HI.out _ (Mod.refl noB wG)).1; with_reducible refine (callPlan hY).mono ?_; clear hY; rintro e wP ⟨a1, k1, rfl, i1, hX⟩
       have HP := Hold.mk (kept_ints i1)
       have HL := Hold.mk (HL.out.later hX)
       have HO := Hold.mk (HO.out.later hX)
       have HD := Hold.mk (HD.out.later hX)
       have HI := Hold.mk (HI.out.later hX)
       clear hX i1)
    | (go_at_call 20; have hY := (HI.out _ (Mod.refl noB wP)).1; with_reducible refine (callProof hY).mono ?_; clear hY; rintro e wR ⟨a2, k2, a3, k3, rfl, i2, i3, hX⟩
       have HR := Hold.mk (kept_spans i2)
       have HQ := Hold.mk (kept_ints i3)
       have HP := Hold.mk (HP.out.later hX)
       have HL := Hold.mk (HL.out.later hX)
       have HO := Hold.mk (HO.out.later hX)
       have HI := Hold.mk (HI.out.later hX)
       clear hX i2 i3; have K0 := Hold.mk trivial)
    | (refine wpList_load_row rfl 24 (.tmp 1) rfl wS.heap.size rfl 24 _ (0, 0) _ (HD.out _ (by first | exact Mod.refl _ _ | exact (Mod.refl _ _).alloc _ | exact ((Mod.refl _ _).alloc _).alloc _)) Tryd.underlying24 rfl info24 ?_))
  refine awake_last (b3 := wO.heap.size) (b5 := wL.heap.size) rfl rfl rfl rfl rfl rfl rfl rfl rfl rfl rfl rfl rfl rfl rfl rfl rfl rfl HO.out HL.out HP.out HR.out HQ.out ?_
  intro a' w' hd hz h0 hM
  rename_i K0 hK0
  refine hK0 _ _ ?_
  refine wp_ret ?_
  clear K0 hK0
  refine bodyPost_ret (v := .bool true) ((results_tmp (fn := Tryd.f13) (t := 0) rfl a'.tmps Tryd.prog w').trans (by rw [show a'.tmps.getD 0 undef = .bool true from h0])) hd ?_
  exact ⟨rfl, HI.out.now.2.trans hM⟩

set_option maxHeartbeats 400000 in
theorem far_more (ao so po : Option Addr) (cap n m k scap pcap : Nat) (x y z : Int) (w : World) (hn : n ≤ 9223372036854775807) (hm : m ≤ 9223372036854775807) (hk : k ≤ 9223372036854775807) :
    Calls Tryd.prog 12 #[.agg #[.slice ao n cap, .int .i64 x, .int .i64 y, .int .i64 z], .slice so m scap, .slice po k pcap] w fun e w' => e = .returned (.bool (decide (10 < (n : Int)) || decide (12 < (m : Int)) || decide (12 < (k : Int)))) ∧ Mod noB w w' := by
  by_cases h1 : 10 < (n : Int) <;> by_cases h2 : 12 < (m : Int) <;> by_cases h3 : 12 < (k : Int)
  all_goals
    go_enter Tryd.func12, Tryd.ntmps12
    go_wp2
    go_ret
    exact ⟨by simp [h1, h2, h3], (Mod.refl _ _).alloc _⟩

end Go.Proofs.YtdncppempgpooaaDoor

/- CutJoins: any two pieces made one are the document's, or why they are not made one. -/
import Derived.Test.YtogalmkeipigeaaAwake
set_option linter.unusedSimpArgs false
set_option linter.unusedVariables false
namespace Go.Proofs.Ytogalmkeipigeaa
open Go.RowKit

theorem join_any (W H : Int) (ao : Option Addr) (zs : List Int) (cap : Nat) (a b : Int) (w : World) (hs : IntsAt w ao zs) :
    Calls Try.prog 27 #[cutV W H ao zs.length cap, .int .i64 a, .int .i64 b] w fun e w' => JoinOut e w w' (joinR W H zs a b) := by
  by_cases h : (checkR W H zs).2 = 0
  · obtain ⟨W, H, rfl, rfl, C⟩ := isCutB_true (checkR_ok h).1
    exact join_yes C ao cap a b w hs h
  · exact join_no W H ao zs cap a b w hs h
theorem refJoin_any (W H : Int) (ao : Option Addr) (zs : List Int) (cap : Nat) (a b : Int) (w : World) (hs : IntsAt w ao zs) :
    Calls Try.prog 28 #[cutV W H ao zs.length cap, .int .i64 a, .int .i64 b] w fun e w' => JoinOut e w w' (joinR W H zs a b) := by
  by_cases h : (checkR W H zs).2 = 0
  · obtain ⟨W, H, rfl, rfl, C⟩ := isCutB_true (checkR_ok h).1
    exact refJoin_yes C ao cap a b w hs h
  · exact refJoin_no W H ao zs cap a b w hs h

set_option maxRecDepth 100000 in
set_option maxHeartbeats 2000000 in
theorem cutJoins_large (W H : Int) (ao : Option Addr) (n cap : Nat) (a b : Int) (w : World) (hn : 288 < n) :
    Calls Try.prog 5 #[cutV W H ao n cap, .int .i64 a, .int .i64 b] w fun e w' => e = .returned (.bool true) ∧ Mod noB w w' := by
  have hd : decide (288 < (n : Int)) = true := by simp; omega
  have HL : Hold (∀ w1, Calls Try.prog 12 #[cutV W H ao n cap] w1 fun e w' => e = .returned (.bool true) ∧ Mod noB w1 w') := ⟨fun w1 => by rw [← hd]; exact large_any W H ao n cap w1⟩
  have HM0 := Hold.mk ((Mod.refl noB w).alloc (.cells #[.int .i64 W, .int .i64 H, .slice ao n cap] 24))
  clear hd hn
  go_enter Try.func5, Try.ntmps5
  go_wp2_with (first
    | (go_at_call 12; refine (HL.out _).mono ?_; rintro e w1 ⟨rfl, hM1⟩; have HM1 := Hold.mk hM1; clear hM1)
    | (go_at_call 13; refine (awake_any w1).mono ?_; rintro e w2 ⟨rfl, hM2⟩; have HM2 := Hold.mk hM2; clear hM2))
  go_ret
  exact ⟨rfl, (HM0.out.trans HM1.out).trans HM2.out⟩

set_option maxRecDepth 100000 in
set_option maxHeartbeats 2000000 in
theorem cutJoins_small (W H : Int) (ao : Option Addr) (zs : List Int) (cap : Nat) (a b : Int) (w : World) (hs : IntsAt w ao zs) (hn : zs.length ≤ 288) :
    Calls Try.prog 5 #[cutV W H ao zs.length cap, .int .i64 a, .int .i64 b] w fun e w' => e = .returned (.bool true) ∧ Mod noB w w' := by
  have hd : decide (288 < (zs.length : Int)) = false := by simp; omega
  have HL : Hold (∀ w1, Calls Try.prog 12 #[cutV W H ao zs.length cap] w1 fun e w' => e = .returned (.bool false) ∧ Mod noB w1 w') := ⟨fun w1 => by rw [← hd]; exact large_any W H ao zs.length cap w1⟩
  have hbc := World.alloc_heap_new w (.cells #[.int .i64 W, .int .i64 H, .slice ao zs.length cap] 24)
  have HB : Hold (∀ w1 : World, Mod noB (w.alloc (.cells #[.int .i64 W, .int .i64 H, .slice ao zs.length cap] 24)) w1 → IntsAt w1 ao zs ∧ CutAt w1 w.heap.size W H ao zs.length cap) := ⟨fun w1 h => ⟨(hs.alloc _).mod h (fun _ _ _ _ h => h), cutAt_of (h.at hbc id)⟩⟩
  have HM0 := Hold.mk ((Mod.refl noB w).alloc (.cells #[.int .i64 W, .int .i64 H, .slice ao zs.length cap] 24))
  obtain ⟨r, hr⟩ : ∃ r, joinR W H zs a b = r := ⟨_, rfl⟩
  obtain ⟨⟨X, Y, L⟩, er⟩ := r
  have HJ := Hold.mk (fun (w1 : World) (h : IntsAt w1 ao zs) => join_any W H ao zs cap a b w1 h)
  have HK := Hold.mk (fun (w1 : World) (h : IntsAt w1 ao zs) => refJoin_any W H ao zs cap a b w1 h)
  rw [hr] at HJ HK
  clear hd hn hs hbc hr
  go_enter Try.func5, Try.ntmps5
  go_wp2_with (first
    | (go_at_call 12; refine (HL.out _).mono ?_; rintro e w1 ⟨rfl, hM1⟩; obtain ⟨_, c0, c1, c2⟩ := HB.out _ hM1; have HM1 := Hold.mk hM1; clear hM1)
    | (go_at_call 27; refine (HJ.out w1 (HB.out _ HM1.out).1).mono ?_; rintro e w2 ⟨ao2, cap2, rfl, hI2, _, hM2⟩
       obtain ⟨_, d0, d1, d2⟩ := HB.out _ (HM1.out.trans hM2)
       have hz2 : w.heap.size < w2.heap.size := (by have := (HM1.out.trans hM2).size; simp at this; omega)
       have HM2 := Hold.mk (And.intro hI2 hM2)
       clear hI2 hM2 c0 c1 c2)
    | (go_at_call 28; refine (HK.out _ (HB.out _ ((HM1.out.trans HM2.out.2).alloc _)).1).mono ?_; rintro e w3 ⟨ao3, cap3, rfl, hI3, _, hM3⟩
       have hb3 := hM3.at (World.alloc_heap_new w2 (.cells #[.int .i64 X, .int .i64 Y, .slice ao2 L.length cap2] 24)) id
       have hM23 : Mod noB w2 w3 := ((Mod.refl noB w2).alloc _).trans hM3
       have f0 : w3.cell? ⟨w2.heap.size, 0, none⟩ = some (.int .i64 X) := (by simp [World.cell?, hb3])
       have f1 : w3.cell? ⟨w2.heap.size, 1, none⟩ = some (.int .i64 Y) := (by simp [World.cell?, hb3])
       have f2 : w3.cell? ⟨w2.heap.size, 2, none⟩ = some (.slice ao2 L.length cap2) := (by simp [World.cell?, hb3])
       have hz3 : w2.heap.size < w3.heap.size := (Array.getElem?_eq_some_iff.1 hb3).1
       have HM3 := Hold.mk (And.intro (HM2.out.1.mod hM23 (fun _ _ _ _ h => h)) (And.intro hI3 hM23))
       clear hI3 hM3 hM23 hb3 d0 d1 d2)
    | (go_at_call 29; refine (cut_same X Y ao2 ao3 L cap2 cap3 _ (HM3.out.1.alloc _) (HM3.out.2.1.alloc _)).mono ?_; rintro e w4 ⟨rfl, hM4⟩; have HM4 := Hold.mk hM4; clear hM4 f0 f1 f2)
    | (go_at_call 13; refine (awake_any w4).mono ?_; rintro e w5 ⟨rfl, hM5⟩; have HM5 := Hold.mk hM5; clear hM5))
  go_ret
  exact ⟨rfl, (((((HM0.out.trans HM1.out).trans HM2.out.2).trans HM3.out.2.2).alloc _).trans HM4.out).trans HM5.out⟩
end Go.Proofs.Ytogalmkeipigeaa

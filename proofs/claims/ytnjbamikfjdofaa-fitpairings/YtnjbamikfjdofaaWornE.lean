/- Worn. -/
import Derived.Test.YtnjbamikfjdofaaWorn
set_option linter.unusedSimpArgs false
set_option linter.unusedVariables false
namespace Go.Proofs.Ytnjbamikfjdofaa
open Go.RowKit Go.Shelf

abbrev zeroE : Edg := ⟨0, (0, 0), (0, 0), (0, 0)⟩
/-- What Worn returns. -/
def wornE (s : Edg) (wear : Int × Int) (n : Int) : Edg × Int :=
  if sideB s then (if withinB wear 0 100 && (decide (0 ≤ n) && decide (n ≤ 20000)) then (if s.k = 0 then (zeroE, 6) else if wornB s wear n then (wornR s wear n, 0) else (zeroE, 11)) else (zeroE, 2)) else (zeroE, 1)

theorem side_wide {s : Edg} (h : sideB s = true) (hk : s.k ≠ 0) : (s.k = 1 ∨ s.k = 2) ∧ Small 10000 s.w := by
  simp only [sideB, Bool.or_eq_true, Bool.and_eq_true, beq_iff_eq] at h
  rcases h with h | ⟨h1, ⟨_, h2⟩, _⟩
  · exact absurd h hk
  · exact ⟨h1, within_small h2 (by omega) (by omega)⟩

theorem edges_lit4 {w : World} {a b c : Obj} {cs : Array Value} {t : TypeId} (es : List Edg) (hc : cs.toList = es.flatMap edL) (hs : es.length ≤ 1000000) :
    EdgesAt ((((w.alloc a).alloc b).alloc c).alloc (.cells cs t)) (some ⟨w.heap.size + 1 + 1 + 1, 0, none⟩) es := by
  have h := World.alloc_heap_new (((w.alloc a).alloc b).alloc c) (.cells cs t)
  rw [World.size_alloc, World.size_alloc, World.size_alloc] at h
  exact edges_lit es h hc hs

structure WornFacts (s : Edg) (wear : Int × Int) (w W' : World) : Prop where
  s : EdgeAt W' w.heap.size 0 s
  w0 : W'.cell? ⟨w.heap.size + 1, 0, none⟩ = some (.int .i64 wear.1)
  w1 : W'.cell? ⟨w.heap.size + 1, 1, none⟩ = some (.int .i64 wear.2)
  z : FreeAt W' (w.heap.size + 1 + 1) 7
  n : w.heap.size + 1 + 1 < W'.heap.size

theorem wornFacts (s : Edg) (wear : Int × Int) (w W' : World) (h : Mod noB (((w.alloc (.cells (edC s) 27)).alloc (.cells #[.int .i64 wear.1, .int .i64 wear.2] 23)).alloc (.cells (edC zeroE) 27)) W') : WornFacts s wear w W' := by
  rw [allocL3] at h
  have e1 := at_allocL _ h 1 _ rfl
  exact ⟨EdgeAt.of (at_allocL _ h 0 _ rfl), cellsAt e1 0, cellsAt e1 1, FreeAt.of (T := 27) (at_allocL _ h 2 _ rfl), by have := lt_allocL _ h; simp at this; omega⟩

/-- Seven cells of zeros, or of a side, laid over them. -/
theorem sevenMod {w W' : World} {b : Nat} {v0 v1 v2 v3 v4 v5 v6 : Value} (h : Mod noB w W') (hb : w.heap.size ≤ b) :
    Mod noB w (((((((W'.setCell ⟨b, 0, none⟩ v0).setCell ⟨b, 1, none⟩ v1).setCell ⟨b, 2, none⟩ v2).setCell ⟨b, 3, none⟩ v3).setCell ⟨b, 4, none⟩ v4).setCell ⟨b, 5, none⟩ v5).setCell ⟨b, 6, none⟩ v6) :=
  Mod.setNew (Mod.setNew (Mod.setNew (Mod.setNew (Mod.setNew (Mod.setNew (Mod.setNew h hb _) hb _) hb _) hb _) hb _) hb _) hb _

set_option maxRecDepth 100000 in
set_option maxHeartbeats 1000000 in
theorem wornE_1 (s : Edg) (wear : Int × Int) (n : Int) (w : World) (HAS : Hold (∀ (w : World) (x y o : Obj), Calls Try.prog 47 #[.slice (some ⟨w.heap.size + 1 + 1 + 1, 0, none⟩) 1 1] ((((w.alloc x).alloc y).alloc o).alloc (.cells (edC s) 27)) fun r w' => r = .returned (.bool false) ∧ Mod noB ((((w.alloc x).alloc y).alloc o).alloc (.cells (edC s) 27)) w')) :
    Calls Try.prog 19 #[edV s, spV wear, .int .i64 n] w fun e w' => e = .returned (.tuple #[edV zeroE, .int .i64 1]) ∧ Mod noB w w' := by
  have HM0 : Hold (Mod noB w (((w.alloc (.cells (edC s) 27)).alloc (.cells #[.int .i64 wear.1, .int .i64 wear.2] 23)).alloc (.cells (edC zeroE) 27))) := ⟨allocL_mod noB [_, _, _] w⟩
  have FIN := Hold.mk (wornFacts s wear w)
  go_enter Try.func19, Try.ntmps19
  go_wp2_with (first
    | (go_at_call 47; (with_reducible refine (HAS.out _ _ _ _).mono ?_); rintro e w2 ⟨rfl, hM2⟩
       have hM3 := ((Mod.refl noB _).alloc _).trans hM2
       obtain ⟨⟨s0, s1, s2, s3, s4, s5, s6⟩, r0, r1, ⟨z, f⟩, hz⟩ := FIN.out _ hM3
       have z0 := z 0 (by omega); have z1 := z 1 (by omega); have z2 := z 2 (by omega); have z3 := z 3 (by omega); have z4 := z 4 (by omega); have z5 := z 5 (by omega); have z6 := z 6 (by omega)
       have f0 := f 0 (by omega); have f1 := f 1 (by omega); have f2 := f 2 (by omega); have f3 := f 3 (by omega); have f4 := f 4 (by omega); have f5 := f 5 (by omega); have f6 := f 6 (by omega)
       have hzb : w.heap.size + 1 < w2.heap.size := (by omega)
       have hzc : w.heap.size < w2.heap.size := (by omega)
       clear z f
       have HM2 := Hold.mk hM3; clear hM2 hM3))
  refine bodyPost_ret (v := .tuple #[edV zeroE, .int .i64 1]) ?_ rfl ⟨rfl, ?_⟩
  · simp [results, Try.results19, go_sem, *]
  · exact sevenMod (HM0.out.trans HM2.out) (by omega)

set_option maxRecDepth 100000 in
set_option maxHeartbeats 1000000 in
theorem wornE_2w (s : Edg) (wear : Int × Int) (n : Int) (w : World) (HAS : Hold (∀ (w : World) (x y o : Obj), Calls Try.prog 47 #[.slice (some ⟨w.heap.size + 1 + 1 + 1, 0, none⟩) 1 1] ((((w.alloc x).alloc y).alloc o).alloc (.cells (edC s) 27)) fun r w' => r = .returned (.bool true) ∧ Mod noB ((((w.alloc x).alloc y).alloc o).alloc (.cells (edC s) 27)) w')) (HW : Hold (∀ w, Calls Try.prog 57 #[spV wear] w fun e w' => e = .returned (.bool false) ∧ Mod noB w w')) :
    Calls Try.prog 19 #[edV s, spV wear, .int .i64 n] w fun e w' => e = .returned (.tuple #[edV zeroE, .int .i64 2]) ∧ Mod noB w w' := by
  have HM0 : Hold (Mod noB w (((w.alloc (.cells (edC s) 27)).alloc (.cells #[.int .i64 wear.1, .int .i64 wear.2] 23)).alloc (.cells (edC zeroE) 27))) := ⟨allocL_mod noB [_, _, _] w⟩
  have FIN := Hold.mk (wornFacts s wear w)
  go_enter Try.func19, Try.ntmps19
  go_wp2_with (first
    | (go_at_call 47; (with_reducible refine (HAS.out _ _ _ _).mono ?_); rintro e w2 ⟨rfl, hM2⟩
       have hM3 := ((Mod.refl noB _).alloc _).trans hM2
       obtain ⟨⟨s0, s1, s2, s3, s4, s5, s6⟩, r0, r1, ⟨z, f⟩, hz⟩ := FIN.out _ hM3
       have z0 := z 0 (by omega); have z1 := z 1 (by omega); have z2 := z 2 (by omega); have z3 := z 3 (by omega); have z4 := z 4 (by omega); have z5 := z 5 (by omega); have z6 := z 6 (by omega)
       have f0 := f 0 (by omega); have f1 := f 1 (by omega); have f2 := f 2 (by omega); have f3 := f 3 (by omega); have f4 := f 4 (by omega); have f5 := f 5 (by omega); have f6 := f 6 (by omega)
       have hzb : w.heap.size + 1 < w2.heap.size := (by omega)
       have hzc : w.heap.size < w2.heap.size := (by omega)
       clear z f
       have HM2 := Hold.mk hM3; clear hM2 hM3)
    | (go_at_call 57; (with_reducible refine (HW.out _).mono ?_); rintro e w3 ⟨rfl, hM2⟩
       have hM3 := HM2.out.trans hM2
       clear s0 s1 s2 s3 s4 s5 s6 r0 r1 z0 z1 z2 z3 z4 z5 z6 f0 f1 f2 f3 f4 f5 f6 hz hzb hzc
       obtain ⟨⟨s0, s1, s2, s3, s4, s5, s6⟩, r0, r1, ⟨z, f⟩, hz⟩ := FIN.out _ hM3
       have z0 := z 0 (by omega); have z1 := z 1 (by omega); have z2 := z 2 (by omega); have z3 := z 3 (by omega); have z4 := z 4 (by omega); have z5 := z 5 (by omega); have z6 := z 6 (by omega)
       have f0 := f 0 (by omega); have f1 := f 1 (by omega); have f2 := f 2 (by omega); have f3 := f 3 (by omega); have f4 := f 4 (by omega); have f5 := f 5 (by omega); have f6 := f 6 (by omega)
       have hzb : w.heap.size + 1 < w3.heap.size := (by omega)
       have hzc : w.heap.size < w3.heap.size := (by omega)
       clear z f
       have HM3 := Hold.mk hM3; clear hM2 hM3))
  refine bodyPost_ret (v := .tuple #[edV zeroE, .int .i64 2]) ?_ rfl ⟨rfl, ?_⟩
  · simp [results, Try.results19, go_sem, *]
  · exact sevenMod (HM0.out.trans HM3.out) (by omega)

set_option maxRecDepth 100000 in
set_option maxHeartbeats 1000000 in
theorem wornE_2a (s : Edg) (wear : Int × Int) (n : Int) (w : World) (HAS : Hold (∀ (w : World) (x y o : Obj), Calls Try.prog 47 #[.slice (some ⟨w.heap.size + 1 + 1 + 1, 0, none⟩) 1 1] ((((w.alloc x).alloc y).alloc o).alloc (.cells (edC s) 27)) fun r w' => r = .returned (.bool true) ∧ Mod noB ((((w.alloc x).alloc y).alloc o).alloc (.cells (edC s) 27)) w')) (HW : Hold (∀ w, Calls Try.prog 57 #[spV wear] w fun e w' => e = .returned (.bool true) ∧ Mod noB w w')) (n1 : ¬ 0 ≤ n) :
    Calls Try.prog 19 #[edV s, spV wear, .int .i64 n] w fun e w' => e = .returned (.tuple #[edV zeroE, .int .i64 2]) ∧ Mod noB w w' := by
  have HM0 : Hold (Mod noB w (((w.alloc (.cells (edC s) 27)).alloc (.cells #[.int .i64 wear.1, .int .i64 wear.2] 23)).alloc (.cells (edC zeroE) 27))) := ⟨allocL_mod noB [_, _, _] w⟩
  have FIN := Hold.mk (wornFacts s wear w)
  go_enter Try.func19, Try.ntmps19
  go_wp2_with (first
    | (go_at_call 47; (with_reducible refine (HAS.out _ _ _ _).mono ?_); rintro e w2 ⟨rfl, hM2⟩
       have hM3 := ((Mod.refl noB _).alloc _).trans hM2
       obtain ⟨⟨s0, s1, s2, s3, s4, s5, s6⟩, r0, r1, ⟨z, f⟩, hz⟩ := FIN.out _ hM3
       have z0 := z 0 (by omega); have z1 := z 1 (by omega); have z2 := z 2 (by omega); have z3 := z 3 (by omega); have z4 := z 4 (by omega); have z5 := z 5 (by omega); have z6 := z 6 (by omega)
       have f0 := f 0 (by omega); have f1 := f 1 (by omega); have f2 := f 2 (by omega); have f3 := f 3 (by omega); have f4 := f 4 (by omega); have f5 := f 5 (by omega); have f6 := f 6 (by omega)
       have hzb : w.heap.size + 1 < w2.heap.size := (by omega)
       have hzc : w.heap.size < w2.heap.size := (by omega)
       clear z f
       have HM2 := Hold.mk hM3; clear hM2 hM3)
    | (go_at_call 57; (with_reducible refine (HW.out _).mono ?_); rintro e w3 ⟨rfl, hM2⟩
       have hM3 := HM2.out.trans hM2
       clear s0 s1 s2 s3 s4 s5 s6 r0 r1 z0 z1 z2 z3 z4 z5 z6 f0 f1 f2 f3 f4 f5 f6 hz hzb hzc
       obtain ⟨⟨s0, s1, s2, s3, s4, s5, s6⟩, r0, r1, ⟨z, f⟩, hz⟩ := FIN.out _ hM3
       have z0 := z 0 (by omega); have z1 := z 1 (by omega); have z2 := z 2 (by omega); have z3 := z 3 (by omega); have z4 := z 4 (by omega); have z5 := z 5 (by omega); have z6 := z 6 (by omega)
       have f0 := f 0 (by omega); have f1 := f 1 (by omega); have f2 := f 2 (by omega); have f3 := f 3 (by omega); have f4 := f 4 (by omega); have f5 := f 5 (by omega); have f6 := f 6 (by omega)
       have hzb : w.heap.size + 1 < w3.heap.size := (by omega)
       have hzc : w.heap.size < w3.heap.size := (by omega)
       clear z f
       have HM3 := Hold.mk hM3; clear hM2 hM3))
  refine bodyPost_ret (v := .tuple #[edV zeroE, .int .i64 2]) ?_ rfl ⟨rfl, ?_⟩
  · simp [results, Try.results19, go_sem, *]
  · exact sevenMod (HM0.out.trans HM3.out) (by omega)

set_option maxRecDepth 100000 in
set_option maxHeartbeats 1000000 in
theorem wornE_2b (s : Edg) (wear : Int × Int) (n : Int) (w : World) (HAS : Hold (∀ (w : World) (x y o : Obj), Calls Try.prog 47 #[.slice (some ⟨w.heap.size + 1 + 1 + 1, 0, none⟩) 1 1] ((((w.alloc x).alloc y).alloc o).alloc (.cells (edC s) 27)) fun r w' => r = .returned (.bool true) ∧ Mod noB ((((w.alloc x).alloc y).alloc o).alloc (.cells (edC s) 27)) w')) (HW : Hold (∀ w, Calls Try.prog 57 #[spV wear] w fun e w' => e = .returned (.bool true) ∧ Mod noB w w')) (n1 : 0 ≤ n) (n2 : ¬ n ≤ 20000) :
    Calls Try.prog 19 #[edV s, spV wear, .int .i64 n] w fun e w' => e = .returned (.tuple #[edV zeroE, .int .i64 2]) ∧ Mod noB w w' := by
  have HM0 : Hold (Mod noB w (((w.alloc (.cells (edC s) 27)).alloc (.cells #[.int .i64 wear.1, .int .i64 wear.2] 23)).alloc (.cells (edC zeroE) 27))) := ⟨allocL_mod noB [_, _, _] w⟩
  have FIN := Hold.mk (wornFacts s wear w)
  go_enter Try.func19, Try.ntmps19
  go_wp2_with (first
    | (go_at_call 47; (with_reducible refine (HAS.out _ _ _ _).mono ?_); rintro e w2 ⟨rfl, hM2⟩
       have hM3 := ((Mod.refl noB _).alloc _).trans hM2
       obtain ⟨⟨s0, s1, s2, s3, s4, s5, s6⟩, r0, r1, ⟨z, f⟩, hz⟩ := FIN.out _ hM3
       have z0 := z 0 (by omega); have z1 := z 1 (by omega); have z2 := z 2 (by omega); have z3 := z 3 (by omega); have z4 := z 4 (by omega); have z5 := z 5 (by omega); have z6 := z 6 (by omega)
       have f0 := f 0 (by omega); have f1 := f 1 (by omega); have f2 := f 2 (by omega); have f3 := f 3 (by omega); have f4 := f 4 (by omega); have f5 := f 5 (by omega); have f6 := f 6 (by omega)
       have hzb : w.heap.size + 1 < w2.heap.size := (by omega)
       have hzc : w.heap.size < w2.heap.size := (by omega)
       clear z f
       have HM2 := Hold.mk hM3; clear hM2 hM3)
    | (go_at_call 57; (with_reducible refine (HW.out _).mono ?_); rintro e w3 ⟨rfl, hM2⟩
       have hM3 := HM2.out.trans hM2
       clear s0 s1 s2 s3 s4 s5 s6 r0 r1 z0 z1 z2 z3 z4 z5 z6 f0 f1 f2 f3 f4 f5 f6 hz hzb hzc
       obtain ⟨⟨s0, s1, s2, s3, s4, s5, s6⟩, r0, r1, ⟨z, f⟩, hz⟩ := FIN.out _ hM3
       have z0 := z 0 (by omega); have z1 := z 1 (by omega); have z2 := z 2 (by omega); have z3 := z 3 (by omega); have z4 := z 4 (by omega); have z5 := z 5 (by omega); have z6 := z 6 (by omega)
       have f0 := f 0 (by omega); have f1 := f 1 (by omega); have f2 := f 2 (by omega); have f3 := f 3 (by omega); have f4 := f 4 (by omega); have f5 := f 5 (by omega); have f6 := f 6 (by omega)
       have hzb : w.heap.size + 1 < w3.heap.size := (by omega)
       have hzc : w.heap.size < w3.heap.size := (by omega)
       clear z f
       have HM3 := Hold.mk hM3; clear hM2 hM3))
  refine bodyPost_ret (v := .tuple #[edV zeroE, .int .i64 2]) ?_ rfl ⟨rfl, ?_⟩
  · simp [results, Try.results19, go_sem, *]
  · exact sevenMod (HM0.out.trans HM3.out) (by omega)

set_option maxRecDepth 100000 in
set_option maxHeartbeats 1000000 in
theorem wornE_6 (a wi d : Int × Int) (wear : Int × Int) (n : Int) (w : World) (HAS : Hold (∀ (w : World) (x y o : Obj), Calls Try.prog 47 #[.slice (some ⟨w.heap.size + 1 + 1 + 1, 0, none⟩) 1 1] ((((w.alloc x).alloc y).alloc o).alloc (.cells (edC ⟨0, a, wi, d⟩) 27)) fun r w' => r = .returned (.bool true) ∧ Mod noB ((((w.alloc x).alloc y).alloc o).alloc (.cells (edC ⟨0, a, wi, d⟩) 27)) w')) (HW : Hold (∀ w, Calls Try.prog 57 #[spV wear] w fun e w' => e = .returned (.bool true) ∧ Mod noB w w')) (n1 : 0 ≤ n) (n2 : n ≤ 20000) :
    Calls Try.prog 19 #[edV ⟨0, a, wi, d⟩, spV wear, .int .i64 n] w fun e w' => e = .returned (.tuple #[edV zeroE, .int .i64 6]) ∧ Mod noB w w' := by
  have HM0 : Hold (Mod noB w (((w.alloc (.cells (edC ⟨0, a, wi, d⟩) 27)).alloc (.cells #[.int .i64 wear.1, .int .i64 wear.2] 23)).alloc (.cells (edC zeroE) 27))) := ⟨allocL_mod noB [_, _, _] w⟩
  have FIN := Hold.mk (wornFacts ⟨0, a, wi, d⟩ wear w)
  go_enter Try.func19, Try.ntmps19
  go_wp2_with (first
    | (go_at_call 47; (with_reducible refine (HAS.out _ _ _ _).mono ?_); rintro e w2 ⟨rfl, hM2⟩
       have hM3 := ((Mod.refl noB _).alloc _).trans hM2
       obtain ⟨⟨s0, s1, s2, s3, s4, s5, s6⟩, r0, r1, ⟨z, f⟩, hz⟩ := FIN.out _ hM3
       have z0 := z 0 (by omega); have z1 := z 1 (by omega); have z2 := z 2 (by omega); have z3 := z 3 (by omega); have z4 := z 4 (by omega); have z5 := z 5 (by omega); have z6 := z 6 (by omega)
       have f0 := f 0 (by omega); have f1 := f 1 (by omega); have f2 := f 2 (by omega); have f3 := f 3 (by omega); have f4 := f 4 (by omega); have f5 := f 5 (by omega); have f6 := f 6 (by omega)
       have hzb : w.heap.size + 1 < w2.heap.size := (by omega)
       have hzc : w.heap.size < w2.heap.size := (by omega)
       clear z f
       have HM2 := Hold.mk hM3; clear hM2 hM3)
    | (go_at_call 57; (with_reducible refine (HW.out _).mono ?_); rintro e w3 ⟨rfl, hM2⟩
       have hM3 := HM2.out.trans hM2
       clear s0 s1 s2 s3 s4 s5 s6 r0 r1 z0 z1 z2 z3 z4 z5 z6 f0 f1 f2 f3 f4 f5 f6 hz hzb hzc
       obtain ⟨⟨s0, s1, s2, s3, s4, s5, s6⟩, r0, r1, ⟨z, f⟩, hz⟩ := FIN.out _ hM3
       have z0 := z 0 (by omega); have z1 := z 1 (by omega); have z2 := z 2 (by omega); have z3 := z 3 (by omega); have z4 := z 4 (by omega); have z5 := z 5 (by omega); have z6 := z 6 (by omega)
       have f0 := f 0 (by omega); have f1 := f 1 (by omega); have f2 := f 2 (by omega); have f3 := f 3 (by omega); have f4 := f 4 (by omega); have f5 := f 5 (by omega); have f6 := f 6 (by omega)
       have hzb : w.heap.size + 1 < w3.heap.size := (by omega)
       have hzc : w.heap.size < w3.heap.size := (by omega)
       clear z f
       have HM3 := Hold.mk hM3; clear hM2 hM3))
  refine bodyPost_ret (v := .tuple #[edV zeroE, .int .i64 6]) ?_ rfl ⟨rfl, ?_⟩
  · simp [results, Try.results19, go_sem, *]
  · exact sevenMod (HM0.out.trans HM3.out) (by omega)

set_option maxRecDepth 100000 in
set_option maxHeartbeats 1000000 in
theorem wornE_11 (k : Int) (hk : (k == 0) = false) (a wi d : Int × Int) (wear : Int × Int) (n : Int) (w : World) (rk : Int) (ra rw rd : Int × Int) (HAS : Hold (∀ (w : World) (x y o : Obj), Calls Try.prog 47 #[.slice (some ⟨w.heap.size + 1 + 1 + 1, 0, none⟩) 1 1] ((((w.alloc x).alloc y).alloc o).alloc (.cells (edC ⟨k, a, wi, d⟩) 27)) fun r w' => r = .returned (.bool true) ∧ Mod noB ((((w.alloc x).alloc y).alloc o).alloc (.cells (edC ⟨k, a, wi, d⟩) 27)) w')) (HW : Hold (∀ w, Calls Try.prog 57 #[spV wear] w fun e w' => e = .returned (.bool true) ∧ Mod noB w w')) (HK : Hold (∀ w, Calls Try.prog 58 #[edV ⟨k, a, wi, d⟩, spV wear, .int .i64 n] w fun e w' => e = .returned (.tuple #[edV ⟨rk, ra, rw, rd⟩, .bool false]) ∧ Mod noB w w')) (n1 : 0 ≤ n) (n2 : n ≤ 20000) :
    Calls Try.prog 19 #[edV ⟨k, a, wi, d⟩, spV wear, .int .i64 n] w fun e w' => e = .returned (.tuple #[edV zeroE, .int .i64 11]) ∧ Mod noB w w' := by
  have HM0 : Hold (Mod noB w (((w.alloc (.cells (edC ⟨k, a, wi, d⟩) 27)).alloc (.cells #[.int .i64 wear.1, .int .i64 wear.2] 23)).alloc (.cells (edC zeroE) 27))) := ⟨allocL_mod noB [_, _, _] w⟩
  have FIN := Hold.mk (wornFacts ⟨k, a, wi, d⟩ wear w)
  go_enter Try.func19, Try.ntmps19
  go_wp2_with (first
    | (go_at_call 47; (with_reducible refine (HAS.out _ _ _ _).mono ?_); rintro e w2 ⟨rfl, hM2⟩
       have hM3 := ((Mod.refl noB _).alloc _).trans hM2
       obtain ⟨⟨s0, s1, s2, s3, s4, s5, s6⟩, r0, r1, ⟨z, f⟩, hz⟩ := FIN.out _ hM3
       have z0 := z 0 (by omega); have z1 := z 1 (by omega); have z2 := z 2 (by omega); have z3 := z 3 (by omega); have z4 := z 4 (by omega); have z5 := z 5 (by omega); have z6 := z 6 (by omega)
       have f0 := f 0 (by omega); have f1 := f 1 (by omega); have f2 := f 2 (by omega); have f3 := f 3 (by omega); have f4 := f 4 (by omega); have f5 := f 5 (by omega); have f6 := f 6 (by omega)
       have hzb : w.heap.size + 1 < w2.heap.size := (by omega)
       have hzc : w.heap.size < w2.heap.size := (by omega)
       clear z f
       have HM2 := Hold.mk hM3; clear hM2 hM3)
    | (go_at_call 57; (with_reducible refine (HW.out _).mono ?_); rintro e w3 ⟨rfl, hM2⟩
       have hM3 := HM2.out.trans hM2
       clear s0 s1 s2 s3 s4 s5 s6 r0 r1 z0 z1 z2 z3 z4 z5 z6 f0 f1 f2 f3 f4 f5 f6 hz hzb hzc
       obtain ⟨⟨s0, s1, s2, s3, s4, s5, s6⟩, r0, r1, ⟨z, f⟩, hz⟩ := FIN.out _ hM3
       have z0 := z 0 (by omega); have z1 := z 1 (by omega); have z2 := z 2 (by omega); have z3 := z 3 (by omega); have z4 := z 4 (by omega); have z5 := z 5 (by omega); have z6 := z 6 (by omega)
       have f0 := f 0 (by omega); have f1 := f 1 (by omega); have f2 := f 2 (by omega); have f3 := f 3 (by omega); have f4 := f 4 (by omega); have f5 := f 5 (by omega); have f6 := f 6 (by omega)
       have hzb : w.heap.size + 1 < w3.heap.size := (by omega)
       have hzc : w.heap.size < w3.heap.size := (by omega)
       clear z f
       have HM3 := Hold.mk hM3; clear hM2 hM3)
    | (go_at_call 58; (with_reducible refine (HK.out _).mono ?_); rintro e w4 ⟨rfl, hM2⟩
       have hM3 := HM3.out.trans hM2
       clear s0 s1 s2 s3 s4 s5 s6 r0 r1 z0 z1 z2 z3 z4 z5 z6 f0 f1 f2 f3 f4 f5 f6 hz hzb hzc
       obtain ⟨⟨s0, s1, s2, s3, s4, s5, s6⟩, r0, r1, ⟨z, f⟩, hz⟩ := FIN.out _ hM3
       have z0 := z 0 (by omega); have z1 := z 1 (by omega); have z2 := z 2 (by omega); have z3 := z 3 (by omega); have z4 := z 4 (by omega); have z5 := z 5 (by omega); have z6 := z 6 (by omega)
       have f0 := f 0 (by omega); have f1 := f 1 (by omega); have f2 := f 2 (by omega); have f3 := f 3 (by omega); have f4 := f 4 (by omega); have f5 := f 5 (by omega); have f6 := f 6 (by omega)
       have hzb : w.heap.size + 1 < w4.heap.size := (by omega)
       have hzc : w.heap.size < w4.heap.size := (by omega)
       clear z f
       have HM4 := Hold.mk hM3; clear hM2 hM3))
  refine bodyPost_ret (v := .tuple #[edV zeroE, .int .i64 11]) ?_ rfl ⟨rfl, ?_⟩
  · simp [results, Try.results19, go_sem, *]
  · exact (sevenMod (HM0.out.trans HM4.out) (by omega)).alloc _

set_option maxRecDepth 100000 in
set_option maxHeartbeats 1000000 in
theorem wornE_0 (k : Int) (hk : (k == 0) = false) (a wi d : Int × Int) (wear : Int × Int) (n : Int) (w : World) (rk : Int) (ra rw rd : Int × Int) (HAS : Hold (∀ (w : World) (x y o : Obj), Calls Try.prog 47 #[.slice (some ⟨w.heap.size + 1 + 1 + 1, 0, none⟩) 1 1] ((((w.alloc x).alloc y).alloc o).alloc (.cells (edC ⟨k, a, wi, d⟩) 27)) fun r w' => r = .returned (.bool true) ∧ Mod noB ((((w.alloc x).alloc y).alloc o).alloc (.cells (edC ⟨k, a, wi, d⟩) 27)) w')) (HW : Hold (∀ w, Calls Try.prog 57 #[spV wear] w fun e w' => e = .returned (.bool true) ∧ Mod noB w w')) (HK : Hold (∀ w, Calls Try.prog 58 #[edV ⟨k, a, wi, d⟩, spV wear, .int .i64 n] w fun e w' => e = .returned (.tuple #[edV ⟨rk, ra, rw, rd⟩, .bool true]) ∧ Mod noB w w')) (n1 : 0 ≤ n) (n2 : n ≤ 20000) :
    Calls Try.prog 19 #[edV ⟨k, a, wi, d⟩, spV wear, .int .i64 n] w fun e w' => e = .returned (.tuple #[edV ⟨rk, ra, rw, rd⟩, .int .i64 0]) ∧ Mod noB w w' := by
  have HM0 : Hold (Mod noB w (((w.alloc (.cells (edC ⟨k, a, wi, d⟩) 27)).alloc (.cells #[.int .i64 wear.1, .int .i64 wear.2] 23)).alloc (.cells (edC zeroE) 27))) := ⟨allocL_mod noB [_, _, _] w⟩
  have FIN := Hold.mk (wornFacts ⟨k, a, wi, d⟩ wear w)
  go_enter Try.func19, Try.ntmps19
  go_wp2_with (first
    | (go_at_call 47; (with_reducible refine (HAS.out _ _ _ _).mono ?_); rintro e w2 ⟨rfl, hM2⟩
       have hM3 := ((Mod.refl noB _).alloc _).trans hM2
       obtain ⟨⟨s0, s1, s2, s3, s4, s5, s6⟩, r0, r1, ⟨z, f⟩, hz⟩ := FIN.out _ hM3
       have z0 := z 0 (by omega); have z1 := z 1 (by omega); have z2 := z 2 (by omega); have z3 := z 3 (by omega); have z4 := z 4 (by omega); have z5 := z 5 (by omega); have z6 := z 6 (by omega)
       have f0 := f 0 (by omega); have f1 := f 1 (by omega); have f2 := f 2 (by omega); have f3 := f 3 (by omega); have f4 := f 4 (by omega); have f5 := f 5 (by omega); have f6 := f 6 (by omega)
       have hzb : w.heap.size + 1 < w2.heap.size := (by omega)
       have hzc : w.heap.size < w2.heap.size := (by omega)
       clear z f
       have HM2 := Hold.mk hM3; clear hM2 hM3)
    | (go_at_call 57; (with_reducible refine (HW.out _).mono ?_); rintro e w3 ⟨rfl, hM2⟩
       have hM3 := HM2.out.trans hM2
       clear s0 s1 s2 s3 s4 s5 s6 r0 r1 z0 z1 z2 z3 z4 z5 z6 f0 f1 f2 f3 f4 f5 f6 hz hzb hzc
       obtain ⟨⟨s0, s1, s2, s3, s4, s5, s6⟩, r0, r1, ⟨z, f⟩, hz⟩ := FIN.out _ hM3
       have z0 := z 0 (by omega); have z1 := z 1 (by omega); have z2 := z 2 (by omega); have z3 := z 3 (by omega); have z4 := z 4 (by omega); have z5 := z 5 (by omega); have z6 := z 6 (by omega)
       have f0 := f 0 (by omega); have f1 := f 1 (by omega); have f2 := f 2 (by omega); have f3 := f 3 (by omega); have f4 := f 4 (by omega); have f5 := f 5 (by omega); have f6 := f 6 (by omega)
       have hzb : w.heap.size + 1 < w3.heap.size := (by omega)
       have hzc : w.heap.size < w3.heap.size := (by omega)
       clear z f
       have HM3 := Hold.mk hM3; clear hM2 hM3)
    | (go_at_call 58; (with_reducible refine (HK.out _).mono ?_); rintro e w4 ⟨rfl, hM2⟩
       have hM3 := HM3.out.trans hM2
       clear s0 s1 s2 s3 s4 s5 s6 r0 r1 z0 z1 z2 z3 z4 z5 z6 f0 f1 f2 f3 f4 f5 f6 hz hzb hzc
       obtain ⟨⟨s0, s1, s2, s3, s4, s5, s6⟩, r0, r1, ⟨z, f⟩, hz⟩ := FIN.out _ hM3
       have z0 := z 0 (by omega); have z1 := z 1 (by omega); have z2 := z 2 (by omega); have z3 := z 3 (by omega); have z4 := z 4 (by omega); have z5 := z 5 (by omega); have z6 := z 6 (by omega)
       have f0 := f 0 (by omega); have f1 := f 1 (by omega); have f2 := f 2 (by omega); have f3 := f 3 (by omega); have f4 := f 4 (by omega); have f5 := f 5 (by omega); have f6 := f 6 (by omega)
       have hzb : w.heap.size + 1 < w4.heap.size := (by omega)
       have hzc : w.heap.size < w4.heap.size := (by omega)
       clear z f
       have HM4 := Hold.mk hM3; clear hM2 hM3))
  refine bodyPost_ret (v := .tuple #[edV ⟨rk, ra, rw, rd⟩, .int .i64 0]) ?_ rfl ⟨rfl, ?_⟩
  · simp [results, Try.results19, go_sem, *]
  · exact (sevenMod (HM0.out.trans HM4.out) (by omega)).alloc _

theorem wornE_any (s : Edg) (wear : Int × Int) (n : Int) (w : World) :
    Calls Try.prog 19 #[edV s, spV wear, .int .i64 n] w fun e w' => e = .returned (.tuple #[edV (wornE s wear n).1, .int .i64 (wornE s wear n).2]) ∧ Mod noB w w' := by
  have HAS : ∀ (w : World) (x y o : Obj), Calls Try.prog 47 #[.slice (some ⟨w.heap.size + 1 + 1 + 1, 0, none⟩) 1 1] ((((w.alloc x).alloc y).alloc o).alloc (.cells (edC s) 27)) fun r w' => r = .returned (.bool (sideB s)) ∧ Mod noB ((((w.alloc x).alloc y).alloc o).alloc (.cells (edC s) 27)) w' :=
    fun w x y o => by rw [show sideB s = sidesB [s] by simp [sidesB]]; exact areSides_any _ [s] 1 _ (edges_lit4 [s] rfl (by simp))
  have HW := fun w => isWear_any wear w
  cases hs : sideB s with
  | false =>
    rw [show wornE s wear n = (zeroE, 1) by simp [wornE, hs]]
    exact wornE_1 s wear n w ⟨by rw [hs] at HAS; exact HAS⟩
  | true =>
    rw [hs] at HAS
    cases hw : withinB wear 0 100 with
    | false =>
      rw [hw] at HW
      rw [show wornE s wear n = (zeroE, 2) by simp [wornE, hs, hw]]
      exact wornE_2w s wear n w ⟨HAS⟩ ⟨HW⟩
    | true =>
      rw [hw] at HW
      by_cases n1 : 0 ≤ n
      · by_cases n2 : n ≤ 20000
        · obtain ⟨k, a, wi, d⟩ := s
          by_cases hk : k = 0
          · subst hk
            rw [show wornE ⟨0, a, wi, d⟩ wear n = (zeroE, 6) by simp [wornE, hs, hw, n1, n2]]
            exact wornE_6 a wi d wear n w ⟨HAS⟩ ⟨HW⟩ n1 n2
          · have hk' : (k == 0) = false := by simpa using hk
            obtain ⟨hk1, hk2⟩ := side_wide hs hk
            have HK := fun w => worn_any ⟨k, a, wi, d⟩ wear n w hk1 hk2 (within_small hw (by omega) (by omega)) ⟨n1, n2⟩
            cases hb : wornB ⟨k, a, wi, d⟩ wear n with
            | false =>
              rw [hb] at HK
              rw [show wornE ⟨k, a, wi, d⟩ wear n = (zeroE, 11) by simp [wornE, hs, hw, n1, n2, hk, hb]]
              generalize hr : wornR ⟨k, a, wi, d⟩ wear n = res
              obtain ⟨rk, ra, rw', rd⟩ := res
              rw [hr] at HK
              exact wornE_11 k hk' a wi d wear n w rk ra rw' rd ⟨HAS⟩ ⟨HW⟩ ⟨HK⟩ n1 n2
            | true =>
              rw [hb] at HK
              rw [show wornE ⟨k, a, wi, d⟩ wear n = (wornR ⟨k, a, wi, d⟩ wear n, 0) by simp [wornE, hs, hw, n1, n2, hk, hb]]
              generalize hr : wornR ⟨k, a, wi, d⟩ wear n = res
              obtain ⟨rk, ra, rw', rd⟩ := res
              rw [hr] at HK
              exact wornE_0 k hk' a wi d wear n w rk ra rw' rd ⟨HAS⟩ ⟨HW⟩ ⟨HK⟩ n1 n2
        · rw [show wornE s wear n = (zeroE, 2) by simp [wornE, hs, hw, n1, n2]]
          exact wornE_2b s wear n w ⟨HAS⟩ ⟨HW⟩ n1 n2
      · rw [show wornE s wear n = (zeroE, 2) by simp [wornE, hs, hw, n1]]
        exact wornE_2a s wear n w ⟨HAS⟩ ⟨HW⟩ n1
end Go.Proofs.Ytnjbamikfjdofaa

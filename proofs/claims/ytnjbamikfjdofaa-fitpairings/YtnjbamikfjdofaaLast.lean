/- Last. -/
import Derived.Test.YtnjbamikfjdofaaLasts
set_option linter.unusedSimpArgs false
set_option linter.unusedVariables false
namespace Go.Proofs.Ytnjbamikfjdofaa
open Go.RowKit Go.Shelf

/-- What Last returns. -/
def lastE (p : Ply) (a b : Edg) (r : Int × Int) : Int × Int × Int :=
  if playB p && (sideB a && sideB b) then (if withinB r 0 100 then (if (orderedR a b).2 then
    (if (strokesR (orderedR a b).1.1 (orderedR a b).1.2 r p).2.2 then ((strokesR (orderedR a b).1.1 (orderedR a b).1.2 r p).1, (strokesR (orderedR a b).1.1 (orderedR a b).1.2 r p).2.1, 0) else (0, 0, 4)) else (0, 0, 6)) else (0, 0, 2)) else (0, 0, 1)

structure LstFacts (p : Ply) (a b : Edg) (r : Int × Int) (w W' : World) : Prop where
  p : PlayAt W' w.heap.size p
  a : EdgeAt W' (w.heap.size + 1) 0 a
  b : EdgeAt W' (w.heap.size + 1 + 1) 0 b
  r0 : W'.cell? ⟨w.heap.size + 1 + 1 + 1, 0, none⟩ = some (.int .i64 r.1)
  r1 : W'.cell? ⟨w.heap.size + 1 + 1 + 1, 1, none⟩ = some (.int .i64 r.2)
  n : w.heap.size + 1 + 1 + 1 < W'.heap.size
theorem lstFacts (p : Ply) (a b : Edg) (r : Int × Int) (w W' : World) (h : Mod noB ((((w.alloc (.cells (plC p) 25)).alloc (.cells (edC a) 27)).alloc (.cells (edC b) 27)).alloc (.cells #[.int .i64 r.1, .int .i64 r.2] 23)) W') : LstFacts p a b r w W' := by
  rw [allocL4] at h
  have e := at_allocL _ h 3 _ rfl
  exact ⟨PlayAt.of (at_allocL _ h 0 _ rfl), EdgeAt.of (at_allocL _ h 1 _ rfl), EdgeAt.of (at_allocL _ h 2 _ rfl), cellsAt e 0, cellsAt e 1, by have := lt_allocL _ h; simp at this; omega⟩

set_option maxRecDepth 100000 in
set_option maxHeartbeats 2000000 in
theorem last_1p (p : Ply) (a b : Edg) (r : Int × Int) (w : World)  (HP : Hold (∀ w, Calls Try.prog 46 #[plV p] w fun r w' => r = .returned (.bool false) ∧ Mod noB w w')) :
    Calls Try.prog 22 #[plV p, edV a, edV b, spV r] w fun e w' => e = .returned (.tuple #[.int .i64 0, .int .i64 0, .int .i64 1]) ∧ Mod noB w w' := by
  have HM0 : Hold (Mod noB w ((((w.alloc (.cells (plC p) 25)).alloc (.cells (edC a) 27)).alloc (.cells (edC b) 27)).alloc (.cells #[.int .i64 r.1, .int .i64 r.2] 23))) := ⟨allocL_mod noB [_, _, _, _] w⟩
  have FIN := Hold.mk (lstFacts p a b r w)
  go_enter Try.func22, Try.ntmps22
  go_wp2_with (first
    | (go_at_call 46; (with_reducible refine (HP.out _).mono ?_); rintro e w1 ⟨rfl, hM3⟩
       obtain ⟨⟨p0, p1, p2, p3, p4⟩, ⟨a0, a1, a2, a3, a4, a5, a6⟩, ⟨b0, b1, b2, b3, b4, b5, b6⟩, r0, r1, hz⟩ := FIN.out _ hM3
       have hzb : w.heap.size + 1 + 1 < w1.heap.size := (by omega)
       have hzc : w.heap.size + 1 < w1.heap.size := (by omega)
       have hzd : w.heap.size < w1.heap.size := (by omega)
       have HM1 := Hold.mk hM3; clear hM3))
  go_ret3
  exact ⟨rfl, HM0.out.trans HM1.out⟩

set_option maxRecDepth 100000 in
set_option maxHeartbeats 2000000 in
theorem last_1s (p : Ply) (a b : Edg) (r : Int × Int) (w : World)  (HP : Hold (∀ w, Calls Try.prog 46 #[plV p] w fun r w' => r = .returned (.bool true) ∧ Mod noB w w')) (HAS : Hold (∀ (w : World), Calls Try.prog 47 #[.slice (some ⟨w.heap.size, 0, none⟩) 2 2] (w.alloc (.cells (mtC a b) 27)) fun r w' => r = .returned (.bool false) ∧ Mod noB (w.alloc (.cells (mtC a b) 27)) w')) :
    Calls Try.prog 22 #[plV p, edV a, edV b, spV r] w fun e w' => e = .returned (.tuple #[.int .i64 0, .int .i64 0, .int .i64 1]) ∧ Mod noB w w' := by
  have HM0 : Hold (Mod noB w ((((w.alloc (.cells (plC p) 25)).alloc (.cells (edC a) 27)).alloc (.cells (edC b) 27)).alloc (.cells #[.int .i64 r.1, .int .i64 r.2] 23))) := ⟨allocL_mod noB [_, _, _, _] w⟩
  have FIN := Hold.mk (lstFacts p a b r w)
  go_enter Try.func22, Try.ntmps22
  go_wp2_with (first
    | (go_at_call 46; (with_reducible refine (HP.out _).mono ?_); rintro e w1 ⟨rfl, hM3⟩
       obtain ⟨⟨p0, p1, p2, p3, p4⟩, ⟨a0, a1, a2, a3, a4, a5, a6⟩, ⟨b0, b1, b2, b3, b4, b5, b6⟩, r0, r1, hz⟩ := FIN.out _ hM3
       have hzb : w.heap.size + 1 + 1 < w1.heap.size := (by omega)
       have hzc : w.heap.size + 1 < w1.heap.size := (by omega)
       have hzd : w.heap.size < w1.heap.size := (by omega)
       have HM1 := Hold.mk hM3; clear hM3)
    | (go_at_call 47; (with_reducible refine (HAS.out _).mono ?_); rintro e w2 ⟨rfl, hM2⟩
       have hM3 := (HM1.out.alloc _).trans hM2
       clear p0 p1 p2 p3 p4 a0 a1 a2 a3 a4 a5 a6 b0 b1 b2 b3 b4 b5 b6 r0 r1 hz hzb hzc hzd
       obtain ⟨⟨p0, p1, p2, p3, p4⟩, ⟨a0, a1, a2, a3, a4, a5, a6⟩, ⟨b0, b1, b2, b3, b4, b5, b6⟩, r0, r1, hz⟩ := FIN.out _ hM3
       have hzb : w.heap.size + 1 + 1 < w2.heap.size := (by omega)
       have hzc : w.heap.size + 1 < w2.heap.size := (by omega)
       have hzd : w.heap.size < w2.heap.size := (by omega)
       have Hw2 := Hold.mk hM3; clear hM2 hM3))
  go_ret3
  exact ⟨rfl, HM0.out.trans Hw2.out⟩

set_option maxRecDepth 100000 in
set_option maxHeartbeats 2000000 in
theorem last_2 (p : Ply) (a b : Edg) (r : Int × Int) (w : World)  (HP : Hold (∀ w, Calls Try.prog 46 #[plV p] w fun r w' => r = .returned (.bool true) ∧ Mod noB w w')) (HAS : Hold (∀ (w : World), Calls Try.prog 47 #[.slice (some ⟨w.heap.size, 0, none⟩) 2 2] (w.alloc (.cells (mtC a b) 27)) fun r w' => r = .returned (.bool true) ∧ Mod noB (w.alloc (.cells (mtC a b) 27)) w')) (HW : Hold (∀ w, Calls Try.prog 57 #[spV r] w fun e w' => e = .returned (.bool false) ∧ Mod noB w w')) :
    Calls Try.prog 22 #[plV p, edV a, edV b, spV r] w fun e w' => e = .returned (.tuple #[.int .i64 0, .int .i64 0, .int .i64 2]) ∧ Mod noB w w' := by
  have HM0 : Hold (Mod noB w ((((w.alloc (.cells (plC p) 25)).alloc (.cells (edC a) 27)).alloc (.cells (edC b) 27)).alloc (.cells #[.int .i64 r.1, .int .i64 r.2] 23))) := ⟨allocL_mod noB [_, _, _, _] w⟩
  have FIN := Hold.mk (lstFacts p a b r w)
  go_enter Try.func22, Try.ntmps22
  go_wp2_with (first
    | (go_at_call 46; (with_reducible refine (HP.out _).mono ?_); rintro e w1 ⟨rfl, hM3⟩
       obtain ⟨⟨p0, p1, p2, p3, p4⟩, ⟨a0, a1, a2, a3, a4, a5, a6⟩, ⟨b0, b1, b2, b3, b4, b5, b6⟩, r0, r1, hz⟩ := FIN.out _ hM3
       have hzb : w.heap.size + 1 + 1 < w1.heap.size := (by omega)
       have hzc : w.heap.size + 1 < w1.heap.size := (by omega)
       have hzd : w.heap.size < w1.heap.size := (by omega)
       have HM1 := Hold.mk hM3; clear hM3)
    | (go_at_call 47; (with_reducible refine (HAS.out _).mono ?_); rintro e w2 ⟨rfl, hM2⟩
       have hM3 := (HM1.out.alloc _).trans hM2
       clear p0 p1 p2 p3 p4 a0 a1 a2 a3 a4 a5 a6 b0 b1 b2 b3 b4 b5 b6 r0 r1 hz hzb hzc hzd
       obtain ⟨⟨p0, p1, p2, p3, p4⟩, ⟨a0, a1, a2, a3, a4, a5, a6⟩, ⟨b0, b1, b2, b3, b4, b5, b6⟩, r0, r1, hz⟩ := FIN.out _ hM3
       have hzb : w.heap.size + 1 + 1 < w2.heap.size := (by omega)
       have hzc : w.heap.size + 1 < w2.heap.size := (by omega)
       have hzd : w.heap.size < w2.heap.size := (by omega)
       have Hw2 := Hold.mk hM3; clear hM2 hM3)
    | (go_at_call 57; (with_reducible refine (HW.out _).mono ?_); rintro e w3 ⟨rfl, hM2⟩
       have hM3 := (Hw2.out).trans hM2
       clear p0 p1 p2 p3 p4 a0 a1 a2 a3 a4 a5 a6 b0 b1 b2 b3 b4 b5 b6 r0 r1 hz hzb hzc hzd
       obtain ⟨⟨p0, p1, p2, p3, p4⟩, ⟨a0, a1, a2, a3, a4, a5, a6⟩, ⟨b0, b1, b2, b3, b4, b5, b6⟩, r0, r1, hz⟩ := FIN.out _ hM3
       have hzb : w.heap.size + 1 + 1 < w3.heap.size := (by omega)
       have hzc : w.heap.size + 1 < w3.heap.size := (by omega)
       have hzd : w.heap.size < w3.heap.size := (by omega)
       have Hw3 := Hold.mk hM3; clear hM2 hM3))
  go_ret3
  exact ⟨rfl, HM0.out.trans Hw3.out⟩

set_option maxRecDepth 100000 in
set_option maxHeartbeats 2000000 in
theorem last_6 (p : Ply) (a b : Edg) (r : Int × Int) (w : World) (t h : Edg) (HP : Hold (∀ w, Calls Try.prog 46 #[plV p] w fun r w' => r = .returned (.bool true) ∧ Mod noB w w')) (HAS : Hold (∀ (w : World), Calls Try.prog 47 #[.slice (some ⟨w.heap.size, 0, none⟩) 2 2] (w.alloc (.cells (mtC a b) 27)) fun r w' => r = .returned (.bool true) ∧ Mod noB (w.alloc (.cells (mtC a b) 27)) w')) (HW : Hold (∀ w, Calls Try.prog 57 #[spV r] w fun e w' => e = .returned (.bool true) ∧ Mod noB w w')) (HO : Hold (∀ w, Calls Try.prog 50 #[edV a, edV b] w fun e w' => e = .returned (.tuple #[mtV t h, .bool false]) ∧ Mod noB w w')) :
    Calls Try.prog 22 #[plV p, edV a, edV b, spV r] w fun e w' => e = .returned (.tuple #[.int .i64 0, .int .i64 0, .int .i64 6]) ∧ Mod noB w w' := by
  have HM0 : Hold (Mod noB w ((((w.alloc (.cells (plC p) 25)).alloc (.cells (edC a) 27)).alloc (.cells (edC b) 27)).alloc (.cells #[.int .i64 r.1, .int .i64 r.2] 23))) := ⟨allocL_mod noB [_, _, _, _] w⟩
  have FIN := Hold.mk (lstFacts p a b r w)
  go_enter Try.func22, Try.ntmps22
  go_wp2_with (first
    | (go_at_call 46; (with_reducible refine (HP.out _).mono ?_); rintro e w1 ⟨rfl, hM3⟩
       obtain ⟨⟨p0, p1, p2, p3, p4⟩, ⟨a0, a1, a2, a3, a4, a5, a6⟩, ⟨b0, b1, b2, b3, b4, b5, b6⟩, r0, r1, hz⟩ := FIN.out _ hM3
       have hzb : w.heap.size + 1 + 1 < w1.heap.size := (by omega)
       have hzc : w.heap.size + 1 < w1.heap.size := (by omega)
       have hzd : w.heap.size < w1.heap.size := (by omega)
       have HM1 := Hold.mk hM3; clear hM3)
    | (go_at_call 47; (with_reducible refine (HAS.out _).mono ?_); rintro e w2 ⟨rfl, hM2⟩
       have hM3 := (HM1.out.alloc _).trans hM2
       clear p0 p1 p2 p3 p4 a0 a1 a2 a3 a4 a5 a6 b0 b1 b2 b3 b4 b5 b6 r0 r1 hz hzb hzc hzd
       obtain ⟨⟨p0, p1, p2, p3, p4⟩, ⟨a0, a1, a2, a3, a4, a5, a6⟩, ⟨b0, b1, b2, b3, b4, b5, b6⟩, r0, r1, hz⟩ := FIN.out _ hM3
       have hzb : w.heap.size + 1 + 1 < w2.heap.size := (by omega)
       have hzc : w.heap.size + 1 < w2.heap.size := (by omega)
       have hzd : w.heap.size < w2.heap.size := (by omega)
       have Hw2 := Hold.mk hM3; clear hM2 hM3)
    | (go_at_call 57; (with_reducible refine (HW.out _).mono ?_); rintro e w3 ⟨rfl, hM2⟩
       have hM3 := (Hw2.out).trans hM2
       clear p0 p1 p2 p3 p4 a0 a1 a2 a3 a4 a5 a6 b0 b1 b2 b3 b4 b5 b6 r0 r1 hz hzb hzc hzd
       obtain ⟨⟨p0, p1, p2, p3, p4⟩, ⟨a0, a1, a2, a3, a4, a5, a6⟩, ⟨b0, b1, b2, b3, b4, b5, b6⟩, r0, r1, hz⟩ := FIN.out _ hM3
       have hzb : w.heap.size + 1 + 1 < w3.heap.size := (by omega)
       have hzc : w.heap.size + 1 < w3.heap.size := (by omega)
       have hzd : w.heap.size < w3.heap.size := (by omega)
       have Hw3 := Hold.mk hM3; clear hM2 hM3)
    | (go_at_call 50; (with_reducible refine (HO.out _).mono ?_); rintro e w4 ⟨rfl, hM2⟩
       have hM3 := (Hw3.out).trans hM2
       clear p0 p1 p2 p3 p4 a0 a1 a2 a3 a4 a5 a6 b0 b1 b2 b3 b4 b5 b6 r0 r1 hz hzb hzc hzd
       obtain ⟨⟨p0, p1, p2, p3, p4⟩, ⟨a0, a1, a2, a3, a4, a5, a6⟩, ⟨b0, b1, b2, b3, b4, b5, b6⟩, r0, r1, hz⟩ := FIN.out _ hM3
       have hzb : w.heap.size + 1 + 1 < w4.heap.size := (by omega)
       have hzc : w.heap.size + 1 < w4.heap.size := (by omega)
       have hzd : w.heap.size < w4.heap.size := (by omega)
       have Hw4 := Hold.mk hM3; clear hM2 hM3))
  go_ret3
  exact ⟨rfl, (HM0.out.trans Hw4.out).alloc _⟩

set_option maxRecDepth 100000 in
set_option maxHeartbeats 2000000 in
theorem last_4 (p : Ply) (a b : Edg) (r : Int × Int) (w : World) (t h : Edg) (x y : Int) (HP : Hold (∀ w, Calls Try.prog 46 #[plV p] w fun r w' => r = .returned (.bool true) ∧ Mod noB w w')) (HAS : Hold (∀ (w : World), Calls Try.prog 47 #[.slice (some ⟨w.heap.size, 0, none⟩) 2 2] (w.alloc (.cells (mtC a b) 27)) fun r w' => r = .returned (.bool true) ∧ Mod noB (w.alloc (.cells (mtC a b) 27)) w')) (HW : Hold (∀ w, Calls Try.prog 57 #[spV r] w fun e w' => e = .returned (.bool true) ∧ Mod noB w w')) (HO : Hold (∀ w, Calls Try.prog 50 #[edV a, edV b] w fun e w' => e = .returned (.tuple #[mtV t h, .bool true]) ∧ Mod noB w w')) (HS : Hold (∀ w, Calls Try.prog 61 #[mtV t h, plV p, spV r] w fun e w' => e = .returned (.tuple #[.int .i64 x, .int .i64 y, .bool false]) ∧ Mod noB w w')) :
    Calls Try.prog 22 #[plV p, edV a, edV b, spV r] w fun e w' => e = .returned (.tuple #[.int .i64 0, .int .i64 0, .int .i64 4]) ∧ Mod noB w w' := by
  have HM0 : Hold (Mod noB w ((((w.alloc (.cells (plC p) 25)).alloc (.cells (edC a) 27)).alloc (.cells (edC b) 27)).alloc (.cells #[.int .i64 r.1, .int .i64 r.2] 23))) := ⟨allocL_mod noB [_, _, _, _] w⟩
  have FIN := Hold.mk (lstFacts p a b r w)
  go_enter Try.func22, Try.ntmps22
  go_wp2_with (first
    | (go_at_call 46; (with_reducible refine (HP.out _).mono ?_); rintro e w1 ⟨rfl, hM3⟩
       obtain ⟨⟨p0, p1, p2, p3, p4⟩, ⟨a0, a1, a2, a3, a4, a5, a6⟩, ⟨b0, b1, b2, b3, b4, b5, b6⟩, r0, r1, hz⟩ := FIN.out _ hM3
       have hzb : w.heap.size + 1 + 1 < w1.heap.size := (by omega)
       have hzc : w.heap.size + 1 < w1.heap.size := (by omega)
       have hzd : w.heap.size < w1.heap.size := (by omega)
       have HM1 := Hold.mk hM3; clear hM3)
    | (go_at_call 47; (with_reducible refine (HAS.out _).mono ?_); rintro e w2 ⟨rfl, hM2⟩
       have hM3 := (HM1.out.alloc _).trans hM2
       clear p0 p1 p2 p3 p4 a0 a1 a2 a3 a4 a5 a6 b0 b1 b2 b3 b4 b5 b6 r0 r1 hz hzb hzc hzd
       obtain ⟨⟨p0, p1, p2, p3, p4⟩, ⟨a0, a1, a2, a3, a4, a5, a6⟩, ⟨b0, b1, b2, b3, b4, b5, b6⟩, r0, r1, hz⟩ := FIN.out _ hM3
       have hzb : w.heap.size + 1 + 1 < w2.heap.size := (by omega)
       have hzc : w.heap.size + 1 < w2.heap.size := (by omega)
       have hzd : w.heap.size < w2.heap.size := (by omega)
       have Hw2 := Hold.mk hM3; clear hM2 hM3)
    | (go_at_call 57; (with_reducible refine (HW.out _).mono ?_); rintro e w3 ⟨rfl, hM2⟩
       have hM3 := (Hw2.out).trans hM2
       clear p0 p1 p2 p3 p4 a0 a1 a2 a3 a4 a5 a6 b0 b1 b2 b3 b4 b5 b6 r0 r1 hz hzb hzc hzd
       obtain ⟨⟨p0, p1, p2, p3, p4⟩, ⟨a0, a1, a2, a3, a4, a5, a6⟩, ⟨b0, b1, b2, b3, b4, b5, b6⟩, r0, r1, hz⟩ := FIN.out _ hM3
       have hzb : w.heap.size + 1 + 1 < w3.heap.size := (by omega)
       have hzc : w.heap.size + 1 < w3.heap.size := (by omega)
       have hzd : w.heap.size < w3.heap.size := (by omega)
       have Hw3 := Hold.mk hM3; clear hM2 hM3)
    | (go_at_call 50; (with_reducible refine (HO.out _).mono ?_); rintro e w4 ⟨rfl, hM2⟩
       have hM3 := (Hw3.out).trans hM2
       clear p0 p1 p2 p3 p4 a0 a1 a2 a3 a4 a5 a6 b0 b1 b2 b3 b4 b5 b6 r0 r1 hz hzb hzc hzd
       obtain ⟨⟨p0, p1, p2, p3, p4⟩, ⟨a0, a1, a2, a3, a4, a5, a6⟩, ⟨b0, b1, b2, b3, b4, b5, b6⟩, r0, r1, hz⟩ := FIN.out _ hM3
       have hzb : w.heap.size + 1 + 1 < w4.heap.size := (by omega)
       have hzc : w.heap.size + 1 < w4.heap.size := (by omega)
       have hzd : w.heap.size < w4.heap.size := (by omega)
       have Hw4 := Hold.mk hM3; clear hM2 hM3)
    | (go_at_call 61; (with_reducible refine (HS.out _).mono ?_); rintro e w5 ⟨rfl, hM2⟩
       have hM3 := (Hw4.out.alloc _).trans hM2
       clear p0 p1 p2 p3 p4 a0 a1 a2 a3 a4 a5 a6 b0 b1 b2 b3 b4 b5 b6 r0 r1 hz hzb hzc hzd
       obtain ⟨⟨p0, p1, p2, p3, p4⟩, ⟨a0, a1, a2, a3, a4, a5, a6⟩, ⟨b0, b1, b2, b3, b4, b5, b6⟩, r0, r1, hz⟩ := FIN.out _ hM3
       have hzb : w.heap.size + 1 + 1 < w5.heap.size := (by omega)
       have hzc : w.heap.size + 1 < w5.heap.size := (by omega)
       have hzd : w.heap.size < w5.heap.size := (by omega)
       have Hw5 := Hold.mk hM3; clear hM2 hM3))
  go_ret3
  exact ⟨rfl, HM0.out.trans Hw5.out⟩

set_option maxRecDepth 100000 in
set_option maxHeartbeats 2000000 in
theorem last_0 (p : Ply) (a b : Edg) (r : Int × Int) (w : World) (t h : Edg) (x y : Int) (HP : Hold (∀ w, Calls Try.prog 46 #[plV p] w fun r w' => r = .returned (.bool true) ∧ Mod noB w w')) (HAS : Hold (∀ (w : World), Calls Try.prog 47 #[.slice (some ⟨w.heap.size, 0, none⟩) 2 2] (w.alloc (.cells (mtC a b) 27)) fun r w' => r = .returned (.bool true) ∧ Mod noB (w.alloc (.cells (mtC a b) 27)) w')) (HW : Hold (∀ w, Calls Try.prog 57 #[spV r] w fun e w' => e = .returned (.bool true) ∧ Mod noB w w')) (HO : Hold (∀ w, Calls Try.prog 50 #[edV a, edV b] w fun e w' => e = .returned (.tuple #[mtV t h, .bool true]) ∧ Mod noB w w')) (HS : Hold (∀ w, Calls Try.prog 61 #[mtV t h, plV p, spV r] w fun e w' => e = .returned (.tuple #[.int .i64 x, .int .i64 y, .bool true]) ∧ Mod noB w w')) :
    Calls Try.prog 22 #[plV p, edV a, edV b, spV r] w fun e w' => e = .returned (.tuple #[.int .i64 x, .int .i64 y, .int .i64 0]) ∧ Mod noB w w' := by
  have HM0 : Hold (Mod noB w ((((w.alloc (.cells (plC p) 25)).alloc (.cells (edC a) 27)).alloc (.cells (edC b) 27)).alloc (.cells #[.int .i64 r.1, .int .i64 r.2] 23))) := ⟨allocL_mod noB [_, _, _, _] w⟩
  have FIN := Hold.mk (lstFacts p a b r w)
  go_enter Try.func22, Try.ntmps22
  go_wp2_with (first
    | (go_at_call 46; (with_reducible refine (HP.out _).mono ?_); rintro e w1 ⟨rfl, hM3⟩
       obtain ⟨⟨p0, p1, p2, p3, p4⟩, ⟨a0, a1, a2, a3, a4, a5, a6⟩, ⟨b0, b1, b2, b3, b4, b5, b6⟩, r0, r1, hz⟩ := FIN.out _ hM3
       have hzb : w.heap.size + 1 + 1 < w1.heap.size := (by omega)
       have hzc : w.heap.size + 1 < w1.heap.size := (by omega)
       have hzd : w.heap.size < w1.heap.size := (by omega)
       have HM1 := Hold.mk hM3; clear hM3)
    | (go_at_call 47; (with_reducible refine (HAS.out _).mono ?_); rintro e w2 ⟨rfl, hM2⟩
       have hM3 := (HM1.out.alloc _).trans hM2
       clear p0 p1 p2 p3 p4 a0 a1 a2 a3 a4 a5 a6 b0 b1 b2 b3 b4 b5 b6 r0 r1 hz hzb hzc hzd
       obtain ⟨⟨p0, p1, p2, p3, p4⟩, ⟨a0, a1, a2, a3, a4, a5, a6⟩, ⟨b0, b1, b2, b3, b4, b5, b6⟩, r0, r1, hz⟩ := FIN.out _ hM3
       have hzb : w.heap.size + 1 + 1 < w2.heap.size := (by omega)
       have hzc : w.heap.size + 1 < w2.heap.size := (by omega)
       have hzd : w.heap.size < w2.heap.size := (by omega)
       have Hw2 := Hold.mk hM3; clear hM2 hM3)
    | (go_at_call 57; (with_reducible refine (HW.out _).mono ?_); rintro e w3 ⟨rfl, hM2⟩
       have hM3 := (Hw2.out).trans hM2
       clear p0 p1 p2 p3 p4 a0 a1 a2 a3 a4 a5 a6 b0 b1 b2 b3 b4 b5 b6 r0 r1 hz hzb hzc hzd
       obtain ⟨⟨p0, p1, p2, p3, p4⟩, ⟨a0, a1, a2, a3, a4, a5, a6⟩, ⟨b0, b1, b2, b3, b4, b5, b6⟩, r0, r1, hz⟩ := FIN.out _ hM3
       have hzb : w.heap.size + 1 + 1 < w3.heap.size := (by omega)
       have hzc : w.heap.size + 1 < w3.heap.size := (by omega)
       have hzd : w.heap.size < w3.heap.size := (by omega)
       have Hw3 := Hold.mk hM3; clear hM2 hM3)
    | (go_at_call 50; (with_reducible refine (HO.out _).mono ?_); rintro e w4 ⟨rfl, hM2⟩
       have hM3 := (Hw3.out).trans hM2
       clear p0 p1 p2 p3 p4 a0 a1 a2 a3 a4 a5 a6 b0 b1 b2 b3 b4 b5 b6 r0 r1 hz hzb hzc hzd
       obtain ⟨⟨p0, p1, p2, p3, p4⟩, ⟨a0, a1, a2, a3, a4, a5, a6⟩, ⟨b0, b1, b2, b3, b4, b5, b6⟩, r0, r1, hz⟩ := FIN.out _ hM3
       have hzb : w.heap.size + 1 + 1 < w4.heap.size := (by omega)
       have hzc : w.heap.size + 1 < w4.heap.size := (by omega)
       have hzd : w.heap.size < w4.heap.size := (by omega)
       have Hw4 := Hold.mk hM3; clear hM2 hM3)
    | (go_at_call 61; (with_reducible refine (HS.out _).mono ?_); rintro e w5 ⟨rfl, hM2⟩
       have hM3 := (Hw4.out.alloc _).trans hM2
       clear p0 p1 p2 p3 p4 a0 a1 a2 a3 a4 a5 a6 b0 b1 b2 b3 b4 b5 b6 r0 r1 hz hzb hzc hzd
       obtain ⟨⟨p0, p1, p2, p3, p4⟩, ⟨a0, a1, a2, a3, a4, a5, a6⟩, ⟨b0, b1, b2, b3, b4, b5, b6⟩, r0, r1, hz⟩ := FIN.out _ hM3
       have hzb : w.heap.size + 1 + 1 < w5.heap.size := (by omega)
       have hzc : w.heap.size + 1 < w5.heap.size := (by omega)
       have hzd : w.heap.size < w5.heap.size := (by omega)
       have Hw5 := Hold.mk hM3; clear hM2 hM3))
  go_ret3
  exact ⟨rfl, HM0.out.trans Hw5.out⟩

theorem ordered_kinds {a b : Edg} (h : (orderedR a b).2 = true) : (orderedR a b).1.1.k = 1 ∧ (orderedR a b).1.2.k = 2 := by
  unfold orderedR at *
  split at h
  · rename_i k
    rw [if_pos k]
    exact ⟨by simpa using h, k⟩
  · rename_i k
    rw [if_neg k]
    simp only [Bool.and_eq_true, beq_iff_eq] at h
    exact h
theorem ordered_sides {a b : Edg} (ha : sideB a = true) (hb : sideB b = true) : sideB (orderedR a b).1.1 = true ∧ sideB (orderedR a b).1.2 = true := by
  unfold orderedR
  split
  · exact ⟨hb, ha⟩
  · exact ⟨ha, hb⟩

theorem last_any (p : Ply) (a b : Edg) (r : Int × Int) (w : World) :
    Calls Try.prog 22 #[plV p, edV a, edV b, spV r] w fun e w' => e = .returned (.tuple #[.int .i64 (lastE p a b r).1, .int .i64 (lastE p a b r).2.1, .int .i64 (lastE p a b r).2.2]) ∧ Mod noB w w' := by
  have HP := fun w => isPlay_any p w
  have HAS : ∀ (w : World), Calls Try.prog 47 #[.slice (some ⟨w.heap.size, 0, none⟩) 2 2] (w.alloc (.cells (mtC a b) 27)) fun r w' => r = .returned (.bool (sidesB [a, b])) ∧ Mod noB (w.alloc (.cells (mtC a b) 27)) w' :=
    fun w => areSides_any _ [a, b] 2 _ (edges_lit [a, b] (World.alloc_heap_new _ _) rfl (by simp))
  have HW := fun w => isWear_any r w
  cases hp : playB p with
  | false =>
    rw [hp] at HP
    rw [show lastE p a b r = (0, 0, 1) by simp [lastE, hp]]
    exact last_1p p a b r w ⟨HP⟩
  | true =>
    rw [hp] at HP
    cases hs : sidesB [a, b] with
    | false =>
      rw [hs] at HAS
      rw [show lastE p a b r = (0, 0, 1) by simp [sidesB] at hs; simp [lastE, hp]; intro h1 h2; exact absurd (hs h1) (by simp [h2])]
      exact last_1s p a b r w ⟨HP⟩ ⟨HAS⟩
    | true =>
      rw [hs] at HAS
      have hs2 : sideB a = true ∧ sideB b = true := by simpa [sidesB] using hs
      cases hw : withinB r 0 100 with
      | false =>
        rw [hw] at HW
        rw [show lastE p a b r = (0, 0, 2) by simp [lastE, hp, hs2, hw]]
        exact last_2 p a b r w ⟨HP⟩ ⟨HAS⟩ ⟨HW⟩
      | true =>
        rw [hw] at HW
        have HO := fun w => ordered_any a b w
        have hk := fun h => ordered_kinds (a := a) (b := b) h
        have hsd := ordered_sides hs2.1 hs2.2
        have hb : lastE p a b r = (if (orderedR a b).2 then (if (strokesR (orderedR a b).1.1 (orderedR a b).1.2 r p).2.2 then ((strokesR (orderedR a b).1.1 (orderedR a b).1.2 r p).1, (strokesR (orderedR a b).1.1 (orderedR a b).1.2 r p).2.1, 0) else (0, 0, 4)) else (0, 0, 6)) := by simp [lastE, hp, hs2, hw]
        rw [hb]
        generalize orderedR a b = oo at *
        obtain ⟨⟨t, h⟩, ok⟩ := oo
        cases ok with
        | false => exact last_6 p a b r w t h ⟨HP⟩ ⟨HAS⟩ ⟨HW⟩ ⟨HO⟩
        | true =>
          have HS := fun w => strokes_any t h p r w hp hsd.1 hsd.2 (hk rfl).1 (hk rfl).2 hw
          simp only [if_true]
          generalize strokesR t h r p = sr at *
          obtain ⟨x, y, ok⟩ := sr
          cases ok with
          | false => exact last_4 p a b r w t h x y ⟨HP⟩ ⟨HAS⟩ ⟨HW⟩ ⟨HO⟩ ⟨HS⟩
          | true => exact last_0 p a b r w t h x y ⟨HP⟩ ⟨HAS⟩ ⟨HW⟩ ⟨HO⟩ ⟨HS⟩
end Go.Proofs.Ytnjbamikfjdofaa

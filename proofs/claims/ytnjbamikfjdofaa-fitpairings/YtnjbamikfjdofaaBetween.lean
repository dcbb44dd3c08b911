/- Between. -/
import Derived.Test.YtnjbamikfjdofaaWornE
set_option linter.unusedSimpArgs false
set_option linter.unusedVariables false
namespace Go.Proofs.Ytnjbamikfjdofaa
open Go.RowKit Go.Shelf

abbrev Gp := (Int × Int) × (Int × Int) × (Int × Int)
def gapR (p : Ply) (t h : Edg) : Gp := (roundedR (dampedR (offR t h p.len) p.damp), roundedR (dampedR (wideR t h) p.damp), roundedR (dampedR (deepR t h) p.damp))
@[reducible] def gpV (g : Gp) : Value := .agg #[.int .i64 g.1.1, .int .i64 g.1.2, .int .i64 g.2.1.1, .int .i64 g.2.1.2, .int .i64 g.2.2.1, .int .i64 g.2.2.2]
@[reducible] def gpC (g : Gp) : Array Value := #[.int .i64 g.1.1, .int .i64 g.1.2, .int .i64 g.2.1.1, .int .i64 g.2.1.2, .int .i64 g.2.2.1, .int .i64 g.2.2.2]
abbrev zeroG : Gp := ((0, 0), (0, 0), (0, 0))
/-- What Between returns. -/
def betweenE (p : Ply) (a b : Edg) : Gp × Int :=
  if playB p && (sideB a && sideB b) then (if (orderedR a b).2 then (gapR p (orderedR a b).1.1 (orderedR a b).1.2, 0) else (zeroG, 6)) else (zeroG, 1)

structure BetFacts (p : Ply) (a b : Edg) (w W' : World) : Prop where
  p : PlayAt W' w.heap.size p
  a : EdgeAt W' (w.heap.size + 1) 0 a
  b : EdgeAt W' (w.heap.size + 1 + 1) 0 b
  z : FreeAt W' (w.heap.size + 1 + 1 + 1) 6
  n : w.heap.size + 1 + 1 + 1 < W'.heap.size
theorem betFacts (p : Ply) (a b : Edg) (w W' : World) (h : Mod noB ((((w.alloc (.cells (plC p) 25)).alloc (.cells (edC a) 27)).alloc (.cells (edC b) 27)).alloc (.cells (gpC zeroG) 32)) W') : BetFacts p a b w W' := by
  rw [allocL4] at h
  exact ⟨PlayAt.of (at_allocL _ h 0 _ rfl), EdgeAt.of (at_allocL _ h 1 _ rfl), EdgeAt.of (at_allocL _ h 2 _ rfl), FreeAt.of (T := 32) (at_allocL _ h 3 _ rfl), by have := lt_allocL _ h; simp at this; omega⟩
theorem sixMod {w W' : World} {b : Nat} {v0 v1 v2 v3 v4 v5 : Value} (h : Mod noB w W') (hb : w.heap.size ≤ b) :
    Mod noB w ((((((W'.setCell ⟨b, 0, none⟩ v0).setCell ⟨b, 1, none⟩ v1).setCell ⟨b, 2, none⟩ v2).setCell ⟨b, 3, none⟩ v3).setCell ⟨b, 4, none⟩ v4).setCell ⟨b, 5, none⟩ v5) :=
  Mod.setNew (Mod.setNew (Mod.setNew (Mod.setNew (Mod.setNew (Mod.setNew h hb _) hb _) hb _) hb _) hb _) hb _

set_option maxRecDepth 100000 in
set_option maxHeartbeats 1000000 in
theorem between_1p (p : Ply) (a b : Edg) (w : World) (HP : Hold (∀ w, Calls Try.prog 46 #[plV p] w fun r w' => r = .returned (.bool false) ∧ Mod noB w w')) :
    Calls Try.prog 17 #[plV p, edV a, edV b] w fun e w' => e = .returned (.tuple #[gpV zeroG, .int .i64 1]) ∧ Mod noB w w' := by
  have HM0 : Hold (Mod noB w ((((w.alloc (.cells (plC p) 25)).alloc (.cells (edC a) 27)).alloc (.cells (edC b) 27)).alloc (.cells (gpC zeroG) 32))) := ⟨allocL_mod noB [_, _, _, _] w⟩
  have FIN := Hold.mk (betFacts p a b w)
  go_enter Try.func17, Try.ntmps17
  go_wp2_with (go_at_call 46; (with_reducible refine (HP.out _).mono ?_); rintro e w1 ⟨rfl, hM1⟩
               obtain ⟨_, _, _, ⟨z, f⟩, hz⟩ := FIN.out _ hM1
               have z0 := z 0 (by omega); have z1 := z 1 (by omega); have z2 := z 2 (by omega); have z3 := z 3 (by omega); have z4 := z 4 (by omega); have z5 := z 5 (by omega)
               have f0 := f 0 (by omega); have f1 := f 1 (by omega); have f2 := f 2 (by omega); have f3 := f 3 (by omega); have f4 := f 4 (by omega); have f5 := f 5 (by omega)
               have HM1 := Hold.mk hM1; clear hM1 z f)
  refine bodyPost_ret (v := .tuple #[gpV zeroG, .int .i64 1]) ?_ rfl ⟨rfl, ?_⟩
  · simp [results, Try.results17, go_sem, *]
  · exact sixMod (HM0.out.trans HM1.out) (by omega)
set_option maxRecDepth 100000 in
set_option maxHeartbeats 2000000 in
theorem between_1s (p : Ply) (a b : Edg) (w : World) (HP : Hold (∀ w, Calls Try.prog 46 #[plV p] w fun r w' => r = .returned (.bool true) ∧ Mod noB w w')) (HAS : Hold (∀ (w : World), Calls Try.prog 47 #[.slice (some ⟨w.heap.size, 0, none⟩) 2 2] (w.alloc (.cells (mtC a b) 27)) fun r w' => r = .returned (.bool false) ∧ Mod noB (w.alloc (.cells (mtC a b) 27)) w')) :
    Calls Try.prog 17 #[plV p, edV a, edV b] w fun e w' => e = .returned (.tuple #[gpV zeroG, .int .i64 1]) ∧ Mod noB w w' := by
  have HM0 : Hold (Mod noB w ((((w.alloc (.cells (plC p) 25)).alloc (.cells (edC a) 27)).alloc (.cells (edC b) 27)).alloc (.cells (gpC zeroG) 32))) := ⟨allocL_mod noB [_, _, _, _] w⟩
  have FIN := Hold.mk (betFacts p a b w)
  go_enter Try.func17, Try.ntmps17
  go_wp2_with (first
    | (go_at_call 46; (with_reducible refine (HP.out _).mono ?_); rintro e w1 ⟨rfl, hM3⟩
       obtain ⟨⟨p0, p1, p2, p3, p4⟩, ⟨a0, a1, a2, a3, a4, a5, a6⟩, ⟨b0, b1, b2, b3, b4, b5, b6⟩, ⟨z, f⟩, hz⟩ := FIN.out _ hM3
       have z0 := z 0 (by omega); have z1 := z 1 (by omega); have z2 := z 2 (by omega); have z3 := z 3 (by omega); have z4 := z 4 (by omega); have z5 := z 5 (by omega)
       have f0 := f 0 (by omega); have f1 := f 1 (by omega); have f2 := f 2 (by omega); have f3 := f 3 (by omega); have f4 := f 4 (by omega); have f5 := f 5 (by omega)
       have hzb : w.heap.size + 1 + 1 < w1.heap.size := (by omega)
       have hzc : w.heap.size + 1 < w1.heap.size := (by omega)
       have hzd : w.heap.size < w1.heap.size := (by omega)
       clear z f
       have HM1 := Hold.mk hM3; clear hM3)
    | (go_at_call 47; (with_reducible refine (HAS.out _).mono ?_); rintro e w2 ⟨rfl, hM2⟩
       have hM3 := (HM1.out.alloc _).trans hM2
       clear p0 p1 p2 p3 p4 a0 a1 a2 a3 a4 a5 a6 b0 b1 b2 b3 b4 b5 b6 z0 z1 z2 z3 z4 z5 f0 f1 f2 f3 f4 f5 hz hzb hzc hzd
       obtain ⟨⟨p0, p1, p2, p3, p4⟩, ⟨a0, a1, a2, a3, a4, a5, a6⟩, ⟨b0, b1, b2, b3, b4, b5, b6⟩, ⟨z, f⟩, hz⟩ := FIN.out _ hM3
       have z0 := z 0 (by omega); have z1 := z 1 (by omega); have z2 := z 2 (by omega); have z3 := z 3 (by omega); have z4 := z 4 (by omega); have z5 := z 5 (by omega)
       have f0 := f 0 (by omega); have f1 := f 1 (by omega); have f2 := f 2 (by omega); have f3 := f 3 (by omega); have f4 := f 4 (by omega); have f5 := f 5 (by omega)
       have hzb : w.heap.size + 1 + 1 < w2.heap.size := (by omega)
       have hzc : w.heap.size + 1 < w2.heap.size := (by omega)
       have hzd : w.heap.size < w2.heap.size := (by omega)
       clear z f
       have HM2 := Hold.mk hM3; clear hM2 hM3))
  refine bodyPost_ret (v := .tuple #[gpV zeroG, .int .i64 1]) ?_ rfl ⟨rfl, ?_⟩
  · simp [results, Try.results17, go_sem, *]
  · exact sixMod (HM0.out.trans HM2.out) (by omega)

set_option maxRecDepth 100000 in
set_option maxHeartbeats 2000000 in
theorem between_6 (p : Ply) (a b t h : Edg) (w : World) (HP : Hold (∀ w, Calls Try.prog 46 #[plV p] w fun r w' => r = .returned (.bool true) ∧ Mod noB w w')) (HAS : Hold (∀ (w : World), Calls Try.prog 47 #[.slice (some ⟨w.heap.size, 0, none⟩) 2 2] (w.alloc (.cells (mtC a b) 27)) fun r w' => r = .returned (.bool true) ∧ Mod noB (w.alloc (.cells (mtC a b) 27)) w')) (HO : Hold (∀ w, Calls Try.prog 50 #[edV a, edV b] w fun e w' => e = .returned (.tuple #[mtV t h, .bool false]) ∧ Mod noB w w')) :
    Calls Try.prog 17 #[plV p, edV a, edV b] w fun e w' => e = .returned (.tuple #[gpV zeroG, .int .i64 6]) ∧ Mod noB w w' := by
  have HM0 : Hold (Mod noB w ((((w.alloc (.cells (plC p) 25)).alloc (.cells (edC a) 27)).alloc (.cells (edC b) 27)).alloc (.cells (gpC zeroG) 32))) := ⟨allocL_mod noB [_, _, _, _] w⟩
  have FIN := Hold.mk (betFacts p a b w)
  go_enter Try.func17, Try.ntmps17
  go_wp2_with (first
    | (go_at_call 46; (with_reducible refine (HP.out _).mono ?_); rintro e w1 ⟨rfl, hM3⟩
       obtain ⟨⟨p0, p1, p2, p3, p4⟩, ⟨a0, a1, a2, a3, a4, a5, a6⟩, ⟨b0, b1, b2, b3, b4, b5, b6⟩, ⟨z, f⟩, hz⟩ := FIN.out _ hM3
       have z0 := z 0 (by omega); have z1 := z 1 (by omega); have z2 := z 2 (by omega); have z3 := z 3 (by omega); have z4 := z 4 (by omega); have z5 := z 5 (by omega)
       have f0 := f 0 (by omega); have f1 := f 1 (by omega); have f2 := f 2 (by omega); have f3 := f 3 (by omega); have f4 := f 4 (by omega); have f5 := f 5 (by omega)
       have hzb : w.heap.size + 1 + 1 < w1.heap.size := (by omega)
       have hzc : w.heap.size + 1 < w1.heap.size := (by omega)
       have hzd : w.heap.size < w1.heap.size := (by omega)
       clear z f
       have HM1 := Hold.mk hM3; clear hM3)
    | (go_at_call 47; (with_reducible refine (HAS.out _).mono ?_); rintro e w2 ⟨rfl, hM2⟩
       have hM3 := (HM1.out.alloc _).trans hM2
       clear p0 p1 p2 p3 p4 a0 a1 a2 a3 a4 a5 a6 b0 b1 b2 b3 b4 b5 b6 z0 z1 z2 z3 z4 z5 f0 f1 f2 f3 f4 f5 hz hzb hzc hzd
       obtain ⟨⟨p0, p1, p2, p3, p4⟩, ⟨a0, a1, a2, a3, a4, a5, a6⟩, ⟨b0, b1, b2, b3, b4, b5, b6⟩, ⟨z, f⟩, hz⟩ := FIN.out _ hM3
       have z0 := z 0 (by omega); have z1 := z 1 (by omega); have z2 := z 2 (by omega); have z3 := z 3 (by omega); have z4 := z 4 (by omega); have z5 := z 5 (by omega)
       have f0 := f 0 (by omega); have f1 := f 1 (by omega); have f2 := f 2 (by omega); have f3 := f 3 (by omega); have f4 := f 4 (by omega); have f5 := f 5 (by omega)
       have hzb : w.heap.size + 1 + 1 < w2.heap.size := (by omega)
       have hzc : w.heap.size + 1 < w2.heap.size := (by omega)
       have hzd : w.heap.size < w2.heap.size := (by omega)
       clear z f
       have HM2 := Hold.mk hM3; clear hM2 hM3)
    | (go_at_call 50; (with_reducible refine (HO.out _).mono ?_); rintro e w3 ⟨rfl, hM2⟩
       have hM3 := HM2.out.trans hM2
       clear p0 p1 p2 p3 p4 a0 a1 a2 a3 a4 a5 a6 b0 b1 b2 b3 b4 b5 b6 z0 z1 z2 z3 z4 z5 f0 f1 f2 f3 f4 f5 hz hzb hzc hzd
       obtain ⟨⟨p0, p1, p2, p3, p4⟩, ⟨a0, a1, a2, a3, a4, a5, a6⟩, ⟨b0, b1, b2, b3, b4, b5, b6⟩, ⟨z, f⟩, hz⟩ := FIN.out _ hM3
       have z0 := z 0 (by omega); have z1 := z 1 (by omega); have z2 := z 2 (by omega); have z3 := z 3 (by omega); have z4 := z 4 (by omega); have z5 := z 5 (by omega)
       have f0 := f 0 (by omega); have f1 := f 1 (by omega); have f2 := f 2 (by omega); have f3 := f 3 (by omega); have f4 := f 4 (by omega); have f5 := f 5 (by omega)
       have hzb : w.heap.size + 1 + 1 < w3.heap.size := (by omega)
       have hzc : w.heap.size + 1 < w3.heap.size := (by omega)
       have hzd : w.heap.size < w3.heap.size := (by omega)
       clear z f
       have HM3 := Hold.mk hM3; clear hM2 hM3))
  refine bodyPost_ret (v := .tuple #[gpV zeroG, .int .i64 6]) ?_ rfl ⟨rfl, ?_⟩
  · simp [results, Try.results17, go_sem, *]
  · exact (sixMod (HM0.out.trans HM3.out) (by omega)).alloc _

set_option maxRecDepth 100000 in
set_option maxHeartbeats 2000000 in
theorem between_0 (p : Ply) (a b t h : Edg) (w : World) (HP : Hold (∀ w, Calls Try.prog 46 #[plV p] w fun r w' => r = .returned (.bool true) ∧ Mod noB w w')) (HAS : Hold (∀ (w : World), Calls Try.prog 47 #[.slice (some ⟨w.heap.size, 0, none⟩) 2 2] (w.alloc (.cells (mtC a b) 27)) fun r w' => r = .returned (.bool true) ∧ Mod noB (w.alloc (.cells (mtC a b) 27)) w')) (HO : Hold (∀ w, Calls Try.prog 50 #[edV a, edV b] w fun e w' => e = .returned (.tuple #[mtV t h, .bool true]) ∧ Mod noB w w')) (g : Gp)
    (o1 o2 o3 d1 d2 d3 : Int × Int)
    (K1 : Hold (∀ w, Calls Try.prog 51 #[mtV t h, .int .i64 p.len] w fun e w' => e = .returned (spV o1) ∧ Mod noB w w'))
    (K2 : Hold (∀ w, Calls Try.prog 54 #[mtV t h] w fun e w' => e = .returned (spV o2) ∧ Mod noB w w'))
    (K3 : Hold (∀ w, Calls Try.prog 55 #[mtV t h] w fun e w' => e = .returned (spV o3) ∧ Mod noB w w'))
    (D1 : Hold (∀ w, Calls Try.prog 52 #[spV o1, spV p.damp] w fun e w' => e = .returned (spV d1) ∧ Mod noB w w'))
    (D2 : Hold (∀ w, Calls Try.prog 52 #[spV o2, spV p.damp] w fun e w' => e = .returned (spV d2) ∧ Mod noB w w'))
    (D3 : Hold (∀ w, Calls Try.prog 52 #[spV o3, spV p.damp] w fun e w' => e = .returned (spV d3) ∧ Mod noB w w'))
    (R1 : Hold (∀ w, Calls Try.prog 53 #[spV d1] w fun e w' => e = .returned (spV g.1) ∧ Mod noB w w'))
    (R2 : Hold (∀ w, Calls Try.prog 53 #[spV d2] w fun e w' => e = .returned (spV g.2.1) ∧ Mod noB w w'))
    (R3 : Hold (∀ w, Calls Try.prog 53 #[spV d3] w fun e w' => e = .returned (spV g.2.2) ∧ Mod noB w w')) :
    Calls Try.prog 17 #[plV p, edV a, edV b] w fun e w' => e = .returned (.tuple #[gpV g, .int .i64 0]) ∧ Mod noB w w' := by
  have HM0 : Hold (Mod noB w ((((w.alloc (.cells (plC p) 25)).alloc (.cells (edC a) 27)).alloc (.cells (edC b) 27)).alloc (.cells (gpC zeroG) 32))) := ⟨allocL_mod noB [_, _, _, _] w⟩
  have FIN := Hold.mk (betFacts p a b w)
  go_enter Try.func17, Try.ntmps17
  go_wp2_with (first
    | (go_at_call 46; (with_reducible refine (HP.out _).mono ?_); rintro e w1 ⟨rfl, hM3⟩
       obtain ⟨⟨p0, p1, p2, p3, p4⟩, ⟨a0, a1, a2, a3, a4, a5, a6⟩, ⟨b0, b1, b2, b3, b4, b5, b6⟩, ⟨z, f⟩, hz⟩ := FIN.out _ hM3
       have z0 := z 0 (by omega); have z1 := z 1 (by omega); have z2 := z 2 (by omega); have z3 := z 3 (by omega); have z4 := z 4 (by omega); have z5 := z 5 (by omega)
       have f0 := f 0 (by omega); have f1 := f 1 (by omega); have f2 := f 2 (by omega); have f3 := f 3 (by omega); have f4 := f 4 (by omega); have f5 := f 5 (by omega)
       have hzb : w.heap.size + 1 + 1 < w1.heap.size := (by omega)
       have hzc : w.heap.size + 1 < w1.heap.size := (by omega)
       have hzd : w.heap.size < w1.heap.size := (by omega)
       clear z f
       have HM1 := Hold.mk hM3; clear hM3)
    | (go_at_call 47; (with_reducible refine (HAS.out _).mono ?_); rintro e w2 ⟨rfl, hM2⟩
       have hM3 := (HM1.out.alloc _).trans hM2
       clear p0 p1 p2 p3 p4 a0 a1 a2 a3 a4 a5 a6 b0 b1 b2 b3 b4 b5 b6 z0 z1 z2 z3 z4 z5 f0 f1 f2 f3 f4 f5 hz hzb hzc hzd
       obtain ⟨⟨p0, p1, p2, p3, p4⟩, ⟨a0, a1, a2, a3, a4, a5, a6⟩, ⟨b0, b1, b2, b3, b4, b5, b6⟩, ⟨z, f⟩, hz⟩ := FIN.out _ hM3
       have z0 := z 0 (by omega); have z1 := z 1 (by omega); have z2 := z 2 (by omega); have z3 := z 3 (by omega); have z4 := z 4 (by omega); have z5 := z 5 (by omega)
       have f0 := f 0 (by omega); have f1 := f 1 (by omega); have f2 := f 2 (by omega); have f3 := f 3 (by omega); have f4 := f 4 (by omega); have f5 := f 5 (by omega)
       have hzb : w.heap.size + 1 + 1 < w2.heap.size := (by omega)
       have hzc : w.heap.size + 1 < w2.heap.size := (by omega)
       have hzd : w.heap.size < w2.heap.size := (by omega)
       clear z f
       have HM2 := Hold.mk hM3; clear hM2 hM3)
    | (go_at_call 50; (with_reducible refine (HO.out _).mono ?_); rintro e w3 ⟨rfl, hM2⟩
       have hM3 := HM2.out.trans hM2
       clear p0 p1 p2 p3 p4 a0 a1 a2 a3 a4 a5 a6 b0 b1 b2 b3 b4 b5 b6 z0 z1 z2 z3 z4 z5 f0 f1 f2 f3 f4 f5 hz hzb hzc hzd
       obtain ⟨⟨p0, p1, p2, p3, p4⟩, ⟨a0, a1, a2, a3, a4, a5, a6⟩, ⟨b0, b1, b2, b3, b4, b5, b6⟩, ⟨z, f⟩, hz⟩ := FIN.out _ hM3
       have z0 := z 0 (by omega); have z1 := z 1 (by omega); have z2 := z 2 (by omega); have z3 := z 3 (by omega); have z4 := z 4 (by omega); have z5 := z 5 (by omega)
       have f0 := f 0 (by omega); have f1 := f 1 (by omega); have f2 := f 2 (by omega); have f3 := f 3 (by omega); have f4 := f 4 (by omega); have f5 := f 5 (by omega)
       have hzb : w.heap.size + 1 + 1 < w3.heap.size := (by omega)
       have hzc : w.heap.size + 1 < w3.heap.size := (by omega)
       have hzd : w.heap.size < w3.heap.size := (by omega)
       clear z f
       have HM3 := Hold.mk hM3; clear hM2 hM3))
  clear p0 p1 p2 p3 p4 a0 a1 a2 a3 a4 a5 a6 b0 b1 b2 b3 b4 b5 b6 z0 z1 z2 z3 z4 z5 f0 f1 f2 f3 f4 f5 hz hzb hzc hzd
  have h68 := (allocL_at [.cells (mtC t h) 87, .cells #[.int .i64 p.damp.1, .int .i64 p.damp.2] 90] w3 0 _ rfl)
  have h610 := (allocL_at [.cells (mtC t h) 87, .cells #[.int .i64 p.damp.1, .int .i64 p.damp.2] 90] w3 1 _ rfl)
  have hM6 := (allocL_mod noB [.cells (mtC t h) 87, .cells #[.int .i64 p.damp.1, .int .i64 p.damp.2] 90] w3)
  rw [← allocL2] at h68 h610 hM6
  have HM6 := Hold.mk (HM3.out.trans hM6)
  clear hM6
  change Code.wp _ _ _ _ ((w3.alloc (.cells (mtC t h) 87)).alloc (.cells #[.int .i64 p.damp.1, .int .i64 p.damp.2] 90))
  generalize (w3.alloc (.cells (mtC t h) 87)).alloc (.cells #[.int .i64 p.damp.1, .int .i64 p.damp.2] 90) = W6 at *
  have FIN6 : Hold (∀ W', Mod noB W6 W' → BetFacts p a b w W' ∧ MatchAt W' w3.heap.size t h ∧ W'.cell? ⟨w3.heap.size + 1, 0, none⟩ = some (.int .i64 p.damp.1) ∧ W'.cell? ⟨w3.heap.size + 1, 1, none⟩ = some (.int .i64 p.damp.2)) :=
    ⟨fun W' h => ⟨FIN.out _ (HM6.out.trans h), MatchAt.of (h.at h68 id), cellsAt (h.at h610 id) 0, cellsAt (h.at h610 id) 1⟩⟩
  clear h68 h610
  refine region_tailP 18 ⟨by decide, by kernel_rfl, by kernel_rfl, by kernel_rfl, by kernel_rfl, by kernel_rfl⟩ (by kernel_rfl) (fun W' => Mod noB W6 W') ((Mod.refl _ _).drew) ?_
  simp only [strikeL, List.take_succ_cons, List.take_zero, List.drop_succ_cons, List.drop_zero, List.map_cons, List.map_nil, List.cons_append, List.nil_append, bareO]
  repeat
    (first
      | go_big_quiet_skip
      | (go_big_quiet_want
         go_simp
         first
           | go_big_quiet_on
           | (apply Exists.intro
              refine ⟨fun W' hC => ?_, ?_⟩
              · obtain ⟨⟨⟨p0, p1, p2, p3, p4⟩, _, _, _, _⟩, ⟨q0, q1, q2, q3, q4, q5, q6, q7, q8, q9, q10, q11, q12, q13⟩, m0, m1⟩ := FIN6.out W' hC
                first
                  | (go_at_call 51; (with_reducible refine (K1.out _).mono ?_); exact fun e w'' he => ⟨he.1, hC.trans he.2⟩)
                  | (go_at_call 54; (with_reducible refine (K2.out _).mono ?_); exact fun e w'' he => ⟨he.1, hC.trans he.2⟩)
                  | (go_at_call 55; (with_reducible refine (K3.out _).mono ?_); exact fun e w'' he => ⟨he.1, hC.trans he.2⟩)
                  | (go_at_call 52; (with_reducible refine (D1.out _).mono ?_); exact fun e w'' he => ⟨he.1, hC.trans he.2⟩)
                  | (go_at_call 52; (with_reducible refine (D2.out _).mono ?_); exact fun e w'' he => ⟨he.1, hC.trans he.2⟩)
                  | (go_at_call 52; (with_reducible refine (D3.out _).mono ?_); exact fun e w'' he => ⟨he.1, hC.trans he.2⟩)
                  | (go_at_call 53; (with_reducible refine (R1.out _).mono ?_); exact fun e w'' he => ⟨he.1, hC.trans he.2⟩)
                  | (go_at_call 53; (with_reducible refine (R2.out _).mono ?_); exact fun e w'' he => ⟨he.1, hC.trans he.2⟩)
                  | (go_at_call 53; (with_reducible refine (R3.out _).mono ?_); exact fun e w'' he => ⟨he.1, hC.trans he.2⟩)
                  | with_reducible rfl
                  | (go_simp; first | rfl | exact ⟨rfl, rfl⟩)
              go_big_quiet_on)
           | (refine ⟨⟨_, fun _ _ => rfl⟩, ?_⟩; go_big_quiet_on)))
  refine wpQuiet_nil ?_
  intro Wq hq
  obtain ⟨⟨_, _, _, ⟨z, f⟩, hz⟩, _⟩ := FIN6.out Wq hq
  have z0 := z 0 (by omega); have z1 := z 1 (by omega); have z2 := z 2 (by omega); have z3 := z 3 (by omega); have z4 := z 4 (by omega); have z5 := z 5 (by omega)
  have f0 := f 0 (by omega); have f1 := f 1 (by omega); have f2 := f 2 (by omega); have f3 := f 3 (by omega); have f4 := f 4 (by omega); have f5 := f 5 (by omega)
  have HQ := Hold.mk hq
  clear hq z f
  gi_wp2
  go_wp2
  refine bodyPost_ret (v := .tuple #[gpV g, .int .i64 0]) ?_ rfl ⟨rfl, ?_⟩
  · simp [results, Try.results17, go_sem, *]
  · exact sixMod (HM0.out.trans (HM6.out.trans HQ.out)) (by omega)

theorem dampedR_mid {s d : Int × Int} (hs : Small 10000000 s) (hd : Small 1000 d) : Small 1000000000000 (dampedR s d) := (dampedR_small hs hd).le (by omega)

theorem between_any (p : Ply) (a b : Edg) (w : World) :
    Calls Try.prog 17 #[plV p, edV a, edV b] w fun e w' => e = .returned (.tuple #[gpV (betweenE p a b).1, .int .i64 (betweenE p a b).2]) ∧ Mod noB w w' := by
  have HP := fun w => isPlay_any p w
  have HAS : ∀ (w : World), Calls Try.prog 47 #[.slice (some ⟨w.heap.size, 0, none⟩) 2 2] (w.alloc (.cells (mtC a b) 27)) fun r w' => r = .returned (.bool (sidesB [a, b])) ∧ Mod noB (w.alloc (.cells (mtC a b) 27)) w' :=
    fun w => areSides_any _ [a, b] 2 _ (edges_lit [a, b] (World.alloc_heap_new _ _) rfl (by simp))
  cases hp : playB p with
  | false =>
    rw [hp] at HP
    rw [show betweenE p a b = (zeroG, 1) by simp [betweenE, hp]]
    exact between_1p p a b w ⟨HP⟩
  | true =>
    rw [hp] at HP
    cases hs : sidesB [a, b] with
    | false =>
      rw [hs] at HAS
      rw [show betweenE p a b = (zeroG, 1) by simp [sidesB] at hs; simp [betweenE, hp]; intro h1 h2; exact absurd (hs h1) (by simp [h2])]
      exact between_1s p a b w ⟨HP⟩ ⟨HAS⟩
    | true =>
      rw [hs] at HAS
      have hs2 : sideB a = true ∧ sideB b = true := by simpa [sidesB] using hs
      have HO := fun w => ordered_any a b w
      have hsm := fun h => ordered_small hs2.1 hs2.2 h
      have hb : betweenE p a b = (if (orderedR a b).2 then (gapR p (orderedR a b).1.1 (orderedR a b).1.2, 0) else (zeroG, 6)) := by simp [betweenE, hp, hs2]
      rw [hb]
      generalize orderedR a b = oo at *
      obtain ⟨⟨t, h⟩, ok⟩ := oo
      cases ok with
      | false => exact between_6 p a b t h w ⟨HP⟩ ⟨HAS⟩ ⟨HO⟩
      | true =>
        obtain ⟨ht, hh⟩ := hsm rfl
        have hd := (play_small hp).d
        have hl := play_len hp
        have so : Small 10000000 (offR t h p.len) := (lessR_small (plusR_small ht.1 hh.1) hl).le (by omega)
        have sw : Small 10000000 (wideR t h) := (lessR_small hh.2.1 ht.2.1).le (by omega)
        have sd : Small 10000000 (deepR t h) := (lessR_small hh.2.2 ht.2.2).le (by omega)
        have et : ESmall 10000000 t := ⟨ht.1.le (by omega), ht.2.1.le (by omega), ht.2.2.le (by omega)⟩
        have eh : ESmall 10000000 h := ⟨hh.1.le (by omega), hh.2.1.le (by omega), hh.2.2.le (by omega)⟩
        exact between_0 p a b t h w ⟨HP⟩ ⟨HAS⟩ ⟨HO⟩ (gapR p t h) _ _ _ _ _ _
          ⟨fun w => off_any t h p.len w et eh ⟨(play_small hp).l1, (play_small hp).l2⟩⟩ ⟨fun w => wide_any t h w et eh⟩ ⟨fun w => deep_any t h w et eh⟩
          ⟨fun w => damped_any _ _ w so hd⟩ ⟨fun w => damped_any _ _ w sw hd⟩ ⟨fun w => damped_any _ _ w sd hd⟩
          ⟨fun w => rounded_any _ w (dampedR_mid so hd)⟩ ⟨fun w => rounded_any _ w (dampedR_mid sw hd)⟩ ⟨fun w => rounded_any _ w (dampedR_mid sd hd)⟩
end Go.Proofs.Ytnjbamikfjdofaa

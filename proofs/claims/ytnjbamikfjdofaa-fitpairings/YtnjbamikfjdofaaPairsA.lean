/- Pairs: its errors; pairings. -/
import Derived.Test.YtnjbamikfjdofaaPairItB
set_option linter.unusedSimpArgs false
set_option linter.unusedVariables false
namespace Go.Proofs.Ytnjbamikfjdofaa
open Go.RowKit Go.Shelf

/-- All pairings of tabs and holes. -/
def allPairs (p : Ply) (tabs holes : List Edg) : List (List Int) := pairsL (goesL p tabs holes) tabs.length []
/-- The first two of a list, and an error if there is none. -/
def firstTwo : List (List Int) → List Int × List Int × Int
  | [] => ([], [], 4)
  | [a] => (a, [], 0)
  | a :: b :: _ => (a, b, 0)
/-- What Pairs returns. -/
def pairsE (p : Ply) (tabs holes : List Edg) : List Int × List Int × Int :=
  if playB p && (sidesB tabs && sidesB holes) then (if tabs.length ≤ 8 ∧ holes.length ≤ 8 then (if (tabs.all fun e => e.k == 1) && (holes.all fun e => e.k == 2) then (if tabs.length = holes.length then firstTwo (allPairs p tabs holes) else ([], [], 2)) else ([], [], 6)) else ([], [], 3)) else ([], [], 1)

set_option maxHeartbeats 400000 in
theorem pairings_any (p : Ply) (to ho : Option Addr) (n m capt caph : Nat) (w : World) :
    Calls Try.prog 66 #[plV p, .slice to n capt, .slice ho m caph] w fun e w' => e = .returned (.func (.func 86) #[] #[.pointer (some ⟨w.heap.size + 1, 0, none⟩), .pointer (some ⟨w.heap.size, 0, none⟩), .pointer (some ⟨w.heap.size + 1 + 1, 0, none⟩)]) ∧
      w' = ((w.alloc (.cells (plC p) 25)).alloc (.cells #[.slice to n capt] 42)).alloc (.cells #[.slice ho m caph] 42) := by
  go_enter Try.func66, Try.ntmps66
  go_wp2
  go_ret
  exact ⟨rfl, rfl⟩

structure PrsFacts (p : Ply) (w W' : World) : Prop where
  p : PlayAt W' w.heap.size p
  b6 : W'.heap[w.heap.size + 1]? = some (.cells #[.slice none 0 0] 43)
  b7 : W'.heap[w.heap.size + 1 + 1]? = some (.cells #[.slice none 0 0] 43)
  b8 : W'.heap[w.heap.size + 1 + 1 + 1]? = some (.cells #[.int .i64 0] 28)
  n : w.heap.size + 1 + 1 + 1 < W'.heap.size
theorem prsFacts (p : Ply) (w W' : World) (h : Mod noB ((((w.alloc (.cells (plC p) 25)).alloc (.cells #[.slice none 0 0] 43)).alloc (.cells #[.slice none 0 0] 43)).alloc (.cells #[.int .i64 0] 28)) W') : PrsFacts p w W' := by
  rw [allocL4] at h
  exact ⟨PlayAt.of (at_allocL _ h 0 _ rfl), at_allocL _ h 1 _ rfl, at_allocL _ h 2 _ rfl, at_allocL _ h 3 _ rfl, by have := lt_allocL _ h; simp at this; omega⟩

theorem threeMod {w W' : World} {b : Nat} {v0 v1 v2 : Value} (h : Mod noB w W') (hb : w.heap.size ≤ b) :
    Mod noB w (((W'.setCell ⟨b, 0, none⟩ v0).setCell ⟨b + 1, 0, none⟩ v1).setCell ⟨b + 1 + 1, 0, none⟩ v2) :=
  Mod.setNew (Mod.setNew (Mod.setNew h hb _) (by omega) _) (by omega) _

set_option maxRecDepth 100000 in
set_option maxHeartbeats 2000000 in
theorem pairs_1p (p : Ply) (to ho : Option Addr) (n m capt caph : Nat) (w : World) (HP : Hold (∀ w, Calls Try.prog 46 #[plV p] w fun r w' => r = .returned (.bool false) ∧ Mod noB w w')) :
    Calls Try.prog 26 #[plV p, .slice to n capt, .slice ho m caph] w (TwoOut [] [] 1 w) := by
  have HM0 : Hold (Mod noB w ((((w.alloc (.cells (plC p) 25)).alloc (.cells #[.slice none 0 0] 43)).alloc (.cells #[.slice none 0 0] 43)).alloc (.cells #[.int .i64 0] 28))) := ⟨allocL_mod noB [_, _, _, _] w⟩
  have FIN := Hold.mk (prsFacts p w)
  go_enter Try.func26, Try.ntmps26
  go_wp2_with (first
    | (go_at_call 46; (with_reducible refine (HP.out _).mono ?_); rintro e w1 ⟨rfl, hM2⟩
       have hM3 := hM2
       obtain ⟨⟨p0, p1, p2, p3, p4⟩, b6, b7, b8, hz⟩ := FIN.out _ hM3
       have c6 := cellsAt b6 0; have c7 := cellsAt b7 0; have c8 := cellsAt b8 0
       have f6 := cells_frozen b6 0; have f7 := cells_frozen b7 0; have f8 := cells_frozen b8 0
       have Hw1 := Hold.mk hM3; clear hM2 hM3 b6 b7 b8))
  refine bodyPost_ret (v := .tuple #[.slice none 0 0, .slice none 0 0, .int .i64 1]) ?_ rfl (twoNil ?_)
  · simp [results, Try.results26, go_sem, *]
  · exact threeMod (b := w.heap.size + 1) (HM0.out.trans Hw1.out) (by omega)

set_option maxRecDepth 100000 in
set_option maxHeartbeats 2000000 in
theorem pairs_1t (p : Ply) (to ho : Option Addr) (n m capt caph : Nat) (w : World) (HP : Hold (∀ w, Calls Try.prog 46 #[plV p] w fun r w' => r = .returned (.bool true) ∧ Mod noB w w')) (HT : Hold (∀ w', Mod noB w w' → Calls Try.prog 47 #[.slice to n capt] w' fun r w'' => r = .returned (.bool false) ∧ Mod noB w' w'')) :
    Calls Try.prog 26 #[plV p, .slice to n capt, .slice ho m caph] w (TwoOut [] [] 1 w) := by
  have HM0 : Hold (Mod noB w ((((w.alloc (.cells (plC p) 25)).alloc (.cells #[.slice none 0 0] 43)).alloc (.cells #[.slice none 0 0] 43)).alloc (.cells #[.int .i64 0] 28))) := ⟨allocL_mod noB [_, _, _, _] w⟩
  have FIN := Hold.mk (prsFacts p w)
  go_enter Try.func26, Try.ntmps26
  go_wp2_with (first
    | (go_at_call 46; (with_reducible refine (HP.out _).mono ?_); rintro e w1 ⟨rfl, hM2⟩
       have hM3 := hM2
       obtain ⟨⟨p0, p1, p2, p3, p4⟩, b6, b7, b8, hz⟩ := FIN.out _ hM3
       have c6 := cellsAt b6 0; have c7 := cellsAt b7 0; have c8 := cellsAt b8 0
       have f6 := cells_frozen b6 0; have f7 := cells_frozen b7 0; have f8 := cells_frozen b8 0
       have Hw1 := Hold.mk hM3; clear hM2 hM3 b6 b7 b8)
    | (go_at_call 47; (with_reducible refine (HT.out _ (HM0.out.trans Hw1.out)).mono ?_); rintro e w2 ⟨rfl, hM2⟩
       have hM3 := Hw1.out.trans hM2
       clear p0 p1 p2 p3 p4 c6 c7 c8 f6 f7 f8 hz
       obtain ⟨⟨p0, p1, p2, p3, p4⟩, b6, b7, b8, hz⟩ := FIN.out _ hM3
       have c6 := cellsAt b6 0; have c7 := cellsAt b7 0; have c8 := cellsAt b8 0
       have f6 := cells_frozen b6 0; have f7 := cells_frozen b7 0; have f8 := cells_frozen b8 0
       have Hw2 := Hold.mk hM3; clear hM2 hM3 b6 b7 b8))
  refine bodyPost_ret (v := .tuple #[.slice none 0 0, .slice none 0 0, .int .i64 1]) ?_ rfl (twoNil ?_)
  · simp [results, Try.results26, go_sem, *]
  · exact threeMod (b := w.heap.size + 1) (HM0.out.trans Hw2.out) (by omega)

set_option maxRecDepth 100000 in
set_option maxHeartbeats 2000000 in
theorem pairs_1h (p : Ply) (to ho : Option Addr) (n m capt caph : Nat) (w : World) (HP : Hold (∀ w, Calls Try.prog 46 #[plV p] w fun r w' => r = .returned (.bool true) ∧ Mod noB w w')) (HT : Hold (∀ w', Mod noB w w' → Calls Try.prog 47 #[.slice to n capt] w' fun r w'' => r = .returned (.bool true) ∧ Mod noB w' w'')) (HH : Hold (∀ w', Mod noB w w' → Calls Try.prog 47 #[.slice ho m caph] w' fun r w'' => r = .returned (.bool false) ∧ Mod noB w' w'')) :
    Calls Try.prog 26 #[plV p, .slice to n capt, .slice ho m caph] w (TwoOut [] [] 1 w) := by
  have HM0 : Hold (Mod noB w ((((w.alloc (.cells (plC p) 25)).alloc (.cells #[.slice none 0 0] 43)).alloc (.cells #[.slice none 0 0] 43)).alloc (.cells #[.int .i64 0] 28))) := ⟨allocL_mod noB [_, _, _, _] w⟩
  have FIN := Hold.mk (prsFacts p w)
  go_enter Try.func26, Try.ntmps26
  go_wp2_with (first
    | (go_at_call 46; (with_reducible refine (HP.out _).mono ?_); rintro e w1 ⟨rfl, hM2⟩
       have hM3 := hM2
       obtain ⟨⟨p0, p1, p2, p3, p4⟩, b6, b7, b8, hz⟩ := FIN.out _ hM3
       have c6 := cellsAt b6 0; have c7 := cellsAt b7 0; have c8 := cellsAt b8 0
       have f6 := cells_frozen b6 0; have f7 := cells_frozen b7 0; have f8 := cells_frozen b8 0
       have Hw1 := Hold.mk hM3; clear hM2 hM3 b6 b7 b8)
    | (go_at_call 47; (with_reducible refine (HT.out _ (HM0.out.trans Hw1.out)).mono ?_); rintro e w2 ⟨rfl, hM2⟩
       have hM3 := Hw1.out.trans hM2
       clear p0 p1 p2 p3 p4 c6 c7 c8 f6 f7 f8 hz
       obtain ⟨⟨p0, p1, p2, p3, p4⟩, b6, b7, b8, hz⟩ := FIN.out _ hM3
       have c6 := cellsAt b6 0; have c7 := cellsAt b7 0; have c8 := cellsAt b8 0
       have f6 := cells_frozen b6 0; have f7 := cells_frozen b7 0; have f8 := cells_frozen b8 0
       have Hw2 := Hold.mk hM3; clear hM2 hM3 b6 b7 b8)
    | (go_at_call 47; (with_reducible refine (HH.out _ (HM0.out.trans Hw2.out)).mono ?_); rintro e w3 ⟨rfl, hM2⟩
       have hM3 := Hw2.out.trans hM2
       clear p0 p1 p2 p3 p4 c6 c7 c8 f6 f7 f8 hz
       obtain ⟨⟨p0, p1, p2, p3, p4⟩, b6, b7, b8, hz⟩ := FIN.out _ hM3
       have c6 := cellsAt b6 0; have c7 := cellsAt b7 0; have c8 := cellsAt b8 0
       have f6 := cells_frozen b6 0; have f7 := cells_frozen b7 0; have f8 := cells_frozen b8 0
       have Hw3 := Hold.mk hM3; clear hM2 hM3 b6 b7 b8))
  refine bodyPost_ret (v := .tuple #[.slice none 0 0, .slice none 0 0, .int .i64 1]) ?_ rfl (twoNil ?_)
  · simp [results, Try.results26, go_sem, *]
  · exact threeMod (b := w.heap.size + 1) (HM0.out.trans Hw3.out) (by omega)

set_option maxRecDepth 100000 in
set_option maxHeartbeats 2000000 in
theorem pairs_3a (p : Ply) (to ho : Option Addr) (n m capt caph : Nat) (w : World) (HP : Hold (∀ w, Calls Try.prog 46 #[plV p] w fun r w' => r = .returned (.bool true) ∧ Mod noB w w')) (HT : Hold (∀ w', Mod noB w w' → Calls Try.prog 47 #[.slice to n capt] w' fun r w'' => r = .returned (.bool true) ∧ Mod noB w' w'')) (HH : Hold (∀ w', Mod noB w w' → Calls Try.prog 47 #[.slice ho m caph] w' fun r w'' => r = .returned (.bool true) ∧ Mod noB w' w'')) (hn0 : n ≤ 1000000000000) (hm0 : m ≤ 1000000000000) (h8 : ¬ n ≤ 8) :
    Calls Try.prog 26 #[plV p, .slice to n capt, .slice ho m caph] w (TwoOut [] [] 3 w) := by
  have HM0 : Hold (Mod noB w ((((w.alloc (.cells (plC p) 25)).alloc (.cells #[.slice none 0 0] 43)).alloc (.cells #[.slice none 0 0] 43)).alloc (.cells #[.int .i64 0] 28))) := ⟨allocL_mod noB [_, _, _, _] w⟩
  have FIN := Hold.mk (prsFacts p w)
  go_enter Try.func26, Try.ntmps26
  go_wp2_with (first
    | (go_at_call 46; (with_reducible refine (HP.out _).mono ?_); rintro e w1 ⟨rfl, hM2⟩
       have hM3 := hM2
       obtain ⟨⟨p0, p1, p2, p3, p4⟩, b6, b7, b8, hz⟩ := FIN.out _ hM3
       have c6 := cellsAt b6 0; have c7 := cellsAt b7 0; have c8 := cellsAt b8 0
       have f6 := cells_frozen b6 0; have f7 := cells_frozen b7 0; have f8 := cells_frozen b8 0
       have Hw1 := Hold.mk hM3; clear hM2 hM3 b6 b7 b8)
    | (go_at_call 47; (with_reducible refine (HT.out _ (HM0.out.trans Hw1.out)).mono ?_); rintro e w2 ⟨rfl, hM2⟩
       have hM3 := Hw1.out.trans hM2
       clear p0 p1 p2 p3 p4 c6 c7 c8 f6 f7 f8 hz
       obtain ⟨⟨p0, p1, p2, p3, p4⟩, b6, b7, b8, hz⟩ := FIN.out _ hM3
       have c6 := cellsAt b6 0; have c7 := cellsAt b7 0; have c8 := cellsAt b8 0
       have f6 := cells_frozen b6 0; have f7 := cells_frozen b7 0; have f8 := cells_frozen b8 0
       have Hw2 := Hold.mk hM3; clear hM2 hM3 b6 b7 b8)
    | (go_at_call 47; (with_reducible refine (HH.out _ (HM0.out.trans Hw2.out)).mono ?_); rintro e w3 ⟨rfl, hM2⟩
       have hM3 := Hw2.out.trans hM2
       clear p0 p1 p2 p3 p4 c6 c7 c8 f6 f7 f8 hz
       obtain ⟨⟨p0, p1, p2, p3, p4⟩, b6, b7, b8, hz⟩ := FIN.out _ hM3
       have c6 := cellsAt b6 0; have c7 := cellsAt b7 0; have c8 := cellsAt b8 0
       have f6 := cells_frozen b6 0; have f7 := cells_frozen b7 0; have f8 := cells_frozen b8 0
       have Hw3 := Hold.mk hM3; clear hM2 hM3 b6 b7 b8))
  refine bodyPost_ret (v := .tuple #[.slice none 0 0, .slice none 0 0, .int .i64 3]) ?_ rfl (twoNil ?_)
  · simp [results, Try.results26, go_sem, *]
  · exact threeMod (b := w.heap.size + 1) (HM0.out.trans Hw3.out) (by omega)

set_option maxRecDepth 100000 in
set_option maxHeartbeats 2000000 in
theorem pairs_3b (p : Ply) (to ho : Option Addr) (n m capt caph : Nat) (w : World) (HP : Hold (∀ w, Calls Try.prog 46 #[plV p] w fun r w' => r = .returned (.bool true) ∧ Mod noB w w')) (HT : Hold (∀ w', Mod noB w w' → Calls Try.prog 47 #[.slice to n capt] w' fun r w'' => r = .returned (.bool true) ∧ Mod noB w' w'')) (HH : Hold (∀ w', Mod noB w w' → Calls Try.prog 47 #[.slice ho m caph] w' fun r w'' => r = .returned (.bool true) ∧ Mod noB w' w'')) (hn0 : n ≤ 1000000000000) (hm0 : m ≤ 1000000000000) (h8 : n ≤ 8) (h9 : ¬ m ≤ 8) :
    Calls Try.prog 26 #[plV p, .slice to n capt, .slice ho m caph] w (TwoOut [] [] 3 w) := by
  have HM0 : Hold (Mod noB w ((((w.alloc (.cells (plC p) 25)).alloc (.cells #[.slice none 0 0] 43)).alloc (.cells #[.slice none 0 0] 43)).alloc (.cells #[.int .i64 0] 28))) := ⟨allocL_mod noB [_, _, _, _] w⟩
  have FIN := Hold.mk (prsFacts p w)
  go_enter Try.func26, Try.ntmps26
  go_wp2_with (first
    | (go_at_call 46; (with_reducible refine (HP.out _).mono ?_); rintro e w1 ⟨rfl, hM2⟩
       have hM3 := hM2
       obtain ⟨⟨p0, p1, p2, p3, p4⟩, b6, b7, b8, hz⟩ := FIN.out _ hM3
       have c6 := cellsAt b6 0; have c7 := cellsAt b7 0; have c8 := cellsAt b8 0
       have f6 := cells_frozen b6 0; have f7 := cells_frozen b7 0; have f8 := cells_frozen b8 0
       have Hw1 := Hold.mk hM3; clear hM2 hM3 b6 b7 b8)
    | (go_at_call 47; (with_reducible refine (HT.out _ (HM0.out.trans Hw1.out)).mono ?_); rintro e w2 ⟨rfl, hM2⟩
       have hM3 := Hw1.out.trans hM2
       clear p0 p1 p2 p3 p4 c6 c7 c8 f6 f7 f8 hz
       obtain ⟨⟨p0, p1, p2, p3, p4⟩, b6, b7, b8, hz⟩ := FIN.out _ hM3
       have c6 := cellsAt b6 0; have c7 := cellsAt b7 0; have c8 := cellsAt b8 0
       have f6 := cells_frozen b6 0; have f7 := cells_frozen b7 0; have f8 := cells_frozen b8 0
       have Hw2 := Hold.mk hM3; clear hM2 hM3 b6 b7 b8)
    | (go_at_call 47; (with_reducible refine (HH.out _ (HM0.out.trans Hw2.out)).mono ?_); rintro e w3 ⟨rfl, hM2⟩
       have hM3 := Hw2.out.trans hM2
       clear p0 p1 p2 p3 p4 c6 c7 c8 f6 f7 f8 hz
       obtain ⟨⟨p0, p1, p2, p3, p4⟩, b6, b7, b8, hz⟩ := FIN.out _ hM3
       have c6 := cellsAt b6 0; have c7 := cellsAt b7 0; have c8 := cellsAt b8 0
       have f6 := cells_frozen b6 0; have f7 := cells_frozen b7 0; have f8 := cells_frozen b8 0
       have Hw3 := Hold.mk hM3; clear hM2 hM3 b6 b7 b8))
  refine bodyPost_ret (v := .tuple #[.slice none 0 0, .slice none 0 0, .int .i64 3]) ?_ rfl (twoNil ?_)
  · simp [results, Try.results26, go_sem, *]
  · exact threeMod (b := w.heap.size + 1) (HM0.out.trans Hw3.out) (by omega)

set_option maxRecDepth 100000 in
set_option maxHeartbeats 2000000 in
theorem pairs_6a (p : Ply) (to ho : Option Addr) (n m capt caph : Nat) (w : World) (HP : Hold (∀ w, Calls Try.prog 46 #[plV p] w fun r w' => r = .returned (.bool true) ∧ Mod noB w w')) (HT : Hold (∀ w', Mod noB w w' → Calls Try.prog 47 #[.slice to n capt] w' fun r w'' => r = .returned (.bool true) ∧ Mod noB w' w'')) (HH : Hold (∀ w', Mod noB w w' → Calls Try.prog 47 #[.slice ho m caph] w' fun r w'' => r = .returned (.bool true) ∧ Mod noB w' w'')) (HA : Hold (∀ w', Mod noB w w' → Calls Try.prog 65 #[.int .i64 1, .slice to n capt] w' fun r w'' => r = .returned (.bool false) ∧ Mod noB w' w'')) (h8 : n ≤ 8) (h9 : m ≤ 8) :
    Calls Try.prog 26 #[plV p, .slice to n capt, .slice ho m caph] w (TwoOut [] [] 6 w) := by
  have HM0 : Hold (Mod noB w ((((w.alloc (.cells (plC p) 25)).alloc (.cells #[.slice none 0 0] 43)).alloc (.cells #[.slice none 0 0] 43)).alloc (.cells #[.int .i64 0] 28))) := ⟨allocL_mod noB [_, _, _, _] w⟩
  have FIN := Hold.mk (prsFacts p w)
  go_enter Try.func26, Try.ntmps26
  go_wp2_with (first
    | (go_at_call 46; (with_reducible refine (HP.out _).mono ?_); rintro e w1 ⟨rfl, hM2⟩
       have hM3 := hM2
       obtain ⟨⟨p0, p1, p2, p3, p4⟩, b6, b7, b8, hz⟩ := FIN.out _ hM3
       have c6 := cellsAt b6 0; have c7 := cellsAt b7 0; have c8 := cellsAt b8 0
       have f6 := cells_frozen b6 0; have f7 := cells_frozen b7 0; have f8 := cells_frozen b8 0
       have Hw1 := Hold.mk hM3; clear hM2 hM3 b6 b7 b8)
    | (go_at_call 47; (with_reducible refine (HT.out _ (HM0.out.trans Hw1.out)).mono ?_); rintro e w2 ⟨rfl, hM2⟩
       have hM3 := Hw1.out.trans hM2
       clear p0 p1 p2 p3 p4 c6 c7 c8 f6 f7 f8 hz
       obtain ⟨⟨p0, p1, p2, p3, p4⟩, b6, b7, b8, hz⟩ := FIN.out _ hM3
       have c6 := cellsAt b6 0; have c7 := cellsAt b7 0; have c8 := cellsAt b8 0
       have f6 := cells_frozen b6 0; have f7 := cells_frozen b7 0; have f8 := cells_frozen b8 0
       have Hw2 := Hold.mk hM3; clear hM2 hM3 b6 b7 b8)
    | (go_at_call 47; (with_reducible refine (HH.out _ (HM0.out.trans Hw2.out)).mono ?_); rintro e w3 ⟨rfl, hM2⟩
       have hM3 := Hw2.out.trans hM2
       clear p0 p1 p2 p3 p4 c6 c7 c8 f6 f7 f8 hz
       obtain ⟨⟨p0, p1, p2, p3, p4⟩, b6, b7, b8, hz⟩ := FIN.out _ hM3
       have c6 := cellsAt b6 0; have c7 := cellsAt b7 0; have c8 := cellsAt b8 0
       have f6 := cells_frozen b6 0; have f7 := cells_frozen b7 0; have f8 := cells_frozen b8 0
       have Hw3 := Hold.mk hM3; clear hM2 hM3 b6 b7 b8)
    | (go_at_call 65; (with_reducible refine (HA.out _ (HM0.out.trans Hw3.out)).mono ?_); rintro e w4 ⟨rfl, hM2⟩
       have hM3 := Hw3.out.trans hM2
       clear p0 p1 p2 p3 p4 c6 c7 c8 f6 f7 f8 hz
       obtain ⟨⟨p0, p1, p2, p3, p4⟩, b6, b7, b8, hz⟩ := FIN.out _ hM3
       have c6 := cellsAt b6 0; have c7 := cellsAt b7 0; have c8 := cellsAt b8 0
       have f6 := cells_frozen b6 0; have f7 := cells_frozen b7 0; have f8 := cells_frozen b8 0
       have Hw4 := Hold.mk hM3; clear hM2 hM3 b6 b7 b8))
  refine bodyPost_ret (v := .tuple #[.slice none 0 0, .slice none 0 0, .int .i64 6]) ?_ rfl (twoNil ?_)
  · simp [results, Try.results26, go_sem, *]
  · exact threeMod (b := w.heap.size + 1) (HM0.out.trans Hw4.out) (by omega)

set_option maxRecDepth 100000 in
set_option maxHeartbeats 2000000 in
theorem pairs_6b (p : Ply) (to ho : Option Addr) (n m capt caph : Nat) (w : World) (HP : Hold (∀ w, Calls Try.prog 46 #[plV p] w fun r w' => r = .returned (.bool true) ∧ Mod noB w w')) (HT : Hold (∀ w', Mod noB w w' → Calls Try.prog 47 #[.slice to n capt] w' fun r w'' => r = .returned (.bool true) ∧ Mod noB w' w'')) (HH : Hold (∀ w', Mod noB w w' → Calls Try.prog 47 #[.slice ho m caph] w' fun r w'' => r = .returned (.bool true) ∧ Mod noB w' w'')) (HA : Hold (∀ w', Mod noB w w' → Calls Try.prog 65 #[.int .i64 1, .slice to n capt] w' fun r w'' => r = .returned (.bool true) ∧ Mod noB w' w'')) (HB : Hold (∀ w', Mod noB w w' → Calls Try.prog 65 #[.int .i64 2, .slice ho m caph] w' fun r w'' => r = .returned (.bool false) ∧ Mod noB w' w'')) (h8 : n ≤ 8) (h9 : m ≤ 8) :
    Calls Try.prog 26 #[plV p, .slice to n capt, .slice ho m caph] w (TwoOut [] [] 6 w) := by
  have HM0 : Hold (Mod noB w ((((w.alloc (.cells (plC p) 25)).alloc (.cells #[.slice none 0 0] 43)).alloc (.cells #[.slice none 0 0] 43)).alloc (.cells #[.int .i64 0] 28))) := ⟨allocL_mod noB [_, _, _, _] w⟩
  have FIN := Hold.mk (prsFacts p w)
  go_enter Try.func26, Try.ntmps26
  go_wp2_with (first
    | (go_at_call 46; (with_reducible refine (HP.out _).mono ?_); rintro e w1 ⟨rfl, hM2⟩
       have hM3 := hM2
       obtain ⟨⟨p0, p1, p2, p3, p4⟩, b6, b7, b8, hz⟩ := FIN.out _ hM3
       have c6 := cellsAt b6 0; have c7 := cellsAt b7 0; have c8 := cellsAt b8 0
       have f6 := cells_frozen b6 0; have f7 := cells_frozen b7 0; have f8 := cells_frozen b8 0
       have Hw1 := Hold.mk hM3; clear hM2 hM3 b6 b7 b8)
    | (go_at_call 47; (with_reducible refine (HT.out _ (HM0.out.trans Hw1.out)).mono ?_); rintro e w2 ⟨rfl, hM2⟩
       have hM3 := Hw1.out.trans hM2
       clear p0 p1 p2 p3 p4 c6 c7 c8 f6 f7 f8 hz
       obtain ⟨⟨p0, p1, p2, p3, p4⟩, b6, b7, b8, hz⟩ := FIN.out _ hM3
       have c6 := cellsAt b6 0; have c7 := cellsAt b7 0; have c8 := cellsAt b8 0
       have f6 := cells_frozen b6 0; have f7 := cells_frozen b7 0; have f8 := cells_frozen b8 0
       have Hw2 := Hold.mk hM3; clear hM2 hM3 b6 b7 b8)
    | (go_at_call 47; (with_reducible refine (HH.out _ (HM0.out.trans Hw2.out)).mono ?_); rintro e w3 ⟨rfl, hM2⟩
       have hM3 := Hw2.out.trans hM2
       clear p0 p1 p2 p3 p4 c6 c7 c8 f6 f7 f8 hz
       obtain ⟨⟨p0, p1, p2, p3, p4⟩, b6, b7, b8, hz⟩ := FIN.out _ hM3
       have c6 := cellsAt b6 0; have c7 := cellsAt b7 0; have c8 := cellsAt b8 0
       have f6 := cells_frozen b6 0; have f7 := cells_frozen b7 0; have f8 := cells_frozen b8 0
       have Hw3 := Hold.mk hM3; clear hM2 hM3 b6 b7 b8)
    | (go_at_call 65; (with_reducible refine (HA.out _ (HM0.out.trans Hw3.out)).mono ?_); rintro e w4 ⟨rfl, hM2⟩
       have hM3 := Hw3.out.trans hM2
       clear p0 p1 p2 p3 p4 c6 c7 c8 f6 f7 f8 hz
       obtain ⟨⟨p0, p1, p2, p3, p4⟩, b6, b7, b8, hz⟩ := FIN.out _ hM3
       have c6 := cellsAt b6 0; have c7 := cellsAt b7 0; have c8 := cellsAt b8 0
       have f6 := cells_frozen b6 0; have f7 := cells_frozen b7 0; have f8 := cells_frozen b8 0
       have Hw4 := Hold.mk hM3; clear hM2 hM3 b6 b7 b8)
    | (go_at_call 65; (with_reducible refine (HB.out _ (HM0.out.trans Hw4.out)).mono ?_); rintro e w5 ⟨rfl, hM2⟩
       have hM3 := Hw4.out.trans hM2
       clear p0 p1 p2 p3 p4 c6 c7 c8 f6 f7 f8 hz
       obtain ⟨⟨p0, p1, p2, p3, p4⟩, b6, b7, b8, hz⟩ := FIN.out _ hM3
       have c6 := cellsAt b6 0; have c7 := cellsAt b7 0; have c8 := cellsAt b8 0
       have f6 := cells_frozen b6 0; have f7 := cells_frozen b7 0; have f8 := cells_frozen b8 0
       have Hw5 := Hold.mk hM3; clear hM2 hM3 b6 b7 b8))
  refine bodyPost_ret (v := .tuple #[.slice none 0 0, .slice none 0 0, .int .i64 6]) ?_ rfl (twoNil ?_)
  · simp [results, Try.results26, go_sem, *]
  · exact threeMod (b := w.heap.size + 1) (HM0.out.trans Hw5.out) (by omega)

set_option maxRecDepth 100000 in
set_option maxHeartbeats 2000000 in
theorem pairs_2 (p : Ply) (to ho : Option Addr) (n m capt caph : Nat) (w : World) (HP : Hold (∀ w, Calls Try.prog 46 #[plV p] w fun r w' => r = .returned (.bool true) ∧ Mod noB w w')) (HT : Hold (∀ w', Mod noB w w' → Calls Try.prog 47 #[.slice to n capt] w' fun r w'' => r = .returned (.bool true) ∧ Mod noB w' w'')) (HH : Hold (∀ w', Mod noB w w' → Calls Try.prog 47 #[.slice ho m caph] w' fun r w'' => r = .returned (.bool true) ∧ Mod noB w' w'')) (HA : Hold (∀ w', Mod noB w w' → Calls Try.prog 65 #[.int .i64 1, .slice to n capt] w' fun r w'' => r = .returned (.bool true) ∧ Mod noB w' w'')) (HB : Hold (∀ w', Mod noB w w' → Calls Try.prog 65 #[.int .i64 2, .slice ho m caph] w' fun r w'' => r = .returned (.bool true) ∧ Mod noB w' w'')) (h8 : n ≤ 8) (h9 : m ≤ 8) (hnm : ((n : Int) == (m : Int)) = false) :
    Calls Try.prog 26 #[plV p, .slice to n capt, .slice ho m caph] w (TwoOut [] [] 2 w) := by
  have hnm2 : ((n : Int) != (m : Int)) = true := by simp [bne, hnm]
  have HM0 : Hold (Mod noB w ((((w.alloc (.cells (plC p) 25)).alloc (.cells #[.slice none 0 0] 43)).alloc (.cells #[.slice none 0 0] 43)).alloc (.cells #[.int .i64 0] 28))) := ⟨allocL_mod noB [_, _, _, _] w⟩
  have FIN := Hold.mk (prsFacts p w)
  go_enter Try.func26, Try.ntmps26
  go_wp2_with (first
    | (go_at_call 46; (with_reducible refine (HP.out _).mono ?_); rintro e w1 ⟨rfl, hM2⟩
       have hM3 := hM2
       obtain ⟨⟨p0, p1, p2, p3, p4⟩, b6, b7, b8, hz⟩ := FIN.out _ hM3
       have c6 := cellsAt b6 0; have c7 := cellsAt b7 0; have c8 := cellsAt b8 0
       have f6 := cells_frozen b6 0; have f7 := cells_frozen b7 0; have f8 := cells_frozen b8 0
       have Hw1 := Hold.mk hM3; clear hM2 hM3 b6 b7 b8)
    | (go_at_call 47; (with_reducible refine (HT.out _ (HM0.out.trans Hw1.out)).mono ?_); rintro e w2 ⟨rfl, hM2⟩
       have hM3 := Hw1.out.trans hM2
       clear p0 p1 p2 p3 p4 c6 c7 c8 f6 f7 f8 hz
       obtain ⟨⟨p0, p1, p2, p3, p4⟩, b6, b7, b8, hz⟩ := FIN.out _ hM3
       have c6 := cellsAt b6 0; have c7 := cellsAt b7 0; have c8 := cellsAt b8 0
       have f6 := cells_frozen b6 0; have f7 := cells_frozen b7 0; have f8 := cells_frozen b8 0
       have Hw2 := Hold.mk hM3; clear hM2 hM3 b6 b7 b8)
    | (go_at_call 47; (with_reducible refine (HH.out _ (HM0.out.trans Hw2.out)).mono ?_); rintro e w3 ⟨rfl, hM2⟩
       have hM3 := Hw2.out.trans hM2
       clear p0 p1 p2 p3 p4 c6 c7 c8 f6 f7 f8 hz
       obtain ⟨⟨p0, p1, p2, p3, p4⟩, b6, b7, b8, hz⟩ := FIN.out _ hM3
       have c6 := cellsAt b6 0; have c7 := cellsAt b7 0; have c8 := cellsAt b8 0
       have f6 := cells_frozen b6 0; have f7 := cells_frozen b7 0; have f8 := cells_frozen b8 0
       have Hw3 := Hold.mk hM3; clear hM2 hM3 b6 b7 b8)
    | (go_at_call 65; (with_reducible refine (HA.out _ (HM0.out.trans Hw3.out)).mono ?_); rintro e w4 ⟨rfl, hM2⟩
       have hM3 := Hw3.out.trans hM2
       clear p0 p1 p2 p3 p4 c6 c7 c8 f6 f7 f8 hz
       obtain ⟨⟨p0, p1, p2, p3, p4⟩, b6, b7, b8, hz⟩ := FIN.out _ hM3
       have c6 := cellsAt b6 0; have c7 := cellsAt b7 0; have c8 := cellsAt b8 0
       have f6 := cells_frozen b6 0; have f7 := cells_frozen b7 0; have f8 := cells_frozen b8 0
       have Hw4 := Hold.mk hM3; clear hM2 hM3 b6 b7 b8)
    | (go_at_call 65; (with_reducible refine (HB.out _ (HM0.out.trans Hw4.out)).mono ?_); rintro e w5 ⟨rfl, hM2⟩
       have hM3 := Hw4.out.trans hM2
       clear p0 p1 p2 p3 p4 c6 c7 c8 f6 f7 f8 hz
       obtain ⟨⟨p0, p1, p2, p3, p4⟩, b6, b7, b8, hz⟩ := FIN.out _ hM3
       have c6 := cellsAt b6 0; have c7 := cellsAt b7 0; have c8 := cellsAt b8 0
       have f6 := cells_frozen b6 0; have f7 := cells_frozen b7 0; have f8 := cells_frozen b8 0
       have Hw5 := Hold.mk hM3; clear hM2 hM3 b6 b7 b8))
  refine bodyPost_ret (v := .tuple #[.slice none 0 0, .slice none 0 0, .int .i64 2]) ?_ rfl (twoNil ?_)
  · simp [results, Try.results26, go_sem, *]
  · exact threeMod (b := w.heap.size + 1) (HM0.out.trans Hw5.out) (by omega)

end Go.Proofs.Ytnjbamikfjdofaa

/- Matches. -/
import Derived.Test.YtnjbamikfjdofaaBetween
set_option linter.unusedSimpArgs false
set_option linter.unusedVariables false
namespace Go.Proofs.Ytnjbamikfjdofaa
open Go.RowKit Go.Shelf

def foundL (p : Ply) (s : Edg) (es : List Edg) : List Int := es.map (fitR p s)
theorem found_cells (p : Ply) (s : Edg) (es : List Edg) : (fcells es.length (foundTo p s es es.length)).toList = (foundL p s es).map (Value.int .i64) := by
  apply List.ext_getElem?
  intro i
  simp only [fcells, foundL, List.map_map]
  by_cases h : i < es.length
  · simp [h, foundTo]
  · simp [h]
theorem found_ints {p : Ply} {s : Edg} {es : List Edg} {w : World} {b : Nat} (h : w.heap[b]? = some (.cells (fcells es.length (foundTo p s es es.length)) 3)) (hn : es.length ≤ 1000) : IntsAt w (some ⟨b, 0, none⟩) (foundL p s es) :=
  ints_lit _ h (found_cells p s es) (by simp [foundL]; omega)
theorem foundL_len (p : Ply) (s : Edg) (es : List Edg) : (foundL p s es).length = es.length := by simp [foundL]

def surely (z : Int) : Bool := [(2 : Int)].any fun y => z == y
def maybe (z : Int) : Bool := [(2 : Int), 1].any fun y => z == y
/-- What Matches returns. -/
def matchesE (p : Ply) (s : Edg) (l : List Edg) : List Int × List Int × Int :=
  if playB p && (sideB s && sidesB l) then (if l.length ≤ 40 then (indicesR surely (foundL p s l), indicesR maybe (foundL p s l), 0) else ([], [], 3)) else ([], [], 1)

/-- Two lists of integers and an error. -/
def TwoOut (L1 L2 : List Int) (er : Int) (w : World) (e : Ending) (w' : World) : Prop :=
  ∃ v1 v2, e = .returned (.tuple #[v1, v2, .int .i64 er]) ∧ w'.ownsRow w.heap.size 3 1 v1 L1.length (L1.map (Value.int .i64)) ∧ w'.ownsRow w.heap.size 3 1 v2 L2.length (L2.map (Value.int .i64)) ∧
    (∀ r, v1.ownBlock = some r → v2.ownBlock ≠ some r) ∧ Mod noB w w'
theorem twoNil {w w' : World} {er : Int} (h : Mod noB w w') : TwoOut [] [] er w (.returned (.tuple #[.slice none 0 0, .slice none 0 0, .int .i64 er])) w' := by
  refine ⟨.slice none 0 0, .slice none 0 0, rfl, World.ownsRow_nil _ _ _ _, World.ownsRow_nil _ _ _ _, ?_, h⟩
  intro r hr
  cases hr

structure MchFacts (p : Ply) (s : Edg) (w W' : World) : Prop where
  p : PlayAt W' w.heap.size p
  s : EdgeAt W' (w.heap.size + 1) 0 s
  n : w.heap.size + 1 < W'.heap.size
theorem mchFacts (p : Ply) (s : Edg) (w W' : World) (h : Mod noB ((w.alloc (.cells (plC p) 25)).alloc (.cells (edC s) 27)) W') : MchFacts p s w W' := by
  rw [allocL2] at h
  exact ⟨PlayAt.of (at_allocL _ h 0 _ rfl), EdgeAt.of (at_allocL _ h 1 _ rfl), by have := lt_allocL _ h; simp at this; omega⟩

theorem own_lt {w : World} {base : Nat} {e : TypeId} {size : Nat} {v : Value} {n : Nat} {xs : List Value} (h : w.ownsRow base e size v n xs) {r : Nat} (hr : v.ownBlock = some r) : r < w.heap.size := by
  obtain ⟨_, ⟨rfl, _⟩ | ⟨g, cap, cur, rfl, hb, hg, _⟩⟩ := h
  · cases hr
  · have : some g = some r := hr
    cases this
    exact (Array.getElem?_eq_some_iff.1 hg).1

set_option maxRecDepth 100000 in
set_option maxHeartbeats 2000000 in
theorem matches_p (p : Ply) (s : Edg) (l : List Edg) (ao : Option Addr) (cap : Nat) (w : World) (HP : Hold (∀ w, Calls Try.prog 46 #[plV p] w fun r w' => r = .returned (.bool false) ∧ Mod noB w w')) :
    Calls Try.prog 24 #[plV p, edV s, .slice ao l.length cap] w (TwoOut [] [] 1 w) := by
  have HM0 : Hold (Mod noB w ((w.alloc (.cells (plC p) 25)).alloc (.cells (edC s) 27))) := ⟨allocL_mod noB [_, _] w⟩
  have FIN := Hold.mk (mchFacts p s w)
  go_enter Try.func24, Try.ntmps24
  go_wp2_with (first
    | (go_at_call 46; (with_reducible refine (HP.out _).mono ?_); rintro e w1 ⟨rfl, hM3⟩
       obtain ⟨⟨p0, p1, p2, p3, p4⟩, ⟨a0, a1, a2, a3, a4, a5, a6⟩, hz⟩ := FIN.out _ hM3
       have hzd : w.heap.size < w1.heap.size := (by omega)
       have HM1 := Hold.mk hM3; clear hM3))
  go_ret3
  exact twoNil (HM0.out.trans HM1.out)

set_option maxRecDepth 100000 in
set_option maxHeartbeats 2000000 in
theorem matches_s (p : Ply) (s : Edg) (l : List Edg) (ao : Option Addr) (cap : Nat) (w : World) (HP : Hold (∀ w, Calls Try.prog 46 #[plV p] w fun r w' => r = .returned (.bool true) ∧ Mod noB w w')) (HS : Hold (∀ (w : World), Calls Try.prog 47 #[.slice (some ⟨w.heap.size, 0, none⟩) 1 1] (w.alloc (.cells (edC s) 27)) fun r w' => r = .returned (.bool false) ∧ Mod noB (w.alloc (.cells (edC s) 27)) w')) :
    Calls Try.prog 24 #[plV p, edV s, .slice ao l.length cap] w (TwoOut [] [] 1 w) := by
  have HM0 : Hold (Mod noB w ((w.alloc (.cells (plC p) 25)).alloc (.cells (edC s) 27))) := ⟨allocL_mod noB [_, _] w⟩
  have FIN := Hold.mk (mchFacts p s w)
  go_enter Try.func24, Try.ntmps24
  go_wp2_with (first
    | (go_at_call 46; (with_reducible refine (HP.out _).mono ?_); rintro e w1 ⟨rfl, hM3⟩
       obtain ⟨⟨p0, p1, p2, p3, p4⟩, ⟨a0, a1, a2, a3, a4, a5, a6⟩, hz⟩ := FIN.out _ hM3
       have hzd : w.heap.size < w1.heap.size := (by omega)
       have HM1 := Hold.mk hM3; clear hM3)
    | (go_at_call 47; (with_reducible refine (HS.out _).mono ?_); rintro e w2 ⟨rfl, hM2⟩
       have hM3 := (HM1.out.alloc _).trans hM2
       clear p0 p1 p2 p3 p4 a0 a1 a2 a3 a4 a5 a6 hz hzd
       obtain ⟨⟨p0, p1, p2, p3, p4⟩, ⟨a0, a1, a2, a3, a4, a5, a6⟩, hz⟩ := FIN.out _ hM3
       have hzd : w.heap.size < w2.heap.size := (by omega)
       have HM2 := Hold.mk hM3; clear hM2 hM3))
  go_ret3
  exact twoNil (HM0.out.trans HM2.out)

set_option maxRecDepth 100000 in
set_option maxHeartbeats 2000000 in
theorem matches_l (p : Ply) (s : Edg) (l : List Edg) (ao : Option Addr) (cap : Nat) (w : World) (HP : Hold (∀ w, Calls Try.prog 46 #[plV p] w fun r w' => r = .returned (.bool true) ∧ Mod noB w w')) (HS : Hold (∀ (w : World), Calls Try.prog 47 #[.slice (some ⟨w.heap.size, 0, none⟩) 1 1] (w.alloc (.cells (edC s) 27)) fun r w' => r = .returned (.bool true) ∧ Mod noB (w.alloc (.cells (edC s) 27)) w')) (HL : Hold (∀ w', Mod noB w w' → Calls Try.prog 47 #[.slice ao l.length cap] w' fun r w'' => r = .returned (.bool false) ∧ Mod noB w' w'')) :
    Calls Try.prog 24 #[plV p, edV s, .slice ao l.length cap] w (TwoOut [] [] 1 w) := by
  have HM0 : Hold (Mod noB w ((w.alloc (.cells (plC p) 25)).alloc (.cells (edC s) 27))) := ⟨allocL_mod noB [_, _] w⟩
  have FIN := Hold.mk (mchFacts p s w)
  go_enter Try.func24, Try.ntmps24
  go_wp2_with (first
    | (go_at_call 46; (with_reducible refine (HP.out _).mono ?_); rintro e w1 ⟨rfl, hM3⟩
       obtain ⟨⟨p0, p1, p2, p3, p4⟩, ⟨a0, a1, a2, a3, a4, a5, a6⟩, hz⟩ := FIN.out _ hM3
       have hzd : w.heap.size < w1.heap.size := (by omega)
       have HM1 := Hold.mk hM3; clear hM3)
    | (go_at_call 47; (with_reducible refine (HS.out _).mono ?_); rintro e w2 ⟨rfl, hM2⟩
       have hM3 := (HM1.out.alloc _).trans hM2
       clear p0 p1 p2 p3 p4 a0 a1 a2 a3 a4 a5 a6 hz hzd
       obtain ⟨⟨p0, p1, p2, p3, p4⟩, ⟨a0, a1, a2, a3, a4, a5, a6⟩, hz⟩ := FIN.out _ hM3
       have hzd : w.heap.size < w2.heap.size := (by omega)
       have HM2 := Hold.mk hM3; clear hM2 hM3)
    | (go_at_call 47; (with_reducible refine (HL.out _ (HM0.out.trans HM2.out)).mono ?_); rintro e w3 ⟨rfl, hM2⟩
       have hM3 := HM2.out.trans hM2
       clear p0 p1 p2 p3 p4 a0 a1 a2 a3 a4 a5 a6 hz hzd
       obtain ⟨⟨p0, p1, p2, p3, p4⟩, ⟨a0, a1, a2, a3, a4, a5, a6⟩, hz⟩ := FIN.out _ hM3
       have hzd : w.heap.size < w3.heap.size := (by omega)
       have HM3 := Hold.mk hM3; clear hM2 hM3))
  go_ret3
  exact twoNil (HM0.out.trans HM3.out)

set_option maxRecDepth 100000 in
set_option maxHeartbeats 2000000 in
theorem matches_3 (p : Ply) (s : Edg) (l : List Edg) (ao : Option Addr) (cap : Nat) (w : World) (HP : Hold (∀ w, Calls Try.prog 46 #[plV p] w fun r w' => r = .returned (.bool true) ∧ Mod noB w w')) (HS : Hold (∀ (w : World), Calls Try.prog 47 #[.slice (some ⟨w.heap.size, 0, none⟩) 1 1] (w.alloc (.cells (edC s) 27)) fun r w' => r = .returned (.bool true) ∧ Mod noB (w.alloc (.cells (edC s) 27)) w')) (HL : Hold (∀ w', Mod noB w w' → Calls Try.prog 47 #[.slice ao l.length cap] w' fun r w'' => r = .returned (.bool true) ∧ Mod noB w' w'')) (hn : ¬ l.length ≤ 40) (hsm : l.length ≤ 1000000000000) :
    Calls Try.prog 24 #[plV p, edV s, .slice ao l.length cap] w (TwoOut [] [] 3 w) := by
  have HM0 : Hold (Mod noB w ((w.alloc (.cells (plC p) 25)).alloc (.cells (edC s) 27))) := ⟨allocL_mod noB [_, _] w⟩
  have FIN := Hold.mk (mchFacts p s w)
  go_enter Try.func24, Try.ntmps24
  go_wp2_with (first
    | (go_at_call 46; (with_reducible refine (HP.out _).mono ?_); rintro e w1 ⟨rfl, hM3⟩
       obtain ⟨⟨p0, p1, p2, p3, p4⟩, ⟨a0, a1, a2, a3, a4, a5, a6⟩, hz⟩ := FIN.out _ hM3
       have hzd : w.heap.size < w1.heap.size := (by omega)
       have HM1 := Hold.mk hM3; clear hM3)
    | (go_at_call 47; (with_reducible refine (HS.out _).mono ?_); rintro e w2 ⟨rfl, hM2⟩
       have hM3 := (HM1.out.alloc _).trans hM2
       clear p0 p1 p2 p3 p4 a0 a1 a2 a3 a4 a5 a6 hz hzd
       obtain ⟨⟨p0, p1, p2, p3, p4⟩, ⟨a0, a1, a2, a3, a4, a5, a6⟩, hz⟩ := FIN.out _ hM3
       have hzd : w.heap.size < w2.heap.size := (by omega)
       have HM2 := Hold.mk hM3; clear hM2 hM3)
    | (go_at_call 47; (with_reducible refine (HL.out _ (HM0.out.trans HM2.out)).mono ?_); rintro e w3 ⟨rfl, hM2⟩
       have hM3 := HM2.out.trans hM2
       clear p0 p1 p2 p3 p4 a0 a1 a2 a3 a4 a5 a6 hz hzd
       obtain ⟨⟨p0, p1, p2, p3, p4⟩, ⟨a0, a1, a2, a3, a4, a5, a6⟩, hz⟩ := FIN.out _ hM3
       have hzd : w.heap.size < w3.heap.size := (by omega)
       have HM3 := Hold.mk hM3; clear hM2 hM3))
  go_ret3
  exact twoNil (HM0.out.trans HM3.out)

set_option maxRecDepth 100000 in
set_option maxHeartbeats 2000000 in
theorem matches_0 (p : Ply) (s : Edg) (l : List Edg) (ao : Option Addr) (cap : Nat) (w : World) (HP : Hold (∀ w, Calls Try.prog 46 #[plV p] w fun r w' => r = .returned (.bool true) ∧ Mod noB w w')) (HS : Hold (∀ (w : World), Calls Try.prog 47 #[.slice (some ⟨w.heap.size, 0, none⟩) 1 1] (w.alloc (.cells (edC s) 27)) fun r w' => r = .returned (.bool true) ∧ Mod noB (w.alloc (.cells (edC s) 27)) w')) (HL : Hold (∀ w', Mod noB w w' → Calls Try.prog 47 #[.slice ao l.length cap] w' fun r w'' => r = .returned (.bool true) ∧ Mod noB w' w'')) (HV : Hold (∀ w', Mod noB w w' → Calls Try.prog 48 #[plV p, edV s, .slice ao l.length cap] w' fun e w'' => ∃ b, w'.heap.size ≤ b ∧ e = .returned (.slice (some ⟨b, 0, none⟩) l.length l.length) ∧ w''.heap[b]? = some (.cells (fcells l.length (foundTo p s l l.length)) 3) ∧ Mod noB w' w'')) (hn : l.length ≤ 40) :
    Calls Try.prog 24 #[plV p, edV s, .slice ao l.length cap] w (TwoOut (indicesR surely (foundL p s l)) (indicesR maybe (foundL p s l)) 0 w) := by
  have HN : Hold (l.length ≤ 1000) := ⟨by omega⟩
  have IX1 : Hold (∀ (bo : Option Addr) (W : World), IntsAt W bo (foundL p s l) → Calls Try.prog 63 #[.slice bo l.length l.length, .slice (some ⟨W.heap.size, 0, none⟩) 1 1] (W.alloc (.cells #[.int .i64 2] 3)) fun e w' => ∃ v, e = .returned v ∧
      w'.ownsRow (W.alloc (.cells #[.int .i64 2] 3)).heap.size 3 1 v (indicesR surely (foundL p s l)).length ((indicesR surely (foundL p s l)).map (Value.int .i64)) ∧ Mod noB (W.alloc (.cells #[.int .i64 2] 3)) w') := ⟨fun bo W h => by
    have := indices_any bo (some ⟨W.heap.size, 0, none⟩) (foundL p s l) [2] l.length 1 (W.alloc (.cells #[.int .i64 2] 3)) (h.mod ((Mod.refl _ _).alloc _)) (ints_lit [2] (World.alloc_heap_new _ _) rfl (by simp))
    rw [foundL_len] at this
    exact this⟩
  have IX2 : Hold (∀ (bo : Option Addr) (W : World), IntsAt W bo (foundL p s l) → Calls Try.prog 63 #[.slice bo l.length l.length, .slice (some ⟨W.heap.size, 0, none⟩) 2 2] (W.alloc (.cells #[.int .i64 2, .int .i64 1] 3)) fun e w' => ∃ v, e = .returned v ∧
      w'.ownsRow (W.alloc (.cells #[.int .i64 2, .int .i64 1] 3)).heap.size 3 1 v (indicesR maybe (foundL p s l)).length ((indicesR maybe (foundL p s l)).map (Value.int .i64)) ∧ Mod noB (W.alloc (.cells #[.int .i64 2, .int .i64 1] 3)) w') := ⟨fun bo W h => by
    have := indices_any bo (some ⟨W.heap.size, 0, none⟩) (foundL p s l) [2, 1] l.length 2 (W.alloc (.cells #[.int .i64 2, .int .i64 1] 3)) (h.mod ((Mod.refl _ _).alloc _)) (ints_lit [2, 1] (World.alloc_heap_new _ _) rfl (by simp))
    rw [foundL_len] at this
    exact this⟩
  have HM0 : Hold (Mod noB w ((w.alloc (.cells (plC p) 25)).alloc (.cells (edC s) 27))) := ⟨allocL_mod noB [_, _] w⟩
  have FIN := Hold.mk (mchFacts p s w)
  go_enter Try.func24, Try.ntmps24
  go_wp2_with (first
    | (go_at_call 46; (with_reducible refine (HP.out _).mono ?_); rintro e w1 ⟨rfl, hM3⟩
       obtain ⟨⟨p0, p1, p2, p3, p4⟩, ⟨a0, a1, a2, a3, a4, a5, a6⟩, hz⟩ := FIN.out _ hM3
       have hzd : w.heap.size < w1.heap.size := (by omega)
       have HM1 := Hold.mk hM3; clear hM3)
    | (go_at_call 47; (with_reducible refine (HS.out _).mono ?_); rintro e w2 ⟨rfl, hM2⟩
       have hM3 := (HM1.out.alloc _).trans hM2
       clear p0 p1 p2 p3 p4 a0 a1 a2 a3 a4 a5 a6 hz hzd
       obtain ⟨⟨p0, p1, p2, p3, p4⟩, ⟨a0, a1, a2, a3, a4, a5, a6⟩, hz⟩ := FIN.out _ hM3
       have hzd : w.heap.size < w2.heap.size := (by omega)
       have HM2 := Hold.mk hM3; clear hM2 hM3)
    | (go_at_call 47; (with_reducible refine (HL.out _ (HM0.out.trans HM2.out)).mono ?_); rintro e w3 ⟨rfl, hM2⟩
       have hM3 := HM2.out.trans hM2
       clear p0 p1 p2 p3 p4 a0 a1 a2 a3 a4 a5 a6 hz hzd
       obtain ⟨⟨p0, p1, p2, p3, p4⟩, ⟨a0, a1, a2, a3, a4, a5, a6⟩, hz⟩ := FIN.out _ hM3
       have hzd : w.heap.size < w3.heap.size := (by omega)
       have HM3 := Hold.mk hM3; clear hM2 hM3)
    | (go_at_call 48; (with_reducible refine (HV.out _ (HM0.out.trans HM3.out)).mono ?_); rintro e w4 ⟨bv, hbv, rfl, hcv, hM2⟩
       have HI := Hold.mk (found_ints hcv HN.out)
       have HM4 := Hold.mk (HM3.out.trans hM2)
       clear hM2 hcv hbv p0 p1 p2 p3 p4 a0 a1 a2 a3 a4 a5 a6 hz hzd)
    | (go_at_call 63; (with_reducible refine (IX1.out _ _ HI.out).mono ?_); rintro e w5 ⟨v1, rfl, hO, hM2⟩
       have HO1 := Hold.mk hO
       have HI5 := Hold.mk (HI.out.mod (((Mod.refl noB w4).alloc _).trans hM2))
       have HM5 := Hold.mk ((HM4.out.alloc _).trans hM2)
       clear hM2 hO HI)
    | (go_at_call 63; (with_reducible refine (IX2.out _ _ HI5.out).mono ?_); rintro e w6 ⟨v2, rfl, hO, hM2⟩
       have HO2 := Hold.mk hO
       have HM56 := Hold.mk (((Mod.refl noB w5).alloc _).trans hM2)
       clear hM2 hO))
  go_ret3
  have hO1 := HO1.out
  have hO2 := HO2.out
  refine ⟨_, _, rfl, own_mono (own_mod hO1 HM56.out) ?_, own_mono hO2 ?_, fun r hr h2 => ?_, HM0.out.trans (HM5.out.trans HM56.out)⟩
  · have := (HM0.out.trans HM4.out).size; simp; omega
  · have := (HM0.out.trans HM5.out).size; simp; omega
  · have h3 := own_lt hO1 hr; have h4 := own_ge hO2 h2; simp at h4; omega

theorem matches_any (p : Ply) (s : Edg) (l : List Edg) (ao : Option Addr) (cap : Nat) (w : World) (hl : EdgesAt w ao l) :
    Calls Try.prog 24 #[plV p, edV s, .slice ao l.length cap] w (TwoOut (matchesE p s l).1 (matchesE p s l).2.1 (matchesE p s l).2.2 w) := by
  have HP := fun w => isPlay_any p w
  have HS : ∀ (w : World), Calls Try.prog 47 #[.slice (some ⟨w.heap.size, 0, none⟩) 1 1] (w.alloc (.cells (edC s) 27)) fun r w' => r = .returned (.bool (sideB s)) ∧ Mod noB (w.alloc (.cells (edC s) 27)) w' :=
    fun w => by rw [show sideB s = sidesB [s] by simp [sidesB]]; exact areSides_any _ [s] 1 _ (edges_lit [s] (World.alloc_heap_new _ _) rfl (by simp))
  have HL : ∀ w', Mod noB w w' → Calls Try.prog 47 #[.slice ao l.length cap] w' fun r w'' => r = .returned (.bool (sidesB l)) ∧ Mod noB w' w'' := fun w' h => areSides_any ao l cap w' (hl.mod h)
  cases hp : playB p with
  | false =>
    rw [hp] at HP
    rw [show matchesE p s l = ([], [], 1) by simp [matchesE, hp]]
    exact matches_p p s l ao cap w ⟨HP⟩
  | true =>
    rw [hp] at HP
    cases hs : sideB s with
    | false =>
      rw [hs] at HS
      rw [show matchesE p s l = ([], [], 1) by simp [matchesE, hs]]
      exact matches_s p s l ao cap w ⟨HP⟩ ⟨HS⟩
    | true =>
      rw [hs] at HS
      cases hls : sidesB l with
      | false =>
        rw [hls] at HL
        rw [show matchesE p s l = ([], [], 1) by simp [matchesE, hls]]
        exact matches_l p s l ao cap w ⟨HP⟩ ⟨HS⟩ ⟨HL⟩
      | true =>
        rw [hls] at HL
        by_cases hn : l.length ≤ 40
        · rw [show matchesE p s l = (indicesR surely (foundL p s l), indicesR maybe (foundL p s l), 0) by simp [matchesE, hp, hs, hls, hn]]
          exact matches_0 p s l ao cap w ⟨HP⟩ ⟨HS⟩ ⟨HL⟩ ⟨fun w' h => verdicts_any p s l ao cap w' hp hs (fun e he => by simp only [sidesB, List.all_eq_true] at hls; exact hls e he) (hl.mod h) (by omega)⟩ hn
        · rw [show matchesE p s l = ([], [], 3) by simp [matchesE, hp, hs, hls, hn]]
          exact matches_3 p s l ao cap w ⟨HP⟩ ⟨HS⟩ ⟨HL⟩ hn hl.small
end Go.Proofs.Ytnjbamikfjdofaa

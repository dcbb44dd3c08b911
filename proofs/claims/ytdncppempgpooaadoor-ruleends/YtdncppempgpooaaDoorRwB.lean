/- RuleEnds: the law's walks where Off's result is an error. -/
import Derived.Test.YtdncppempgpooaaDoorRwA
set_option linter.unusedSimpArgs false
set_option linter.unusedVariables false
namespace Go.Proofs.YtdncppempgpooaaDoor
open Go.RowKit Go.Shelf

set_option maxRecDepth 100000 in
set_option maxHeartbeats 4000000 in
theorem law7_far (ao : Option Addr) (cap n : Nat) (x y z : Int) (k q m u : Int) (w : World) (hn : n ≤ 9223372036854775807) (hf : 10 < (n : Int)) (hT : Tab w) :
    Calls Tryd.prog 7 #[.agg #[.slice ao n cap, .int .i64 x, .int .i64 y, .int .i64 z], .int .i64 k, .int .i64 q, .int .i64 m, .int .u16 u] w fun e w' => e = .returned (.bool true) ∧ Mod noB w w' := by
  have hw1 : 1 < w.heap.size := World.block_lt_of_cell? _ _ (hT.at_ 0 (by omega))
  have HF := Hold.mk (show Kept ((w.alloc (.cells #[.slice ao n cap, .int .i64 x, .int .i64 y, .int .i64 z] 24)).alloc (.cells #[.int .i64 k] 3)) (fun W => Tab W ∧ Mod noB w W) from fun W h => by
    have hm := (((Mod.refl noB w).alloc _).alloc _).trans h
    exact ⟨hT.same (hm.block 1 hw1 id), hm⟩)
  have hc := cellsAt (((Mod.refl noB (w.alloc (.cells #[.slice ao n cap, .int .i64 x, .int .i64 y, .int .i64 z] 24))).alloc (.cells #[.int .i64 k] 3)).at (World.alloc_heap_new w _) id)
  have HD := Hold.mk (((Mod.refl noB (w.alloc (.cells #[.slice ao n cap, .int .i64 x, .int .i64 y, .int .i64 z] 24))).alloc (.cells #[.int .i64 k] 3)).at (World.alloc_heap_new w _) id)
  have H12 : Hold (∀ W, Calls Tryd.prog 12 #[.agg #[.slice ao n cap, .int .i64 x, .int .i64 y, .int .i64 z], .slice none 0 0, .slice none 0 0] W fun e w' => e = .returned (.bool true) ∧ Mod noB W w') := ⟨fun W => (far_more ao none none cap n 0 0 0 0 x y z W hn (by omega) (by omega)).mono fun e w' h => ⟨by rw [h.1]; simp; omega, h.2⟩⟩
  clear hT hw1 hf hc
  go_enter Tryd.func7, Tryd.ntmps7
  go_wp2_with (first
    | (refine wpList_load_row rfl 24 (.tmp 5) rfl w.heap.size rfl 24 _ (0, 0) _ HD.out Tryd.underlying24 rfl info24 ?_)
    | (go_at_call 12; refine (H12.out _).mono ?_; rintro e w1 ⟨rfl, hM⟩; have HF1 := Hold.mk (HF.out.later hM); clear hM)
    | (go_at_call 13; refine (awake_any _ HF1.out.now.1).mono ?_; rintro e w2 ⟨rfl, hM⟩; have HF2 := Hold.mk (HF1.out.later hM); clear hM))
  go_ret
  exact ⟨rfl, HF2.out.now.2⟩

set_option maxRecDepth 100000 in
set_option maxHeartbeats 4000000 in
theorem law7_no (B : Nat) (ao : Option Addr) (cap : Nat) (d : Dye) (k q m u : Int) (w : World) (hB : B ≤ w.heap.size) (hs : BladesAt B w ao d.bl) (hT : Tab w) (hf : ¬ 10 < (d.bl.length : Int)) (hno : (dieB d && (hasB d k && fromB 0 7000 q)) = false) :
    Calls Tryd.prog 7 #[dyV ao d.bl.length cap d, .int .i64 k, .int .i64 q, .int .i64 m, .int .u16 u] w fun e w' => e = .returned (.bool true) ∧ Mod noB w w' := by
  have hsm := hs.small
  have HE := Hold.mk (ends0 w B ao cap d k hB hs hT)
  have H12 : Hold (∀ W, Calls Tryd.prog 12 #[dyV ao d.bl.length cap d, .slice none 0 0, .slice none 0 0] W fun e w' => e = .returned (.bool false) ∧ Mod noB W w') := ⟨fun W => (far_any ao cap d none none d.bl.length 0 0 0 0 W rfl hsm (by omega) (by omega)).mono fun e w' h => ⟨by rw [h.1]; simp; omega, h.2⟩⟩
  have H27 : Hold (∀ W, B ≤ W.heap.size → BladesAt B W ao d.bl → Calls Tryd.prog 27 #[dyV ao d.bl.length cap d] W fun e w' => e = .returned (.bool (dieB d)) ∧ Mod noB W w') := ⟨fun W h1 h2 => refDie_any B ao cap d W h1 h2⟩
  cases hd : dieB d with
  | false =>
    rw [hd] at H27
    have H14 : Hold (∀ W, B ≤ W.heap.size → BladesAt B W ao d.bl → Calls Tryd.prog 14 #[dyV ao d.bl.length cap d, .int .i64 k, .int .i64 q] W fun e w' => e = .returned (.tuple #[spV (0, 0), .int .i64 1]) ∧ Mod noB W w') := ⟨fun W h1 h2 => (off_any B ao cap d k q W h1 h2).mono fun e w' h => by rw [TwoRes, offE, if_pos hd] at h; exact h⟩
    clear hs hT hB hno hd hsm hf
    go_enter Tryd.func7, Tryd.ntmps7
    go_wp2_with (first
      | (refine wpList_load_row rfl 24 (.tmp 5) rfl w.heap.size rfl 24 _ (0, 0) _ (HE.out _ (by first | exact Mod.refl _ _ | exact (Mod.refl _ _).alloc _)).1 Tryd.underlying24 rfl info24 ?_)
      | (go_at_call 12; refine (H12.out _).mono ?_; rintro e w1 ⟨rfl, hM⟩; have HE := Hold.mk (HE.out.later hM); have e6 := cellsAt HE.out.now.2.1 0; clear hM)
      | (go_at_call 14; have hh := HE.out.now.2.2.1; refine (H14.out _ hh.1 hh.2.1).mono ?_; clear hh; rintro e w2 ⟨rfl, hM⟩; have HE := Hold.mk (HE.out.later hM); have gd := (HE.out _ ((Mod.refl noB w2).alloc (.cells #[.int .i64 0, .int .i64 0] 28))).1; have g0 := cellsAt gd 0; have g1 := cellsAt gd 1; have g2 := cellsAt gd 2; have g3 := cellsAt gd 3; clear hM e6 gd)
      | (go_at_call 27; have hh := (HE.out _ ((Mod.refl noB w2).alloc (.cells #[.int .i64 0, .int .i64 0] 28))).2.2.1; refine (H27.out _ hh.1 hh.2.1).mono ?_; clear hh; rintro e w3 ⟨rfl, hM⟩; have HE := Hold.mk (HE.out.later (((Mod.refl noB w2).alloc (.cells #[.int .i64 0, .int .i64 0] 28)).trans hM)); clear hM)
      | (go_at_call 13; refine (awake_any _ HE.out.now.2.2.1.2.2).mono ?_; rintro e w4 ⟨rfl, hM⟩; have HE := Hold.mk (HE.out.later hM); clear hM))
    go_ret
    exact ⟨rfl, HE.out.now.2.2.2⟩
  | true =>
    rw [hd] at H27 hno
    have H14 : Hold (∀ W, B ≤ W.heap.size → BladesAt B W ao d.bl → Calls Tryd.prog 14 #[dyV ao d.bl.length cap d, .int .i64 k, .int .i64 q] W fun e w' => e = .returned (.tuple #[spV (0, 0), .int .i64 2]) ∧ Mod noB W w') := ⟨fun W h1 h2 => (off_any B ao cap d k q W h1 h2).mono fun e w' h => by
      rw [TwoRes, offE, if_neg (by rw [hd]; decide), if_pos (by simpa using hno)] at h; exact h⟩
    clear hs hT hB hno hd hsm hf
    go_enter Tryd.func7, Tryd.ntmps7
    go_wp2_with (first
      | (refine wpList_load_row rfl 24 (.tmp 5) rfl w.heap.size rfl 24 _ (0, 0) _ (HE.out _ (by first | exact Mod.refl _ _ | exact (Mod.refl _ _).alloc _)).1 Tryd.underlying24 rfl info24 ?_)
      | (go_at_call 12; refine (H12.out _).mono ?_; rintro e w1 ⟨rfl, hM⟩; have HE := Hold.mk (HE.out.later hM); have e6 := cellsAt HE.out.now.2.1 0; clear hM)
      | (go_at_call 14; have hh := HE.out.now.2.2.1; refine (H14.out _ hh.1 hh.2.1).mono ?_; clear hh; rintro e w2 ⟨rfl, hM⟩; have HE := Hold.mk (HE.out.later hM); have gd := (HE.out _ ((Mod.refl noB w2).alloc (.cells #[.int .i64 0, .int .i64 0] 28))).1; have g0 := cellsAt gd 0; have g1 := cellsAt gd 1; have g2 := cellsAt gd 2; have g3 := cellsAt gd 3; clear hM e6 gd)
      | (go_at_call 27; have hh := (HE.out _ ((Mod.refl noB w2).alloc (.cells #[.int .i64 0, .int .i64 0] 28))).2.2.1; refine (H27.out _ hh.1 hh.2.1).mono ?_; clear hh; rintro e w3 ⟨rfl, hM⟩; have HE := Hold.mk (HE.out.later (((Mod.refl noB w2).alloc (.cells #[.int .i64 0, .int .i64 0] 28)).trans hM)); clear hM)
      | (go_at_call 13; refine (awake_any _ HE.out.now.2.2.1.2.2).mono ?_; rintro e w4 ⟨rfl, hM⟩; have HE := Hold.mk (HE.out.later hM); clear hM))
    go_ret
    exact ⟨rfl, HE.out.now.2.2.2⟩

theorem offE_yes {d : Dye} {k q : Int} {fa fb wa wb : Int} (h1 : dieB d = true) (h2 : hasB d k = true) (hx : bladeAt d k.toNat = ⟨(fa, fb), (wa, wb)⟩) (h0 : 0 ≤ q) (h7 : q ≤ 7000) : offE d k q = ((fa + wa * q, fb + wb * q), 0) := by
  have h3 : fromB 0 7000 q = true := by simp [fromB, h0, h7]
  simp [offE, h1, h2, h3, hx, leastV, mostV, Int.mul_comm]

/-- What Lasts yields, by cases. -/
def LastsIs (d : Dye) (k m fa fb wa wb : Int) : Prop :=
  (lastsE d k m = ((0, 0), 2) ∧ m < 0) ∨ (lastsE d k m = ((0, 0), 2) ∧ 0 ≤ m ∧ 200000 < m) ∨ (lastsE d k m = ((0, 0), 4) ∧ 0 ≤ m ∧ m ≤ 200000 ∧ m < fb) ∨
  ∃ lo hi, lastsE d k m = ((lo, hi), 0) ∧ (0 ≤ lo ∧ lo ≤ hi ∧ hi ≤ 7000 ∧ fb + wb * lo ≤ m ∧ fa + wa * hi ≤ m ∧ 0 ≤ wb * lo ∧ 0 ≤ wa * hi) ∧ (lo = 7000 ∨ lo < 7000 ∧ m < fb + wb * (lo + 1)) ∧ (hi = 7000 ∨ hi < 7000 ∧ m < fa + wa * (hi + 1))
theorem lasts_is {d : Dye} {k m : Int} {fa fb wa wb : Int} (h1 : dieB d = true) (h2 : hasB d k = true) (hx : bladeAt d k.toNat = ⟨(fa, fb), (wa, wb)⟩) (hf : fa ≤ fb) (hw0 : 0 ≤ wa) (hw : wa ≤ wb) : LastsIs d k m fa fb wa wb := by
  by_cases m0 : m < 0
  · have hn : fromB 0 200000 m = false := by simp [fromB]; omega
    exact .inl ⟨by simp [lastsE, h1, h2, hn], m0⟩
  by_cases m2 : 200000 < m
  · have hn : fromB 0 200000 m = false := by simp [fromB]; omega
    exact .inr (.inl ⟨by simp [lastsE, h1, h2, hn], by omega, m2⟩)
  have h3 : fromB 0 200000 m = true := by simp [fromB]; omega
  by_cases hlt : m < fb
  · exact .inr (.inr (.inl ⟨by simp [lastsE, h1, h2, h3, hx, hlt], by omega, by omega, hlt⟩))
  · refine .inr (.inr (.inr ⟨lastR fb wb m, lastR fa wa m, by simp [lastsE, h1, h2, h3, hx, hlt], ?_⟩))
    obtain ⟨p0, p1, p2, p3⟩ := lastR_is (a := fb) (c := wb) (bound := m) (by omega) (by omega)
    obtain ⟨q0, q1, q2, q3⟩ := lastR_is (a := fa) (c := wa) (bound := m) hw0 (by omega)
    have hmo := lastR_mono (m := m) hw0 hw hf (by omega)
    generalize lastR fb wb m = lo at *
    generalize lastR fa wa m = hi at *
    rw [Int.mul_comm] at p2 q2
    rw [Int.mul_comm (lo + 1)] at p3
    rw [Int.mul_comm (hi + 1)] at q3
    have := Int.mul_nonneg (a := wb) (b := lo) (by omega) p0
    have := Int.mul_nonneg (a := wa) (b := hi) hw0 q0
    exact ⟨⟨p0, hmo, q1, p2, q2, by omega, by omega⟩, by omega, by omega⟩
end Go.Proofs.YtdncppempgpooaaDoor

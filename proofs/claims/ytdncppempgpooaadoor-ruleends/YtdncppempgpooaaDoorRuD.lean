/- isDie, areStints, hasBlade, allBlades, isPlan. -/
import Derived.Test.YtdncppempgpooaaDoorRuC
set_option linter.unusedSimpArgs false
set_option linter.unusedVariables false
namespace Go.Proofs.YtdncppempgpooaaDoor
open Go.RowKit

theorem from_eq (lo hi n : Int) (v : Bool) (h : fromB lo hi n = v) : Hold (∀ w, Calls Tryd.prog 41 #[.int .i64 lo, .int .i64 hi, .int .i64 n] w fun e w' => e = .returned (.bool v) ∧ Mod noB w w') :=
  ⟨fun w => by rw [← h]; exact isFrom_any _ _ _ _⟩

set_option maxHeartbeats 2000000 in
theorem isDie_any (B : Nat) (ao : Option Addr) (cap : Nat) (d : Dye) (w : World) (hB : B ≤ w.heap.size) (hs : BladesAt B w ao d.bl) :
    Calls Tryd.prog 39 #[dyV ao d.bl.length cap d] w fun r w' => r = .returned (.bool (dieB d)) ∧ Mod noB w w' := by
  obtain ⟨bl, bound, stop, bend⟩ := d
  simp only at hs
  have hsm := hs.small
  have HM := Hold.mk ((Mod.refl noB w).alloc (.cells (dyC ao bl.length cap ⟨bl, bound, stop, bend⟩) 24))
  have HN := Hold.mk (new_at w (.cells (dyC ao bl.length cap ⟨bl, bound, stop, bend⟩) 24))
  cases h1 : fromB 1 5 bl.length with
  | false =>
    have H1 := from_eq _ _ _ _ h1
    have he : Hold (dieB ⟨bl, bound, stop, bend⟩ = false) := ⟨by simp only [dieB, h1, Bool.false_and]⟩
    clear h1 hs hB
    go_enter Tryd.func39, Tryd.ntmps39
    go_wp2_with (go_at_call 41; refine (H1.out _).mono ?_; rintro e w1 ⟨rfl, hM⟩; have HM1 := Hold.mk hM; clear hM)
    go_ret
    exact ⟨by rw [he.out] <;> rfl, HM.out.trans HM1.out⟩
  | true =>
    have H1 := from_eq _ _ _ _ h1
    have HC : Hold (∀ w1, Mod noB w w1 → Calls Tryd.prog 62 #[.slice ao bl.length cap, .func (.func 60) #[] #[]] w1 fun e w' => e = .returned (.bool (!bl.all bladeB)) ∧ Mod noB w1 w') :=
      ⟨fun w1 hm => by
        have := containsFuncE B ao bl cap 60 #[] (fun b => !bladeB b) w1 (Nat.le_trans hB hm.size) (hs.low (Low.ofN hm hB)) enter60 (fun e w1 _ => isDie1_any e w1)
        rw [all_not, Bool.not_not]; exact this⟩
    clear hs hB
    cases h2 : bl.all bladeB with
    | false =>
      rw [h2] at HC
      have he : Hold (dieB ⟨bl, bound, stop, bend⟩ = false) := ⟨by simp only [dieB, h2, Bool.false_and, Bool.and_false]⟩
      clear h1 h2
      go_enter Tryd.func39, Tryd.ntmps39
      go_wp2_with (first
        | (go_at_call 41; refine (H1.out _).mono ?_; rintro e w1 ⟨rfl, hM⟩; have hb := HN.out _ hM; have c0 := cellsAt hb 0; have c1 := cellsAt hb 1; have c2 := cellsAt hb 2; have c3 := cellsAt hb 3; have HM1 := Hold.mk (HM.out.trans hM); clear hM hb)
        | (go_at_call 62; refine (HC.out _ HM1.out).mono ?_; rintro e w1 ⟨rfl, hM⟩; have HM2 := Hold.mk (HM1.out.trans hM); clear hM))
      go_ret
      exact ⟨by rw [he.out] <;> rfl, HM2.out⟩
    | true =>
      rw [h2] at HC
      have H3 : ∀ v, fromB 0 100000 bound = v → Hold (∀ w, Calls Tryd.prog 41 #[.int .i64 0, .int .i64 100000, .int .i64 bound] w fun e w' => e = .returned (.bool v) ∧ Mod noB w w') := fun v h => from_eq _ _ _ _ h
      have H4 : ∀ v, fromB 0 10000 stop = v → Hold (∀ w, Calls Tryd.prog 41 #[.int .i64 0, .int .i64 10000, .int .i64 stop] w fun e w' => e = .returned (.bool v) ∧ Mod noB w w') := fun v h => from_eq _ _ _ _ h
      have H5 : Hold (∀ w, Calls Tryd.prog 41 #[.int .i64 0, .int .i64 10000, .int .i64 bend] w fun e w' => e = .returned (.bool (fromB 0 10000 bend)) ∧ Mod noB w w') := ⟨fun w => isFrom_any _ _ _ _⟩
      cases h3 : fromB 0 100000 bound with
      | false =>
        have H3 := H3 _ h3
        have he : Hold (dieB ⟨bl, bound, stop, bend⟩ = false) := ⟨by simp only [dieB, h3, Bool.false_and, Bool.and_false]⟩
        clear h1 h2 h3 H4
        go_enter Tryd.func39, Tryd.ntmps39
        go_wp2_with (first
          | (go_at_call 41; have H1x := H1; refine (H1.out _).mono ?_; rintro e w1 ⟨rfl, hM⟩; have hb := HN.out _ hM; have c0 := cellsAt hb 0; have c1 := cellsAt hb 1; have c2 := cellsAt hb 2; have c3 := cellsAt hb 3; have HM1 := Hold.mk (HM.out.trans hM); have HR := Hold.mk hM; clear hM hb H1 H1x)
          | (go_at_call 62; refine (HC.out _ HM1.out).mono ?_; rintro e w2 ⟨rfl, hM⟩; have hb := HN.out _ (HR.out.trans hM); have c0 := cellsAt hb 0; have c1 := cellsAt hb 1; have c2 := cellsAt hb 2; have c3 := cellsAt hb 3; have HM2 := Hold.mk (HM1.out.trans hM); clear hM hb)
          | (go_at_call 41; refine (H3.out _).mono ?_; rintro e w3 ⟨rfl, hM⟩; have HM3 := Hold.mk (HM2.out.trans hM); clear hM))
        go_ret
        exact ⟨by rw [he.out] <;> rfl, HM3.out⟩
      | true =>
        have H3 := H3 _ h3
        cases h4 : fromB 0 10000 stop with
        | false =>
          have H4 := H4 _ h4
          have he : Hold (dieB ⟨bl, bound, stop, bend⟩ = false) := ⟨by simp only [dieB, h4, Bool.false_and, Bool.and_false]⟩
          clear h1 h2 h3 h4
          go_enter Tryd.func39, Tryd.ntmps39
          go_wp2_with (first
            | (go_at_call 41; have H1x := H1; refine (H1.out _).mono ?_; rintro e w1 ⟨rfl, hM⟩; have hb := HN.out _ hM; have c0 := cellsAt hb 0; have c1 := cellsAt hb 1; have c2 := cellsAt hb 2; have c3 := cellsAt hb 3; have HM1 := Hold.mk (HM.out.trans hM); have HR := Hold.mk hM; clear hM hb H1 H1x)
            | (go_at_call 62; refine (HC.out _ HM1.out).mono ?_; rintro e w2 ⟨rfl, hM⟩; have hb := HN.out _ (HR.out.trans hM); have c0 := cellsAt hb 0; have c1 := cellsAt hb 1; have c2 := cellsAt hb 2; have c3 := cellsAt hb 3; have HM2 := Hold.mk (HM1.out.trans hM); replace HR := Hold.mk (HR.out.trans hM); clear hM hb)
            | (go_at_call 41; have H3x := H3; refine (H3.out _).mono ?_; rintro e w3 ⟨rfl, hM⟩; have hb := HN.out _ (HR.out.trans hM); have c0 := cellsAt hb 0; have c1 := cellsAt hb 1; have c2 := cellsAt hb 2; have c3 := cellsAt hb 3; have HM3 := Hold.mk (HM2.out.trans hM); clear hM hb H3 H3x)
            | (go_at_call 41; refine (H4.out _).mono ?_; rintro e w3 ⟨rfl, hM⟩; have HM4 := Hold.mk (HM3.out.trans hM); clear hM))
          go_ret
          exact ⟨by rw [he.out] <;> rfl, HM4.out⟩
        | true =>
          have H4 := H4 _ h4
          have he : Hold (dieB ⟨bl, bound, stop, bend⟩ = fromB 0 10000 bend) := ⟨by simp only [dieB, h1, h2, h3, h4, Bool.true_and, Bool.and_true]⟩
          clear h1 h2 h3 h4
          generalize fromB 0 10000 bend = s at *
          go_enter Tryd.func39, Tryd.ntmps39
          go_wp2_with (first
            | (go_at_call 41; have H1x := H1; refine (H1.out _).mono ?_; rintro e w1 ⟨rfl, hM⟩; have hb := HN.out _ hM; have c0 := cellsAt hb 0; have c1 := cellsAt hb 1; have c2 := cellsAt hb 2; have c3 := cellsAt hb 3; have HM1 := Hold.mk (HM.out.trans hM); have HR := Hold.mk hM; clear hM hb H1 H1x)
            | (go_at_call 62; refine (HC.out _ HM1.out).mono ?_; rintro e w2 ⟨rfl, hM⟩; have hb := HN.out _ (HR.out.trans hM); have c0 := cellsAt hb 0; have c1 := cellsAt hb 1; have c2 := cellsAt hb 2; have c3 := cellsAt hb 3; have HM2 := Hold.mk (HM1.out.trans hM); replace HR := Hold.mk (HR.out.trans hM); clear hM hb)
            | (go_at_call 41; have H3x := H3; refine (H3.out _).mono ?_; rintro e w3 ⟨rfl, hM⟩; have hb := HN.out _ (HR.out.trans hM); have c0 := cellsAt hb 0; have c1 := cellsAt hb 1; have c2 := cellsAt hb 2; have c3 := cellsAt hb 3; have HM3 := Hold.mk (HM2.out.trans hM); replace HR := Hold.mk (HR.out.trans hM); clear hM hb H3 H3x)
            | (go_at_call 41; have H4x := H4; refine (H4.out _).mono ?_; rintro e w4 ⟨rfl, hM⟩; have hb := HN.out _ (HR.out.trans hM); have c0 := cellsAt hb 0; have c1 := cellsAt hb 1; have c2 := cellsAt hb 2; have c3 := cellsAt hb 3; have HM4 := Hold.mk (HM3.out.trans hM); clear hM hb H4 H4x)
            | (go_at_call 41; refine (H5.out _).mono ?_; rintro e w5 ⟨rfl, hM⟩; have HM5 := Hold.mk (HM4.out.trans hM); clear hM))
          go_ret
          exact ⟨by rw [he.out] <;> rfl, HM5.out⟩

set_option maxHeartbeats 1000000 in
theorem areStints1_any (s : Int × Int) (w : World) : Calls Tryd.prog 77 #[spV s] w fun r w' => r = .returned (.bool (!stintB s)) ∧ Mod noB w w' := by
  obtain ⟨f, u⟩ := s
  have HM := Hold.mk ((Mod.refl noB w).alloc (.cells (spC (f, u)) 58))
  have HN := Hold.mk (new_at w (.cells (spC (f, u)) 58))
  have H2 : Hold (∀ w, Calls Tryd.prog 41 #[.int .i64 0, .int .i64 100000, .int .i64 u] w fun e w' => e = .returned (.bool (fromB 0 100000 u)) ∧ Mod noB w w') := ⟨fun w => isFrom_any _ _ _ _⟩
  cases hf : fromB 1 1000 f with
  | false =>
    have H1 := from_eq _ _ _ _ hf
    have he : Hold ((!stintB (f, u)) = true) := ⟨by simp [stintB, hf]⟩
    clear hf
    go_enter Tryd.func77, Tryd.ntmps77
    go_wp2_with (go_at_call 41; refine (H1.out _).mono ?_; rintro e w1 ⟨rfl, hM⟩; have HM := Hold.mk (HM.out.trans hM); clear hM)
    go_ret
    exact ⟨by rw [he.out] <;> rfl, HM.out⟩
  | true =>
    have H1 := from_eq _ _ _ _ hf
    have he : Hold ((!stintB (f, u)) = !fromB 0 100000 u) := ⟨by simp [stintB, hf]⟩
    clear hf
    generalize fromB 0 100000 u = s at *
    go_enter Tryd.func77, Tryd.ntmps77
    go_wp2_with (first
      | (go_at_call 41; have H1x := H1; refine (H1.out _).mono ?_; rintro e w1 ⟨rfl, hM⟩; have h1 := HN.out _ hM; have c1 := cellsAt h1 1; have HM := Hold.mk (HM.out.trans hM); clear hM H1 H1x h1)
      | (go_at_call 41; refine (H2.out _).mono ?_; rintro e w1 ⟨rfl, hM⟩; have HM := Hold.mk (HM.out.trans hM); clear hM))
    go_ret
    exact ⟨by rw [he.out] <;> rfl, HM.out⟩

set_option maxHeartbeats 1000000 in
theorem areStints_any (B : Nat) (ao : Option Addr) (cap : Nat) (l : List (Int × Int)) (w : World) (hB : B ≤ w.heap.size) (hs : StintsAt B w ao l) :
    Calls Tryd.prog 67 #[.slice ao l.length cap] w fun r w' => r = .returned (.bool (stintsB l)) ∧ Mod noB w w' := by
  have hsm := hs.small
  have H := Hold.mk (containsFuncS B ao l cap 77 #[] (fun s => !stintB s) w hB hs enter77 (fun e w1 _ => areStints1_any e w1))
  by_cases h : (l.length : Int) ≤ 7
  · have he : Hold (stintsB l = !(l.any fun s => !stintB s)) := ⟨by simp only [stintsB, h, decide_true, Bool.true_and]; exact all_not _ _⟩
    generalize (l.any fun s => !stintB s) = s at *
    clear hs hB
    go_enter Tryd.func67, Tryd.ntmps67
    go_wp2_with (go_at_call 78; refine H.out.mono ?_; rintro e w1 ⟨rfl, hM⟩; have HM := Hold.mk hM; clear hM)
    go_ret
    exact ⟨by rw [he.out] <;> rfl, HM.out⟩
  · have h' : decide ((l.length : Int) ≤ 7) = false := by simpa using h
    have h2 : decide (l.length ≤ 7) = false := by simp; omega
    have he : Hold (stintsB l = false) := ⟨by simp only [stintsB, h', Bool.false_and]⟩
    clear hs hB H h
    go_enter Tryd.func67, Tryd.ntmps67
    go_wp2
    go_ret
    exact ⟨by rw [he.out] <;> rfl, Mod.refl _ _⟩

set_option maxHeartbeats 400000 in
theorem hasBlade_any (ao : Option Addr) (cap : Nat) (d : Dye) (k : Int) (w : World) (hsm : d.bl.length ≤ 1000000000000) :
    Calls Tryd.prog 40 #[dyV ao d.bl.length cap d, .int .i64 k] w fun r w' => r = .returned (.bool (hasB d k)) ∧ Mod noB w w' := by
  have H : Hold (∀ w, Calls Tryd.prog 41 #[.int .i64 0, .int .i64 (d.bl.length - 1), .int .i64 k] w fun e w' => e = .returned (.bool (hasB d k)) ∧ Mod noB w w') := ⟨fun w => isFrom_any _ _ _ _⟩
  have HM0 := Hold.mk ((Mod.refl noB w).alloc (.cells (dyC ao d.bl.length cap d) 24))
  go_enter Tryd.func40, Tryd.ntmps40
  go_wp2_with (go_at_call 41; refine (H.out _).mono ?_; rintro e w1 ⟨rfl, hM⟩; have HM := Hold.mk hM; clear hM)
  go_ret
  exact ⟨rfl, HM0.out.trans HM.out⟩
end Go.Proofs.YtdncppempgpooaaDoor

/- ContainsFunc over kinds; which boxes and tests are valid. -/
import Derived.Test.YtknbcmildpmokaaScB
set_option linter.unusedSimpArgs false
set_option linter.unusedVariables false
namespace Go.Proofs.Ytknbcmildpmokaa
open Go.RowKit


/-- The first index of an element that is p, or -1. -/
def idxOf {α : Type} (p : α → Bool) (l : List α) : Int := match l.findIdx? p with | some i => i | none => -1
theorem idxOf_at {α : Type} {p : α → Bool} {l : List α} {k : Nat} {x : α} (hk : l[k]? = some x) (h1 : p x = true) (h0 : ∀ j y, j < k → l[j]? = some y → p y = false) : idxOf p l = k := by
  obtain ⟨hlt, hx⟩ := List.getElem?_eq_some_iff.1 hk
  have : l.findIdx? p = some k := by
    rw [List.findIdx?_eq_some_iff_getElem]
    refine ⟨hlt, by rw [hx]; exact h1, fun j hj => ?_⟩
    have := h0 j l[j] hj (List.getElem?_eq_getElem (by omega))
    simp [this]
  simp [idxOf, this]
theorem idxOf_none {α : Type} {p : α → Bool} {l : List α} (h0 : ∀ j y, j < l.length → l[j]? = some y → p y = false) : idxOf p l = -1 := by
  have : l.findIdx? p = none := by
    rw [List.findIdx?_eq_none_iff]
    intro x hx
    obtain ⟨j, hj⟩ := List.mem_iff_getElem?.1 hx
    exact h0 j x (List.getElem?_eq_some_iff.1 hj).1 hj
  simp [idxOf, this]
theorem idxOf_any {α : Type} (f : α → Bool) (l : List α) : decide (0 ≤ idxOf f l) = l.any f := by
  cases h : l.findIdx? f with
  | none =>
    have h' := h
    rw [List.findIdx?_eq_none_iff] at h
    have : l.any f = false := by simpa using h
    simp [idxOf, h', this]
  | some i =>
    obtain ⟨hi, hp, _⟩ := List.findIdx?_eq_some_iff_getElem.1 h
    have : l.any f = true := by simp only [List.any_eq_true]; exact ⟨_, List.getElem_mem hi, hp⟩
    simp [idxOf, h, this]
theorem all_not {α : Type} (f : α → Bool) (l : List α) : l.all f = !(l.any fun e => !f e) := by
  induction l with
  | nil => rfl
  | cons x l ih => simp only [List.all_cons, List.any_cons, ih, Bool.not_or, Bool.not_not]

set_option maxHeartbeats 1000000 in
theorem indexFuncK (B : Nat) (ao : Option Addr) (es : List Knd) (cap : Nat) (fn : Nat) (lb : Array Value) (f : Knd → Bool) (w : World) (hB : B ≤ w.heap.size) (hs : KindsAt B w ao es)
    (eg : ∀ args w, (callFunc fn args).run Try.prog w = .ok (.enter fn args) w)
    (hf : ∀ (e : Knd) (w1 : World), Mod noB w w1 → Calls Try.prog fn (#[knV e] ++ lb) w1 fun r w' => r = .returned (.bool (f e)) ∧ Mod noB w1 w') :
    Calls Try.prog 80 #[.slice ao es.length cap, .func (.func fn) #[] lb] w fun e w' => e = .returned (.int .i64 (idxOf f es)) ∧ Mod noB w w' := by
  have hsm := hs.small
  have HF := Hold.mk hf
  have HS := Hold.mk hs
  have HB := Hold.mk hB
  clear hf hs hB
  go_enter Try.func80, Try.ntmps80
  go_wp2
  go_loopw [8] (fun i wr => ∃ k : Nat, k ≤ es.length ∧ i = .int .i64 k ∧ (∀ j y, j < k → es[j]? = some y → f y = false) ∧ Mod noB w wr) (fun i _ => es.length - (intOf i).toNat)
  case atStart => exact ⟨0, Nat.zero_le _, rfl, fun j _ hj => absurd hj (Nat.not_lt_zero _), Mod.refl _ _⟩
  case round =>
    obtain ⟨k, hk, rfl, h0, hmr⟩ := hrel
    have H0 := Hold.mk h0
    clear h0
    by_cases hlt : k < es.length
    · obtain ⟨z, hz⟩ : ∃ z, es[k]? = some z := ⟨_, List.getElem?_eq_getElem hlt⟩
      obtain ⟨b, off, rfl, _, q0, q1, q2⟩ := (HS.out.low (Low.ofN hmr HB.out)).kind hz
      have Hz := Hold.mk hz
      have HM := Hold.mk hmr
      clear hz hmr
      cases hx : f z with
      | true =>
        have Hx := Hold.mk hx
        have HF' : Hold (Calls Try.prog fn (#[knV z] ++ lb) wr fun r w' => r = .returned (.bool true) ∧ Mod noB wr w') := ⟨by rw [← hx]; exact HF.out z wr HM.out⟩
        clear hx
        go_wp2_with (refine HF'.out.mono ?_; rintro e w' ⟨rfl, hM⟩; have HM2 := Hold.mk hM; clear hM)
        go_ret
        exact ⟨ret_i64 (idxOf_at Hz.out Hx.out H0.out).symm, HM.out.trans HM2.out⟩
      | false =>
        have Hx := Hold.mk hx
        have HF' : Hold (Calls Try.prog fn (#[knV z] ++ lb) wr fun r w' => r = .returned (.bool false) ∧ Mod noB wr w') := ⟨by rw [← hx]; exact HF.out z wr HM.out⟩
        clear hx
        go_wp2_with (refine HF'.out.mono ?_; rintro e w' ⟨rfl, hM⟩; have HM2 := Hold.mk hM; clear hM)
        go_roundw
        case rel => exact ⟨k + 1, by omega, by go_num, fun j y hj hy => by
          rcases Nat.lt_succ_iff_lt_or_eq.1 hj with h | rfl
          · exact H0.out j y h hy
          · rw [Hz.out] at hy; cases hy; exact Hx.out, HM.out.trans HM2.out⟩
        case measure => simp [intOf]; omega
    · obtain rfl : k = es.length := by omega
      go_wp2
      go_ret
      exact ⟨ret_i64 (idxOf_none H0.out).symm, hmr⟩

set_option maxHeartbeats 1000000 in
theorem containsFuncK (B : Nat) (ao : Option Addr) (es : List Knd) (cap : Nat) (fn : Nat) (lb : Array Value) (f : Knd → Bool) (w : World) (hB : B ≤ w.heap.size) (hs : KindsAt B w ao es)
    (eg : ∀ args w, (callFunc fn args).run Try.prog w = .ok (.enter fn args) w)
    (hf : ∀ (e : Knd) (w1 : World), Mod noB w w1 → Calls Try.prog fn (#[knV e] ++ lb) w1 fun r w' => r = .returned (.bool (f e)) ∧ Mod noB w1 w') :
    Calls Try.prog 67 #[.slice ao es.length cap, .func (.func fn) #[] lb] w fun e w' => e = .returned (.bool (es.any f)) ∧ Mod noB w w' := by
  have HI := Hold.mk (indexFuncK B ao es cap fn lb f w hB hs eg hf)
  have HA := Hold.mk (idxOf_any f es)
  clear hf hs hB
  obtain ⟨i, hi⟩ : ∃ i, idxOf f es = i := ⟨_, rfl⟩
  rw [hi] at HI HA
  clear hi
  go_enter Try.func67, Try.ntmps67
  go_wp2_with (go_at_call 80; refine HI.out.mono ?_; rintro e w' ⟨rfl, hM⟩; have HM2 := Hold.mk hM; clear hM)
  go_ret
  exact ⟨by rw [← HA.out]; rfl, HM2.out⟩
theorem enter64 : ∀ args w, (callFunc 64 args).run Try.prog w = .ok (.enter 64 args) w := enters_of Try.func64 (by kernel_rfl) rfl

set_option maxHeartbeats 4000000 in
theorem isBox_any (B : Nat) (ao : Option Addr) (cap : Nat) (b : Bx) (w : World) (hB : B ≤ w.heap.size) (hs : KindsAt B w ao b.ks) :
    Calls Try.prog 43 #[bxV ao b.ks.length cap b] w fun r w' => r = .returned (.bool (boxB b)) ∧ Mod noB w w' := by
  obtain ⟨ks, bag, lost, extra⟩ := b
  simp only at hs
  have hsm := hs.small
  have HM0 := Hold.mk ((Mod.refl noB w).alloc (.cells (bxC ao ks.length cap ⟨ks, bag, lost, extra⟩) 26))
  have HN := Hold.mk (new_at w (.cells (bxC ao ks.length cap ⟨ks, bag, lost, extra⟩) 26))
  have he : Hold (boxB ⟨ks, bag, lost, extra⟩ = (fromB 1 4 ks.length && (ks.all kindB && (withinB 0 100000 bag && (fromB 0 4 lost && fromB 0 3 extra))))) := ⟨rfl⟩
  have HC : Hold (∀ w1, Mod noB w w1 → Calls Try.prog 67 #[.slice ao ks.length cap, .func (.func 64) #[] #[]] w1 fun e w' => e = .returned (.bool (!ks.all kindB)) ∧ Mod noB w1 w') :=
    ⟨fun w1 hm => by
      have := containsFuncK B ao ks cap 64 #[] (fun b => !kindB b) w1 (Nat.le_trans hB hm.size) (hs.low (Low.ofN hm hB)) enter64 (fun e w1 _ => isBox1_any e w1)
      rw [all_not, Bool.not_not]; exact this⟩
  have H1 := from_eq 1 4 ks.length _ rfl
  have H3 := within_eq 0 100000 bag _ rfl
  have H4 := from_eq 0 4 lost _ rfl
  have H5 := from_eq 0 3 extra _ rfl
  generalize fromB 1 4 ks.length = v1 at *
  generalize ks.all kindB = v2 at *
  generalize withinB 0 100000 bag = v3 at *
  generalize fromB 0 4 lost = v4 at *
  generalize fromB 0 3 extra = v5 at *
  clear hs hB
  cases v1 with
  | false =>
    go_enter Try.func43, Try.ntmps43
    go_wp2_with (first
      | (go_at_call 65; have H1x := H1; refine (H1.out _).mono ?_; rintro e w1 ⟨rfl, hM⟩; have hb := HN.out _ hM; have c0 := cellsAt hb 0; have c1 := cellsAt hb 1; have c2 := cellsAt hb 2; have c3 := cellsAt hb 3; have c4 := cellsAt hb 4; have HR1 := Hold.mk hM; have HM1 := Hold.mk (HM0.out.trans hM); clear hM hb H1 H1x)
      | (go_at_call 67; have HCx := HC; refine (HC.out _ HM1.out).mono ?_; rintro e w1 ⟨rfl, hM⟩; have hb := HN.out _ (HR1.out.trans hM); have c0 := cellsAt hb 0; have c1 := cellsAt hb 1; have c2 := cellsAt hb 2; have c3 := cellsAt hb 3; have c4 := cellsAt hb 4; have HR2 := Hold.mk (HR1.out.trans hM); have HM2 := Hold.mk (HM1.out.trans hM); clear hM hb HC HCx)
      | (go_at_call 66; have H3x := H3; refine (H3.out _).mono ?_; rintro e w1 ⟨rfl, hM⟩; have hb := HN.out _ (HR2.out.trans hM); have c0 := cellsAt hb 0; have c1 := cellsAt hb 1; have c2 := cellsAt hb 2; have c3 := cellsAt hb 3; have c4 := cellsAt hb 4; have HR3 := Hold.mk (HR2.out.trans hM); have HM3 := Hold.mk (HM2.out.trans hM); clear hM hb H3 H3x)
      | (go_at_call 65; have H4x := H4; refine (H4.out _).mono ?_; rintro e w1 ⟨rfl, hM⟩; have hb := HN.out _ (HR3.out.trans hM); have c0 := cellsAt hb 0; have c1 := cellsAt hb 1; have c2 := cellsAt hb 2; have c3 := cellsAt hb 3; have c4 := cellsAt hb 4; have HR4 := Hold.mk (HR3.out.trans hM); have HM4 := Hold.mk (HM3.out.trans hM); clear hM hb H4 H4x)
      | (go_at_call 65; have H5x := H5; refine (H5.out _).mono ?_; rintro e w1 ⟨rfl, hM⟩; have hb := HN.out _ (HR4.out.trans hM); have c0 := cellsAt hb 0; have c1 := cellsAt hb 1; have c2 := cellsAt hb 2; have c3 := cellsAt hb 3; have c4 := cellsAt hb 4; have HR5 := Hold.mk (HR4.out.trans hM); have HM5 := Hold.mk (HM4.out.trans hM); clear hM hb H5 H5x))
    go_ret
    exact ⟨by rw [he.out] <;> rfl, by first | exact HM5.out | exact HM4.out | exact HM3.out | exact HM2.out | exact HM1.out⟩
  | true =>
    cases v2 with
    | false =>
      go_enter Try.func43, Try.ntmps43
      go_wp2_with (first
        | (go_at_call 65; have H1x := H1; refine (H1.out _).mono ?_; rintro e w1 ⟨rfl, hM⟩; have hb := HN.out _ hM; have c0 := cellsAt hb 0; have c1 := cellsAt hb 1; have c2 := cellsAt hb 2; have c3 := cellsAt hb 3; have c4 := cellsAt hb 4; have HR1 := Hold.mk hM; have HM1 := Hold.mk (HM0.out.trans hM); clear hM hb H1 H1x)
        | (go_at_call 67; have HCx := HC; refine (HC.out _ HM1.out).mono ?_; rintro e w1 ⟨rfl, hM⟩; have hb := HN.out _ (HR1.out.trans hM); have c0 := cellsAt hb 0; have c1 := cellsAt hb 1; have c2 := cellsAt hb 2; have c3 := cellsAt hb 3; have c4 := cellsAt hb 4; have HR2 := Hold.mk (HR1.out.trans hM); have HM2 := Hold.mk (HM1.out.trans hM); clear hM hb HC HCx)
        | (go_at_call 66; have H3x := H3; refine (H3.out _).mono ?_; rintro e w1 ⟨rfl, hM⟩; have hb := HN.out _ (HR2.out.trans hM); have c0 := cellsAt hb 0; have c1 := cellsAt hb 1; have c2 := cellsAt hb 2; have c3 := cellsAt hb 3; have c4 := cellsAt hb 4; have HR3 := Hold.mk (HR2.out.trans hM); have HM3 := Hold.mk (HM2.out.trans hM); clear hM hb H3 H3x)
        | (go_at_call 65; have H4x := H4; refine (H4.out _).mono ?_; rintro e w1 ⟨rfl, hM⟩; have hb := HN.out _ (HR3.out.trans hM); have c0 := cellsAt hb 0; have c1 := cellsAt hb 1; have c2 := cellsAt hb 2; have c3 := cellsAt hb 3; have c4 := cellsAt hb 4; have HR4 := Hold.mk (HR3.out.trans hM); have HM4 := Hold.mk (HM3.out.trans hM); clear hM hb H4 H4x)
        | (go_at_call 65; have H5x := H5; refine (H5.out _).mono ?_; rintro e w1 ⟨rfl, hM⟩; have hb := HN.out _ (HR4.out.trans hM); have c0 := cellsAt hb 0; have c1 := cellsAt hb 1; have c2 := cellsAt hb 2; have c3 := cellsAt hb 3; have c4 := cellsAt hb 4; have HR5 := Hold.mk (HR4.out.trans hM); have HM5 := Hold.mk (HM4.out.trans hM); clear hM hb H5 H5x))
      go_ret
      exact ⟨by rw [he.out] <;> rfl, by first | exact HM5.out | exact HM4.out | exact HM3.out | exact HM2.out | exact HM1.out⟩
    | true =>
      cases v3 with
      | false =>
        go_enter Try.func43, Try.ntmps43
        go_wp2_with (first
          | (go_at_call 65; have H1x := H1; refine (H1.out _).mono ?_; rintro e w1 ⟨rfl, hM⟩; have hb := HN.out _ hM; have c0 := cellsAt hb 0; have c1 := cellsAt hb 1; have c2 := cellsAt hb 2; have c3 := cellsAt hb 3; have c4 := cellsAt hb 4; have HR1 := Hold.mk hM; have HM1 := Hold.mk (HM0.out.trans hM); clear hM hb H1 H1x)
          | (go_at_call 67; have HCx := HC; refine (HC.out _ HM1.out).mono ?_; rintro e w1 ⟨rfl, hM⟩; have hb := HN.out _ (HR1.out.trans hM); have c0 := cellsAt hb 0; have c1 := cellsAt hb 1; have c2 := cellsAt hb 2; have c3 := cellsAt hb 3; have c4 := cellsAt hb 4; have HR2 := Hold.mk (HR1.out.trans hM); have HM2 := Hold.mk (HM1.out.trans hM); clear hM hb HC HCx)
          | (go_at_call 66; have H3x := H3; refine (H3.out _).mono ?_; rintro e w1 ⟨rfl, hM⟩; have hb := HN.out _ (HR2.out.trans hM); have c0 := cellsAt hb 0; have c1 := cellsAt hb 1; have c2 := cellsAt hb 2; have c3 := cellsAt hb 3; have c4 := cellsAt hb 4; have HR3 := Hold.mk (HR2.out.trans hM); have HM3 := Hold.mk (HM2.out.trans hM); clear hM hb H3 H3x)
          | (go_at_call 65; have H4x := H4; refine (H4.out _).mono ?_; rintro e w1 ⟨rfl, hM⟩; have hb := HN.out _ (HR3.out.trans hM); have c0 := cellsAt hb 0; have c1 := cellsAt hb 1; have c2 := cellsAt hb 2; have c3 := cellsAt hb 3; have c4 := cellsAt hb 4; have HR4 := Hold.mk (HR3.out.trans hM); have HM4 := Hold.mk (HM3.out.trans hM); clear hM hb H4 H4x)
          | (go_at_call 65; have H5x := H5; refine (H5.out _).mono ?_; rintro e w1 ⟨rfl, hM⟩; have hb := HN.out _ (HR4.out.trans hM); have c0 := cellsAt hb 0; have c1 := cellsAt hb 1; have c2 := cellsAt hb 2; have c3 := cellsAt hb 3; have c4 := cellsAt hb 4; have HR5 := Hold.mk (HR4.out.trans hM); have HM5 := Hold.mk (HM4.out.trans hM); clear hM hb H5 H5x))
        go_ret
        exact ⟨by rw [he.out] <;> rfl, by first | exact HM5.out | exact HM4.out | exact HM3.out | exact HM2.out | exact HM1.out⟩
      | true =>
        cases v4 with
        | false =>
          go_enter Try.func43, Try.ntmps43
          go_wp2_with (first
            | (go_at_call 65; have H1x := H1; refine (H1.out _).mono ?_; rintro e w1 ⟨rfl, hM⟩; have hb := HN.out _ hM; have c0 := cellsAt hb 0; have c1 := cellsAt hb 1; have c2 := cellsAt hb 2; have c3 := cellsAt hb 3; have c4 := cellsAt hb 4; have HR1 := Hold.mk hM; have HM1 := Hold.mk (HM0.out.trans hM); clear hM hb H1 H1x)
            | (go_at_call 67; have HCx := HC; refine (HC.out _ HM1.out).mono ?_; rintro e w1 ⟨rfl, hM⟩; have hb := HN.out _ (HR1.out.trans hM); have c0 := cellsAt hb 0; have c1 := cellsAt hb 1; have c2 := cellsAt hb 2; have c3 := cellsAt hb 3; have c4 := cellsAt hb 4; have HR2 := Hold.mk (HR1.out.trans hM); have HM2 := Hold.mk (HM1.out.trans hM); clear hM hb HC HCx)
            | (go_at_call 66; have H3x := H3; refine (H3.out _).mono ?_; rintro e w1 ⟨rfl, hM⟩; have hb := HN.out _ (HR2.out.trans hM); have c0 := cellsAt hb 0; have c1 := cellsAt hb 1; have c2 := cellsAt hb 2; have c3 := cellsAt hb 3; have c4 := cellsAt hb 4; have HR3 := Hold.mk (HR2.out.trans hM); have HM3 := Hold.mk (HM2.out.trans hM); clear hM hb H3 H3x)
            | (go_at_call 65; have H4x := H4; refine (H4.out _).mono ?_; rintro e w1 ⟨rfl, hM⟩; have hb := HN.out _ (HR3.out.trans hM); have c0 := cellsAt hb 0; have c1 := cellsAt hb 1; have c2 := cellsAt hb 2; have c3 := cellsAt hb 3; have c4 := cellsAt hb 4; have HR4 := Hold.mk (HR3.out.trans hM); have HM4 := Hold.mk (HM3.out.trans hM); clear hM hb H4 H4x)
            | (go_at_call 65; have H5x := H5; refine (H5.out _).mono ?_; rintro e w1 ⟨rfl, hM⟩; have hb := HN.out _ (HR4.out.trans hM); have c0 := cellsAt hb 0; have c1 := cellsAt hb 1; have c2 := cellsAt hb 2; have c3 := cellsAt hb 3; have c4 := cellsAt hb 4; have HR5 := Hold.mk (HR4.out.trans hM); have HM5 := Hold.mk (HM4.out.trans hM); clear hM hb H5 H5x))
          go_ret
          exact ⟨by rw [he.out] <;> rfl, by first | exact HM5.out | exact HM4.out | exact HM3.out | exact HM2.out | exact HM1.out⟩
        | true =>
          go_enter Try.func43, Try.ntmps43
          go_wp2_with (first
            | (go_at_call 65; have H1x := H1; refine (H1.out _).mono ?_; rintro e w1 ⟨rfl, hM⟩; have hb := HN.out _ hM; have c0 := cellsAt hb 0; have c1 := cellsAt hb 1; have c2 := cellsAt hb 2; have c3 := cellsAt hb 3; have c4 := cellsAt hb 4; have HR1 := Hold.mk hM; have HM1 := Hold.mk (HM0.out.trans hM); clear hM hb H1 H1x)
            | (go_at_call 67; have HCx := HC; refine (HC.out _ HM1.out).mono ?_; rintro e w1 ⟨rfl, hM⟩; have hb := HN.out _ (HR1.out.trans hM); have c0 := cellsAt hb 0; have c1 := cellsAt hb 1; have c2 := cellsAt hb 2; have c3 := cellsAt hb 3; have c4 := cellsAt hb 4; have HR2 := Hold.mk (HR1.out.trans hM); have HM2 := Hold.mk (HM1.out.trans hM); clear hM hb HC HCx)
            | (go_at_call 66; have H3x := H3; refine (H3.out _).mono ?_; rintro e w1 ⟨rfl, hM⟩; have hb := HN.out _ (HR2.out.trans hM); have c0 := cellsAt hb 0; have c1 := cellsAt hb 1; have c2 := cellsAt hb 2; have c3 := cellsAt hb 3; have c4 := cellsAt hb 4; have HR3 := Hold.mk (HR2.out.trans hM); have HM3 := Hold.mk (HM2.out.trans hM); clear hM hb H3 H3x)
            | (go_at_call 65; have H4x := H4; refine (H4.out _).mono ?_; rintro e w1 ⟨rfl, hM⟩; have hb := HN.out _ (HR3.out.trans hM); have c0 := cellsAt hb 0; have c1 := cellsAt hb 1; have c2 := cellsAt hb 2; have c3 := cellsAt hb 3; have c4 := cellsAt hb 4; have HR4 := Hold.mk (HR3.out.trans hM); have HM4 := Hold.mk (HM3.out.trans hM); clear hM hb H4 H4x)
            | (go_at_call 65; have H5x := H5; refine (H5.out _).mono ?_; rintro e w1 ⟨rfl, hM⟩; have hb := HN.out _ (HR4.out.trans hM); have c0 := cellsAt hb 0; have c1 := cellsAt hb 1; have c2 := cellsAt hb 2; have c3 := cellsAt hb 3; have c4 := cellsAt hb 4; have HR5 := Hold.mk (HR4.out.trans hM); have HM5 := Hold.mk (HM4.out.trans hM); clear hM hb H5 H5x))
          go_ret
          exact ⟨by rw [he.out] <;> rfl, by first | exact HM5.out | exact HM4.out | exact HM3.out | exact HM2.out | exact HM1.out⟩
end Go.Proofs.Ytknbcmildpmokaa

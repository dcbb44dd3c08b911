/- ContainsFunc over blades, stints and numbers; isDie, areStints, isPlan, hasBlade. -/
import Derived.Test.YtdncppempgpooaaDoorRuB
set_option linter.unusedSimpArgs false
set_option linter.unusedVariables false
namespace Go.Proofs.YtdncppempgpooaaDoor
open Go.RowKit

theorem ret_i64 {a b : Int} (h : a = b) : Ending.returned (.int .i64 a) = .returned (.int .i64 b) := by rw [h]
/-- The first index of an element that is p, or -1. -/
def idxOf {α : Type} (p : α → Bool) (l : List α) : Int := match l.findIdx? p with | some i => i | none => -1

theorem idxOf_at {α : Type} {p : α → Bool} {l : List α} {k : Nat} {x : α} (hk : l[k]? = some x) (h1 : p x = true) (h0 : ∀ j y, j < k → l[j]? = some y → p y = false) : idxOf p l = k := by
  obtain ⟨hlt, hx⟩ := List.getElem?_eq_some_iff.1 hk
  have : l.findIdx? p = some k := by
    rw [List.findIdx?_eq_some_iff_getElem]
    refine ⟨hlt, by rw [hx]; exact h1, fun j hj => ?_⟩
    have := h0 j l[j] hj (List.getElem?_eq_getElem (by omega))
    simp [this]
  simp [idxOf, this]
theorem idxOf_none {α : Type} {p : α → Bool} {l : List α} (h0 : ∀ j y, j < l.length → l[j]? = some y → p y = false) : idxOf p l = -1 := by
  have : l.findIdx? p = none := by
    rw [List.findIdx?_eq_none_iff]
    intro x hx
    obtain ⟨j, hj⟩ := List.mem_iff_getElem?.1 hx
    exact h0 j x (List.getElem?_eq_some_iff.1 hj).1 hj
  simp [idxOf, this]
theorem idxOf_any {α : Type} (f : α → Bool) (l : List α) : decide (0 ≤ idxOf f l) = l.any f := by
  cases h : l.findIdx? f with
  | none =>
    have h' := h
    rw [List.findIdx?_eq_none_iff] at h
    have : l.any f = false := by simpa using h
    simp [idxOf, h', this]
  | some i =>
    obtain ⟨hi, hp, _⟩ := List.findIdx?_eq_some_iff_getElem.1 h
    have : l.any f = true := by simp only [List.any_eq_true]; exact ⟨_, List.getElem_mem hi, hp⟩
    simp [idxOf, h, this]
theorem all_not {α : Type} (f : α → Bool) (l : List α) : l.all f = !(l.any fun e => !f e) := by
  induction l with
  | nil => rfl
  | cons x l ih => simp only [List.all_cons, List.any_cons, ih, Bool.not_or, Bool.not_not]

set_option maxHeartbeats 1000000 in
theorem indexFuncE (B : Nat) (ao : Option Addr) (es : List (Bld)) (cap : Nat) (fn : Nat) (lb : Array Value) (f : Bld → Bool) (w : World) (hB : B ≤ w.heap.size) (hs : BladesAt B w ao es)
    (eg : ∀ args w, (callFunc fn args).run Tryd.prog w = .ok (.enter fn args) w)
    (hf : ∀ (e : Bld) (w1 : World), Mod noB w w1 → Calls Tryd.prog fn (#[blV e] ++ lb) w1 fun r w' => r = .returned (.bool (f e)) ∧ Mod noB w1 w') :
    Calls Tryd.prog 76 #[.slice ao es.length cap, .func (.func fn) #[] lb] w fun e w' => e = .returned (.int .i64 (idxOf f es)) ∧ Mod noB w w' := by
  have hsm := hs.small
  have HF := Hold.mk hf
  have HS := Hold.mk hs
  have HB := Hold.mk hB
  clear hf hs hB
  go_enter Tryd.func76, Tryd.ntmps76
  go_wp2
  go_loopw [8] (fun i wr => ∃ k : Nat, k ≤ es.length ∧ i = .int .i64 k ∧ (∀ j y, j < k → es[j]? = some y → f y = false) ∧ Mod noB w wr) (fun i _ => es.length - (intOf i).toNat)
  case atStart => exact ⟨0, Nat.zero_le _, rfl, fun j _ hj => absurd hj (Nat.not_lt_zero _), Mod.refl _ _⟩
  case round =>
    obtain ⟨k, hk, rfl, h0, hmr⟩ := hrel
    have H0 := Hold.mk h0
    clear h0
    by_cases hlt : k < es.length
    · obtain ⟨z, hz⟩ : ∃ z, es[k]? = some z := ⟨_, List.getElem?_eq_getElem hlt⟩
      obtain ⟨b, off, rfl, _, q0, q1, q2, q3⟩ := (HS.out.low (Low.ofN hmr HB.out)).blade hz
      have Hz := Hold.mk hz
      have HM := Hold.mk hmr
      clear hz hmr
      cases hx : f z with
      | true =>
        have Hx := Hold.mk hx
        have HF' : Hold (Calls Tryd.prog fn (#[blV z] ++ lb) wr fun r w' => r = .returned (.bool true) ∧ Mod noB wr w') := ⟨by rw [← hx]; exact HF.out z wr HM.out⟩
        clear hx
        go_wp2_with (refine HF'.out.mono ?_; rintro e w' ⟨rfl, hM⟩; have HM2 := Hold.mk hM; clear hM)
        go_ret
        exact ⟨ret_i64 (idxOf_at Hz.out Hx.out H0.out).symm, HM.out.trans HM2.out⟩
      | false =>
        have Hx := Hold.mk hx
        have HF' : Hold (Calls Tryd.prog fn (#[blV z] ++ lb) wr fun r w' => r = .returned (.bool false) ∧ Mod noB wr w') := ⟨by rw [← hx]; exact HF.out z wr HM.out⟩
        clear hx
        go_wp2_with (refine HF'.out.mono ?_; rintro e w' ⟨rfl, hM⟩; have HM2 := Hold.mk hM; clear hM)
        go_roundw
        case rel => exact ⟨k + 1, by omega, by go_num, fun j y hj hy => by
          rcases Nat.lt_succ_iff_lt_or_eq.1 hj with h | rfl
          · exact H0.out j y h hy
          · rw [Hz.out] at hy; cases hy; exact Hx.out, HM.out.trans HM2.out⟩
        case measure => simp [intOf]; omega
    · obtain rfl : k = es.length := by omega
      go_wp2
      go_ret
      exact ⟨ret_i64 (idxOf_none H0.out).symm, hmr⟩

set_option maxHeartbeats 1000000 in
theorem containsFuncE (B : Nat) (ao : Option Addr) (es : List (Bld)) (cap : Nat) (fn : Nat) (lb : Array Value) (f : Bld → Bool) (w : World) (hB : B ≤ w.heap.size) (hs : BladesAt B w ao es)
    (eg : ∀ args w, (callFunc fn args).run Tryd.prog w = .ok (.enter fn args) w)
    (hf : ∀ (e : Bld) (w1 : World), Mod noB w w1 → Calls Tryd.prog fn (#[blV e] ++ lb) w1 fun r w' => r = .returned (.bool (f e)) ∧ Mod noB w1 w') :
    Calls Tryd.prog 62 #[.slice ao es.length cap, .func (.func fn) #[] lb] w fun e w' => e = .returned (.bool (es.any f)) ∧ Mod noB w w' := by
  have HI := Hold.mk (indexFuncE B ao es cap fn lb f w hB hs eg hf)
  have HA := Hold.mk (idxOf_any f es)
  clear hf hs hB
  obtain ⟨i, hi⟩ : ∃ i, idxOf f es = i := ⟨_, rfl⟩
  rw [hi] at HI HA
  clear hi
  go_enter Tryd.func62, Tryd.ntmps62
  go_wp2_with (go_at_call 76; refine HI.out.mono ?_; rintro e w' ⟨rfl, hM⟩; have HM2 := Hold.mk hM; clear hM)
  go_ret
  exact ⟨by rw [← HA.out]; rfl, HM2.out⟩

set_option maxHeartbeats 1000000 in
theorem indexFuncS (B : Nat) (ao : Option Addr) (es : List (Int × Int)) (cap : Nat) (fn : Nat) (lb : Array Value) (f : Int × Int → Bool) (w : World) (hB : B ≤ w.heap.size) (hs : StintsAt B w ao es)
    (eg : ∀ args w, (callFunc fn args).run Tryd.prog w = .ok (.enter fn args) w)
    (hf : ∀ (e : Int × Int) (w1 : World), Mod noB w w1 → Calls Tryd.prog fn (#[spV e] ++ lb) w1 fun r w' => r = .returned (.bool (f e)) ∧ Mod noB w1 w') :
    Calls Tryd.prog 82 #[.slice ao es.length cap, .func (.func fn) #[] lb] w fun e w' => e = .returned (.int .i64 (idxOf f es)) ∧ Mod noB w w' := by
  have hsm := hs.small
  have HF := Hold.mk hf
  have HS := Hold.mk hs
  have HB := Hold.mk hB
  clear hf hs hB
  go_enter Tryd.func82, Tryd.ntmps82
  go_wp2
  go_loopw [8] (fun i wr => ∃ k : Nat, k ≤ es.length ∧ i = .int .i64 k ∧ (∀ j y, j < k → es[j]? = some y → f y = false) ∧ Mod noB w wr) (fun i _ => es.length - (intOf i).toNat)
  case atStart => exact ⟨0, Nat.zero_le _, rfl, fun j _ hj => absurd hj (Nat.not_lt_zero _), Mod.refl _ _⟩
  case round =>
    obtain ⟨k, hk, rfl, h0, hmr⟩ := hrel
    have H0 := Hold.mk h0
    clear h0
    by_cases hlt : k < es.length
    · obtain ⟨z, hz⟩ : ∃ z, es[k]? = some z := ⟨_, List.getElem?_eq_getElem hlt⟩
      obtain ⟨b, off, rfl, _, q0, q1⟩ := (HS.out.low (Low.ofN hmr HB.out)).stint hz
      have Hz := Hold.mk hz
      have HM := Hold.mk hmr
      clear hz hmr
      cases hx : f z with
      | true =>
        have Hx := Hold.mk hx
        have HF' : Hold (Calls Tryd.prog fn (#[spV z] ++ lb) wr fun r w' => r = .returned (.bool true) ∧ Mod noB wr w') := ⟨by rw [← hx]; exact HF.out z wr HM.out⟩
        clear hx
        go_wp2_with (refine HF'.out.mono ?_; rintro e w' ⟨rfl, hM⟩; have HM2 := Hold.mk hM; clear hM)
        go_ret
        exact ⟨ret_i64 (idxOf_at Hz.out Hx.out H0.out).symm, HM.out.trans HM2.out⟩
      | false =>
        have Hx := Hold.mk hx
        have HF' : Hold (Calls Tryd.prog fn (#[spV z] ++ lb) wr fun r w' => r = .returned (.bool false) ∧ Mod noB wr w') := ⟨by rw [← hx]; exact HF.out z wr HM.out⟩
        clear hx
        go_wp2_with (refine HF'.out.mono ?_; rintro e w' ⟨rfl, hM⟩; have HM2 := Hold.mk hM; clear hM)
        go_roundw
        case rel => exact ⟨k + 1, by omega, by go_num, fun j y hj hy => by
          rcases Nat.lt_succ_iff_lt_or_eq.1 hj with h | rfl
          · exact H0.out j y h hy
          · rw [Hz.out] at hy; cases hy; exact Hx.out, HM.out.trans HM2.out⟩
        case measure => simp [intOf]; omega
    · obtain rfl : k = es.length := by omega
      go_wp2
      go_ret
      exact ⟨ret_i64 (idxOf_none H0.out).symm, hmr⟩

set_option maxHeartbeats 1000000 in
theorem containsFuncS (B : Nat) (ao : Option Addr) (es : List (Int × Int)) (cap : Nat) (fn : Nat) (lb : Array Value) (f : Int × Int → Bool) (w : World) (hB : B ≤ w.heap.size) (hs : StintsAt B w ao es)
    (eg : ∀ args w, (callFunc fn args).run Tryd.prog w = .ok (.enter fn args) w)
    (hf : ∀ (e : Int × Int) (w1 : World), Mod noB w w1 → Calls Tryd.prog fn (#[spV e] ++ lb) w1 fun r w' => r = .returned (.bool (f e)) ∧ Mod noB w1 w') :
    Calls Tryd.prog 78 #[.slice ao es.length cap, .func (.func fn) #[] lb] w fun e w' => e = .returned (.bool (es.any f)) ∧ Mod noB w w' := by
  have HI := Hold.mk (indexFuncS B ao es cap fn lb f w hB hs eg hf)
  have HA := Hold.mk (idxOf_any f es)
  clear hf hs hB
  obtain ⟨i, hi⟩ : ∃ i, idxOf f es = i := ⟨_, rfl⟩
  rw [hi] at HI HA
  clear hi
  go_enter Tryd.func78, Tryd.ntmps78
  go_wp2_with (go_at_call 82; refine HI.out.mono ?_; rintro e w' ⟨rfl, hM⟩; have HM2 := Hold.mk hM; clear hM)
  go_ret
  exact ⟨by rw [← HA.out]; rfl, HM2.out⟩

set_option maxHeartbeats 1000000 in
theorem indexFuncN (B : Nat) (ao : Option Addr) (es : List (Int)) (cap : Nat) (fn : Nat) (lb : Array Value) (f : Int → Bool) (w : World) (hB : B ≤ w.heap.size) (hs : IntsAt w ao es)
    (eg : ∀ args w, (callFunc fn args).run Tryd.prog w = .ok (.enter fn args) w)
    (hf : ∀ (e : Int) (w1 : World), Mod noB w w1 → Calls Tryd.prog fn (#[.int .i64 e] ++ lb) w1 fun r w' => r = .returned (.bool (f e)) ∧ Mod noB w1 w') :
    Calls Tryd.prog 79 #[.slice ao es.length cap, .func (.func fn) #[] lb] w fun e w' => e = .returned (.int .i64 (idxOf f es)) ∧ Mod noB w w' := by
  have hsm := hs.small
  have HF := Hold.mk hf
  have HS := Hold.mk hs
  have HB := Hold.mk hB
  clear hf hs hB
  go_enter Tryd.func79, Tryd.ntmps79
  go_wp2
  go_loopw [8] (fun i wr => ∃ k : Nat, k ≤ es.length ∧ i = .int .i64 k ∧ (∀ j y, j < k → es[j]? = some y → f y = false) ∧ Mod noB w wr) (fun i _ => es.length - (intOf i).toNat)
  case atStart => exact ⟨0, Nat.zero_le _, rfl, fun j _ hj => absurd hj (Nat.not_lt_zero _), Mod.refl _ _⟩
  case round =>
    obtain ⟨k, hk, rfl, h0, hmr⟩ := hrel
    have H0 := Hold.mk h0
    clear h0
    by_cases hlt : k < es.length
    · obtain ⟨z, hz⟩ : ∃ z, es[k]? = some z := ⟨_, List.getElem?_eq_getElem hlt⟩
      obtain ⟨b, off, rfl, _, q0⟩ := ints_cell (HS.out.mod hmr) hlt
      rw [hz, Option.getD_some] at q0
      have Hz := Hold.mk hz
      have HM := Hold.mk hmr
      clear hz hmr
      cases hx : f z with
      | true =>
        have Hx := Hold.mk hx
        have HF' : Hold (Calls Tryd.prog fn (#[.int .i64 z] ++ lb) wr fun r w' => r = .returned (.bool true) ∧ Mod noB wr w') := ⟨by rw [← hx]; exact HF.out z wr HM.out⟩
        clear hx
        go_wp2_with (refine HF'.out.mono ?_; rintro e w' ⟨rfl, hM⟩; have HM2 := Hold.mk hM; clear hM)
        go_ret
        exact ⟨ret_i64 (idxOf_at Hz.out Hx.out H0.out).symm, HM.out.trans HM2.out⟩
      | false =>
        have Hx := Hold.mk hx
        have HF' : Hold (Calls Tryd.prog fn (#[.int .i64 z] ++ lb) wr fun r w' => r = .returned (.bool false) ∧ Mod noB wr w') := ⟨by rw [← hx]; exact HF.out z wr HM.out⟩
        clear hx
        go_wp2_with (refine HF'.out.mono ?_; rintro e w' ⟨rfl, hM⟩; have HM2 := Hold.mk hM; clear hM)
        go_roundw
        case rel => exact ⟨k + 1, by omega, by go_num, fun j y hj hy => by
          rcases Nat.lt_succ_iff_lt_or_eq.1 hj with h | rfl
          · exact H0.out j y h hy
          · rw [Hz.out] at hy; cases hy; exact Hx.out, HM.out.trans HM2.out⟩
        case measure => simp [intOf]; omega
    · obtain rfl : k = es.length := by omega
      go_wp2
      go_ret
      exact ⟨ret_i64 (idxOf_none H0.out).symm, hmr⟩

set_option maxHeartbeats 1000000 in
theorem containsFuncN (B : Nat) (ao : Option Addr) (es : List (Int)) (cap : Nat) (fn : Nat) (lb : Array Value) (f : Int → Bool) (w : World) (hB : B ≤ w.heap.size) (hs : IntsAt w ao es)
    (eg : ∀ args w, (callFunc fn args).run Tryd.prog w = .ok (.enter fn args) w)
    (hf : ∀ (e : Int) (w1 : World), Mod noB w w1 → Calls Tryd.prog fn (#[.int .i64 e] ++ lb) w1 fun r w' => r = .returned (.bool (f e)) ∧ Mod noB w1 w') :
    Calls Tryd.prog 70 #[.slice ao es.length cap, .func (.func fn) #[] lb] w fun e w' => e = .returned (.bool (es.any f)) ∧ Mod noB w w' := by
  have HI := Hold.mk (indexFuncN B ao es cap fn lb f w hB hs eg hf)
  have HA := Hold.mk (idxOf_any f es)
  clear hf hs hB
  obtain ⟨i, hi⟩ : ∃ i, idxOf f es = i := ⟨_, rfl⟩
  rw [hi] at HI HA
  clear hi
  go_enter Tryd.func70, Tryd.ntmps70
  go_wp2_with (go_at_call 79; refine HI.out.mono ?_; rintro e w' ⟨rfl, hM⟩; have HM2 := Hold.mk hM; clear hM)
  go_ret
  exact ⟨by rw [← HA.out]; rfl, HM2.out⟩

theorem enter60 : ∀ args w, (callFunc 60 args).run Tryd.prog w = .ok (.enter 60 args) w := enters_of Tryd.func60 (by kernel_rfl) rfl
theorem enter77 : ∀ args w, (callFunc 77 args).run Tryd.prog w = .ok (.enter 77 args) w := enters_of Tryd.func77 (by kernel_rfl) rfl
theorem enter68 : ∀ args w, (callFunc 68 args).run Tryd.prog w = .ok (.enter 68 args) w := enters_of Tryd.func68 (by kernel_rfl) rfl
end Go.Proofs.YtdncppempgpooaaDoor

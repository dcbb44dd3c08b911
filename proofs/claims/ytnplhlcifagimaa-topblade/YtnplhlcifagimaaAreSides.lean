/- ContainsFunc over sides; areSides, areOf, isPlay. -/
import Derived.Test.YtnplhlcifagimaaBase
set_option linter.unusedSimpArgs false
set_option linter.unusedVariables false
namespace Go.Proofs.Ytnplhlcifagimaa
open Go.RowKit

/-- The first index of an element that is p, or -1. -/
def idxOf {α : Type} (p : α → Bool) (l : List α) : Int := match l.findIdx? p with | some i => i | none => -1

theorem idxOf_at {α : Type} {p : α → Bool} {l : List α} {k : Nat} {x : α} (hk : l[k]? = some x) (h1 : p x = true) (h0 : ∀ j y, j < k → l[j]? = some y → p y = false) : idxOf p l = k := by
  obtain ⟨hlt, hx⟩ := List.getElem?_eq_some_iff.1 hk
  have : l.findIdx? p = some k := by
    rw [List.findIdx?_eq_some_iff_getElem]
    refine ⟨hlt, by rw [hx]; exact h1, fun j hj => ?_⟩
    have := h0 j l[j] hj (List.getElem?_eq_getElem (by omega))
    simp [this]
  simp [idxOf, this]
theorem idxOf_none {α : Type} {p : α → Bool} {l : List α} (h0 : ∀ j y, j < l.length → l[j]? = some y → p y = false) : idxOf p l = -1 := by
  have : l.findIdx? p = none := by
    rw [List.findIdx?_eq_none_iff]
    intro x hx
    obtain ⟨j, hj⟩ := List.mem_iff_getElem?.1 hx
    exact h0 j x (List.getElem?_eq_some_iff.1 hj).1 hj
  simp [idxOf, this]
theorem idxOf_any {α : Type} (f : α → Bool) (l : List α) : decide (0 ≤ idxOf f l) = l.any f := by
  cases h : l.findIdx? f with
  | none =>
    have h' := h
    rw [List.findIdx?_eq_none_iff] at h
    have : l.any f = false := by simpa using h
    simp [idxOf, h', this]
  | some i =>
    obtain ⟨hi, hp, _⟩ := List.findIdx?_eq_some_iff_getElem.1 h
    have : l.any f = true := by simp only [List.any_eq_true]; exact ⟨_, List.getElem_mem hi, hp⟩
    simp [idxOf, h, this]
theorem idxOf_bounds {α : Type} (p : α → Bool) (l : List α) : -1 ≤ idxOf p l ∧ idxOf p l < l.length := by
  unfold idxOf
  split
  · rename_i i h
    have := (List.findIdx?_eq_some_iff_getElem.1 h).1
    omega
  · omega

set_option maxHeartbeats 1000000 in
theorem indexFuncE (ao : Option Addr) (es : List Edg) (cap : Nat) (fn : Nat) (lb : Array Value) (f : Edg → Bool) (w : World) (hs : EdgesAt w ao es)
    (eg : ∀ args w, (callFunc fn args).run Try.prog w = .ok (.enter fn args) w)
    (hf : ∀ (e : Edg) (w1 : World), Mod noB w w1 → Calls Try.prog fn (#[edV e] ++ lb) w1 fun r w' => r = .returned (.bool (f e)) ∧ Mod noB w1 w') :
    Calls Try.prog 33 #[.slice ao es.length cap, .func (.func fn) #[] lb] w fun e w' => e = .returned (.int .i64 (idxOf f es)) ∧ Mod noB w w' := by
  have hsm := hs.small
  have HF := Hold.mk hf
  have HS := Hold.mk hs
  clear hf hs
  go_enter Try.func33, Try.ntmps33
  go_wp2
  go_loopw [8] (fun i wr => ∃ k : Nat, k ≤ es.length ∧ i = .int .i64 k ∧ (∀ j y, j < k → es[j]? = some y → f y = false) ∧ Mod noB w wr) (fun i _ => es.length - (intOf i).toNat)
  case atStart => exact ⟨0, Nat.zero_le _, rfl, fun j _ hj => absurd hj (Nat.not_lt_zero _), Mod.refl _ _⟩
  case round =>
    obtain ⟨k, hk, rfl, h0, hmr⟩ := hrel
    have H0 := Hold.mk h0
    clear h0
    by_cases hlt : k < es.length
    · obtain ⟨b, off, rfl, _, hc⟩ := (HS.out.mod hmr).lies (fun e => by simp [e] at hlt)
      obtain ⟨z, hz⟩ : ∃ z, es[k]? = some z := ⟨_, List.getElem?_eq_getElem hlt⟩
      obtain ⟨q0, q1, q2, q3, q4, q5, q6⟩ := hc k z hz
      have Hz := Hold.mk hz
      have HM := Hold.mk hmr
      clear hc hz hmr
      cases hx : f z with
      | true =>
        have Hx := Hold.mk hx
        have HF' : Hold (Calls Try.prog fn (#[edV z] ++ lb) wr fun r w' => r = .returned (.bool true) ∧ Mod noB wr w') := ⟨by rw [← hx]; exact HF.out z wr HM.out⟩
        clear hx
        go_wp2_with (refine HF'.out.mono ?_; rintro e w' ⟨rfl, hM⟩; have HM2 := Hold.mk hM; clear hM)
        go_ret
        exact ⟨ret_i64 (idxOf_at Hz.out Hx.out H0.out).symm, HM.out.trans HM2.out⟩
      | false =>
        have Hx := Hold.mk hx
        have HF' : Hold (Calls Try.prog fn (#[edV z] ++ lb) wr fun r w' => r = .returned (.bool false) ∧ Mod noB wr w') := ⟨by rw [← hx]; exact HF.out z wr HM.out⟩
        clear hx
        go_wp2_with (refine HF'.out.mono ?_; rintro e w' ⟨rfl, hM⟩; have HM2 := Hold.mk hM; clear hM)
        go_roundw
        case rel => exact ⟨k + 1, by omega, by go_num, fun j y hj hy => by
          rcases Nat.lt_succ_iff_lt_or_eq.1 hj with h | rfl
          · exact H0.out j y h hy
          · rw [Hz.out] at hy; cases hy; exact Hx.out, HM.out.trans HM2.out⟩
        case measure => simp [intOf]; omega
    · obtain rfl : k = es.length := by omega
      go_wp2
      go_ret
      exact ⟨ret_i64 (idxOf_none H0.out).symm, hmr⟩

set_option maxHeartbeats 1000000 in
theorem containsFuncE (ao : Option Addr) (es : List Edg) (cap : Nat) (fn : Nat) (lb : Array Value) (f : Edg → Bool) (w : World) (hs : EdgesAt w ao es)
    (eg : ∀ args w, (callFunc fn args).run Try.prog w = .ok (.enter fn args) w)
    (hf : ∀ (e : Edg) (w1 : World), Mod noB w w1 → Calls Try.prog fn (#[edV e] ++ lb) w1 fun r w' => r = .returned (.bool (f e)) ∧ Mod noB w1 w') :
    Calls Try.prog 25 #[.slice ao es.length cap, .func (.func fn) #[] lb] w fun e w' => e = .returned (.bool (es.any f)) ∧ Mod noB w w' := by
  have HI := Hold.mk (indexFuncE ao es cap fn lb f w hs eg hf)
  have HA := Hold.mk (idxOf_any f es)
  clear hf hs
  obtain ⟨i, hi⟩ : ∃ i, idxOf f es = i := ⟨_, rfl⟩
  rw [hi] at HI HA
  clear hi
  go_enter Try.func25, Try.ntmps25
  go_wp2_with (go_at_call 33; refine HI.out.mono ?_; rintro e w' ⟨rfl, hM⟩; have HM2 := Hold.mk hM; clear hM)
  go_ret
  exact ⟨by rw [← HA.out]; rfl, HM2.out⟩

theorem enter70 : ∀ args w, (callFunc 26 args).run Try.prog w = .ok (.enter 26 args) w := enters_of Try.func26 (by kernel_rfl) rfl
set_option maxHeartbeats 400000 in
theorem areSides1_any (e : Edg) (w : World) : Calls Try.prog 26 #[edV e] w fun r w' => r = .returned (.bool (!sideB e)) ∧ Mod noB w w' := by
  have H := Hold.mk (fun w => isSide_any e w)
  have HM0 := Hold.mk ((Mod.refl noB w).alloc (.cells (edC e) 36))
  generalize sideB e = s at *
  go_enter Try.func26, Try.ntmps26
  go_wp2_with (go_at_call 27; refine (H.out _).mono ?_; rintro e w1 ⟨rfl, hM⟩; have HM := Hold.mk hM; clear hM)
  go_ret
  exact ⟨rfl, HM0.out.trans HM.out⟩

def sidesB (l : List Edg) : Bool := l.all sideB
theorem all_not {α : Type} (f : α → Bool) (l : List α) : l.all f = !(l.any fun e => !f e) := by
  induction l with
  | nil => rfl
  | cons x l ih => simp only [List.all_cons, List.any_cons, ih, Bool.not_or, Bool.not_not]

set_option maxHeartbeats 400000 in
theorem areSides_any (ao : Option Addr) (es : List Edg) (cap : Nat) (w : World) (hs : EdgesAt w ao es) :
    Calls Try.prog 16 #[.slice ao es.length cap] w fun r w' => r = .returned (.bool (sidesB es)) ∧ Mod noB w w' := by
  have H := Hold.mk (containsFuncE ao es cap 26 #[] (fun e => !sideB e) w hs enter70 (fun e w1 _ => areSides1_any e w1))
  have he : Hold (sidesB es = !(es.any fun e => !sideB e)) := ⟨all_not _ _⟩
  generalize (es.any fun e => !sideB e) = s at *
  clear hs
  go_enter Try.func16, Try.ntmps16
  go_wp2_with (go_at_call 25; refine H.out.mono ?_; rintro e w1 ⟨rfl, hM⟩; have HM := Hold.mk hM; clear hM)
  go_ret
  exact ⟨by rw [he.out]; rfl, HM.out⟩

set_option maxHeartbeats 2000000 in
theorem isPlay_any (p : Ply) (w : World) : Calls Try.prog 15 #[plV p] w fun r w' => r = .returned (.bool (playB p)) ∧ Mod noB w w' := by
  obtain ⟨len, slack, loose, damp⟩ := p
  have HM := Hold.mk ((Mod.refl noB w).alloc (.cells (plC ⟨len, slack, loose, damp⟩) 34))
  by_cases h1 : 1 ≤ len
  · by_cases h2 : len ≤ 10000
    · by_cases h3 : 0 ≤ slack
      · by_cases h4 : slack ≤ 500
        · by_cases h5 : 0 ≤ loose
          · by_cases h6 : loose ≤ 500
            · have HD := Hold.mk (fun w => within_any damp 0 100 w)
              have he : Hold (playB ⟨len, slack, loose, damp⟩ = withinB damp 0 100) := ⟨by simp [playB, *]⟩
              generalize withinB damp 0 100 = s at *
              go_enter Try.func15, Try.ntmps15
              go_wp2_with (go_at_call 24; refine (HD.out _).mono ?_; rintro e w1 ⟨rfl, hM⟩; have HM1 := Hold.mk hM; clear hM)
              go_ret
              exact ⟨by rw [he.out]; rfl, HM.out.trans HM1.out⟩
            · have h' : decide (loose ≤ 500) = false := by simpa using h6
              go_enter Try.func15, Try.ntmps15
              go_wp2
              go_ret
              exact ⟨by simp only [playB, h', Bool.and_false, Bool.false_and]; rfl, HM.out⟩
          · have h' : decide (0 ≤ loose) = false := by simpa using h5
            go_enter Try.func15, Try.ntmps15
            go_wp2
            go_ret
            exact ⟨by simp only [playB, h', Bool.and_false, Bool.false_and]; rfl, HM.out⟩
        · have h' : decide (slack ≤ 500) = false := by simpa using h4
          go_enter Try.func15, Try.ntmps15
          go_wp2
          go_ret
          exact ⟨by simp only [playB, h', Bool.and_false, Bool.false_and]; rfl, HM.out⟩
      · have h' : decide (0 ≤ slack) = false := by simpa using h3
        go_enter Try.func15, Try.ntmps15
        go_wp2
        go_ret
        exact ⟨by simp only [playB, h', Bool.and_false, Bool.false_and]; rfl, HM.out⟩
    · have h' : decide (len ≤ 10000) = false := by simpa using h2
      go_enter Try.func15, Try.ntmps15
      go_wp2
      go_ret
      exact ⟨by simp only [playB, h', Bool.and_false, Bool.false_and]; rfl, HM.out⟩
  · have h' : decide (1 ≤ len) = false := by simpa using h1
    go_enter Try.func15, Try.ntmps15
    go_wp2
    go_ret
    exact ⟨by simp only [playB, h', Bool.and_false, Bool.false_and]; rfl, HM.out⟩
end Go.Proofs.Ytnplhlcifagimaa

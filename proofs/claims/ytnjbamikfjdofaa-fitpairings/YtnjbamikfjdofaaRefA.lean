/- The document's small functions: in, span, Side, Play, Both, Down, Up, DifferBy. -/
import Derived.Test.YtnjbamikfjdofaaAreSides
import Derived.Test.YtnjbamikfjdofaaVerdicts
set_option linter.unusedSimpArgs false
set_option linter.unusedVariables false
namespace Go.Proofs.Ytnjbamikfjdofaa
open Go.RowKit Go.Shelf

def inB (n lo hi : Int) : Bool := decide (lo ≤ n) && decide (n ≤ hi)
set_option maxHeartbeats 400000 in
theorem in_any (n lo hi : Int) (w : World) : Calls Try.prog 60 #[.int .i64 n, .int .i64 lo, .int .i64 hi] w fun e w' => e = .returned (.bool (inB n lo hi)) ∧ Mod noB w w' := by
  unfold inB
  by_cases h1 : lo ≤ n <;> by_cases h2 : n ≤ hi
  all_goals
    go_enter Try.func60, Try.ntmps60
    go_wp2
    go_ret
    exact ⟨by simp [h1, h2], Mod.refl _ _⟩

set_option maxHeartbeats 400000 in
theorem refSpan_any (s : Int × Int) (lo hi : Int) (w : World) :
    Calls Try.prog 59 #[spV s, .int .i64 lo, .int .i64 hi] w fun e w' => e = .returned (.bool (withinB s lo hi)) ∧ Mod noB w w' := by
  obtain ⟨a, b⟩ := s
  unfold withinB
  by_cases h1 : lo ≤ a <;> by_cases h2 : a ≤ b <;> by_cases h3 : b ≤ hi
  all_goals
    go_enter Try.func59, Try.ntmps59
    go_wp2
    go_ret
    exact ⟨by simp [h1, h2, h3], (Mod.refl _ _).alloc _⟩

theorem edgeFacts (e : Edg) (w : World) : ∀ W', Mod noB (w.alloc (.cells (edC e) 27)) W' → EdgeAt W' w.heap.size 0 e ∧ Mod noB w W' ∧ w.heap.size < W'.heap.size := fun W' h => by
  have hb := h.at (World.alloc_heap_new w (.cells (edC e) 27)) id
  exact ⟨EdgeAt.of hb, ((Mod.refl noB w).alloc _).trans h, (Array.getElem?_eq_some_iff.1 hb).1⟩

set_option maxHeartbeats 2000000 in
theorem refSide_any (e : Edg) (w : World) : Calls Try.prog 36 #[edV e] w fun r w' => r = .returned (.bool (sideB e)) ∧ Mod noB w w' := by
  obtain ⟨k, a, wi, d⟩ := e
  have HF := Hold.mk (edgeFacts ⟨k, a, wi, d⟩ w)
  have HM := Hold.mk ((Mod.refl noB w).alloc (.cells (edC ⟨k, a, wi, d⟩) 27))
  by_cases k0 : k = 0
  · subst k0
    go_enter Try.func36, Try.ntmps36
    go_wp2
    go_ret
    exact ⟨by simp [sideB], HM.out⟩
  · have hk : Hold (inB k 1 2 = (k == 1 || k == 2)) := ⟨by
      unfold inB
      by_cases h1 : k = 1
      · subst h1; rfl
      · by_cases h2 : k = 2
        · subst h2; rfl
        · have : ¬ (1 ≤ k ∧ k ≤ 2) := by omega
          have e1 : (k == 1) = false := by simpa using h1
          have e2 : (k == 2) = false := by simpa using h2
          simp [e1, e2]; omega⟩
    have hs : Hold (sideB ⟨k, a, wi, d⟩ = (inB k 1 2 && (withinB a 0 10000 && withinB wi 1 3000 && withinB d 1 3000))) := ⟨by rw [hk.out]; simp [sideB, k0]⟩
    have HK := Hold.mk (fun w => in_any k 1 2 w)
    have HA := Hold.mk (fun w => refSpan_any a 0 10000 w)
    have HW := Hold.mk (fun w => refSpan_any wi 1 3000 w)
    have HD := Hold.mk (fun w => refSpan_any d 1 3000 w)
    generalize inB k 1 2 = b1 at *
    generalize withinB a 0 10000 = b2 at *
    generalize withinB wi 1 3000 = b3 at *
    generalize withinB d 1 3000 = b4 at *
    rw [hs.out]
    have H0 := Hold.mk trivial
    clear hk hs
    cases b1 <;> cases b2 <;> cases b3
    all_goals
      go_enter Try.func36, Try.ntmps36
      go_wp2_with (first
        | (go_at_call 60; refine (HK.out _).mono ?_; rintro e w1 ⟨rfl, hM⟩; obtain ⟨⟨_, _, _, q3, q4, q5, q6⟩, hM1, _⟩ := HF.out _ hM; have HM := Hold.mk hM1; have HP := Hold.mk hM; clear hM hM1)
        | (go_at_call 59; have HM1 := HP; refine (HA.out _).mono ?_; rintro e w2 ⟨rfl, hM⟩; obtain ⟨⟨_, _, _, q3, q4, q5, q6⟩, hM1, _⟩ := HF.out _ (HP.out.trans hM); have HM := Hold.mk hM1; have HQ := Hold.mk (HP.out.trans hM); clear hM hM1 HM1 HP)
        | (go_at_call 59; have HM1 := HQ; refine (HW.out _).mono ?_; rintro e w2 ⟨rfl, hM⟩; obtain ⟨⟨_, _, _, q3, q4, q5, q6⟩, hM1, _⟩ := HF.out _ (HQ.out.trans hM); have HM := Hold.mk hM1; have HR := Hold.mk (HQ.out.trans hM); clear hM hM1 HM1 HQ)
        | (go_at_call 59; have HM1 := HR; refine (HD.out _).mono ?_; rintro e w2 ⟨rfl, hM⟩; obtain ⟨⟨_, _, _, q3, q4, q5, q6⟩, hM1, _⟩ := HF.out _ (HR.out.trans hM); have HM := Hold.mk hM1; clear hM hM1 HM1 HR))
      go_ret
      exact ⟨by simp, HM.out⟩

theorem playFacts (p : Ply) (w : World) : ∀ W', Mod noB (w.alloc (.cells (plC p) 25)) W' → PlayAt W' w.heap.size p ∧ Mod noB w W' ∧ w.heap.size < W'.heap.size := fun W' h => by
  have hb := h.at (World.alloc_heap_new w (.cells (plC p) 25)) id
  exact ⟨PlayAt.of hb, ((Mod.refl noB w).alloc _).trans h, (Array.getElem?_eq_some_iff.1 hb).1⟩

set_option maxRecDepth 100000 in
set_option maxHeartbeats 4000000 in
theorem refPlay_any (p : Ply) (w : World) : Calls Try.prog 35 #[plV p] w fun r w' => r = .returned (.bool (playB p)) ∧ Mod noB w w' := by
  obtain ⟨len, slack, loose, damp⟩ := p
  have HF := Hold.mk (playFacts ⟨len, slack, loose, damp⟩ w)
  have hs : Hold (playB ⟨len, slack, loose, damp⟩ = (inB len 1 10000 && inB slack 0 500 && inB loose 0 500 && withinB damp 0 100)) := ⟨by simp [playB, inB, Bool.and_assoc]⟩
  have HA := Hold.mk (fun w => in_any len 1 10000 w)
  have HB := Hold.mk (fun w => in_any slack 0 500 w)
  have HC := Hold.mk (fun w => in_any loose 0 500 w)
  have HD := Hold.mk (fun w => refSpan_any damp 0 100 w)
  rw [hs.out]
  generalize inB len 1 10000 = b1 at *
  generalize inB slack 0 500 = b2 at *
  generalize inB loose 0 500 = b3 at *
  generalize withinB damp 0 100 = b4 at *
  clear hs
  cases b1
  · go_enter Try.func35, Try.ntmps35
    go_wp2_with (go_at_call 60; refine (HA.out _).mono ?_; rintro e w1 ⟨rfl, hM⟩; obtain ⟨⟨_, p1, p2, p3, p4⟩, hM1, _⟩ := HF.out _ hM; have HM := Hold.mk hM1; clear hM hM1 HA)
    go_ret
    exact ⟨by simp, HM.out⟩
  cases b2
  · go_enter Try.func35, Try.ntmps35
    go_wp2_with (first
      | (go_at_call 60; refine (HA.out _).mono ?_; rintro e w1 ⟨rfl, hM⟩; obtain ⟨⟨_, p1, p2, p3, p4⟩, hM1, _⟩ := HF.out _ hM; have HP := Hold.mk hM; clear hM hM1 HA)
      | (go_at_call 60; refine (HB.out _).mono ?_; rintro e w2 ⟨rfl, hM⟩; clear p1 p2 p3 p4; obtain ⟨⟨_, p1, p2, p3, p4⟩, hM1, _⟩ := HF.out _ (HP.out.trans hM); have HM := Hold.mk hM1; clear hM hM1 HB))
    go_ret
    exact ⟨by simp, HM.out⟩
  cases b3
  all_goals
    go_enter Try.func35, Try.ntmps35
    go_wp2_with (first
      | (go_at_call 60; refine (HA.out _).mono ?_; rintro e w1 ⟨rfl, hM⟩; obtain ⟨⟨_, p1, p2, p3, p4⟩, hM1, _⟩ := HF.out _ hM; have HP := Hold.mk hM; clear hM hM1 HA)
      | (go_at_call 60; refine (HB.out _).mono ?_; rintro e w2 ⟨rfl, hM⟩; clear p1 p2 p3 p4; obtain ⟨⟨_, p1, p2, p3, p4⟩, hM1, _⟩ := HF.out _ (HP.out.trans hM); have HQ := Hold.mk (HP.out.trans hM); clear hM hM1 HB HP)
      | (go_at_call 60; refine (HC.out _).mono ?_; rintro e w2 ⟨rfl, hM⟩; clear p1 p2 p3 p4; obtain ⟨⟨_, p1, p2, p3, p4⟩, hM1, _⟩ := HF.out _ (HQ.out.trans hM); have HM := Hold.mk hM1; have HR := Hold.mk (HQ.out.trans hM); clear hM hM1 HC HQ)
      | (go_at_call 59; refine (HD.out _).mono ?_; rintro e w2 ⟨rfl, hM⟩; clear p1 p2 p3 p4; obtain ⟨⟨_, p1, p2, p3, p4⟩, hM1, _⟩ := HF.out _ (HR.out.trans hM); have HM := Hold.mk hM1; clear hM hM1 HD))
    go_ret
    exact ⟨by simp, HM.out⟩

set_option maxHeartbeats 2000000 in
theorem down_any (n : Int) (w : World) (hn : -1000000000000 ≤ n ∧ n ≤ 1000000000000) :
    Calls Try.prog 41 #[.int .i64 n, .int .i64 1000] w fun e w' => e = .returned (.int .i64 (n / 1000)) ∧ Mod noB w w' := by
  obtain ⟨h1, h2⟩ := hn
  have H : Hold (n.tdiv 1000 = if n < 0 ∧ n % 1000 ≠ 0 then n / 1000 + 1 else n / 1000) := ⟨by
    by_cases h : n < 0
    · have e : n = -(-n) := by omega
      rw [e, Int.neg_tdiv, Int.tdiv_eq_ediv_of_nonneg (by omega)]
      split <;> omega
    · rw [Int.tdiv_eq_ediv_of_nonneg (by omega)]
      simp [h]⟩
  by_cases h : n < 0 ∧ n % 1000 ≠ 0
  · have h3 := H.out
    rw [if_pos h] at h3
    have hm : (n / 1000 + 1) * 1000 = (n / 1000 + 1) * 1000 := rfl
    have h4 : n < (n / 1000 + 1) * 1000 := by omega
    obtain ⟨h5, h6⟩ := h
    have hb : -1000000000000 ≤ n / 1000 ∧ n / 1000 ≤ 1000000000000 := by omega
    obtain ⟨hb1, hb2⟩ := hb
    have HR : Hold (n / 1000 + 1 - 1 = n / 1000) := ⟨by omega⟩
    generalize n / 1000 = q at *
    clear H
    go_enter Try.func41, Try.ntmps41
    go_wp2
    go_ret
    exact ⟨rfl, Mod.refl _ _⟩
  · have h3 := H.out
    rw [if_neg h] at h3
    have h4 : ¬ n < (n / 1000) * 1000 := by omega
    have hb : -1000000000000 ≤ n / 1000 ∧ n / 1000 ≤ 1000000000000 := by omega
    obtain ⟨hb1, hb2⟩ := hb
    clear h
    generalize n / 1000 = q at *
    clear H
    go_enter Try.func41, Try.ntmps41
    go_wp2
    go_ret
    exact ⟨rfl, Mod.refl _ _⟩
set_option maxHeartbeats 2000000 in
theorem up_any (n : Int) (w : World) (hn : -1000000000000 ≤ n ∧ n ≤ 1000000000000) :
    Calls Try.prog 42 #[.int .i64 n, .int .i64 1000] w fun e w' => e = .returned (.int .i64 (-(-n / 1000))) ∧ Mod noB w w' := by
  have HD := Hold.mk (fun w => down_any (-n) w (by omega))
  obtain ⟨h1, h2⟩ := hn
  go_enter Try.func42, Try.ntmps42
  go_wp2_with (go_at_call 41; refine (HD.out _).mono ?_; rintro e w1 ⟨rfl, hM⟩; have HM := Hold.mk hM; clear hM)
  go_ret
  exact ⟨rfl, HM.out⟩
end Go.Proofs.Ytnjbamikfjdofaa

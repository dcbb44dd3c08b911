/- least: the least number of which something is so, by halving. -/
import Derived.Test.YtnjbamikfjdofaaMatches
set_option linter.unusedSimpArgs false
set_option linter.unusedVariables false
namespace Go.Proofs.Ytnjbamikfjdofaa
open Go.RowKit Go.Shelf

def leastN (f : Int → Bool) : Nat → Int → Int → Int
  | 0, lo, _ => lo
  | k + 1, lo, hi => if lo < hi then (if f (lo + (hi - lo) / 2) then leastN f k lo (lo + (hi - lo) / 2) else leastN f k (lo + (hi - lo) / 2 + 1) hi) else lo
theorem leastN_end (f : Int → Bool) (k : Nat) (lo hi : Int) (h : ¬ lo < hi) : leastN f k lo hi = lo := by
  cases k with
  | zero => rfl
  | succ k => rw [leastN, if_neg h]
theorem leastN_yes (f : Int → Bool) (k : Nat) (lo hi : Int) (h : lo < hi) (hf : f (lo + (hi - lo) / 2) = true) : leastN f (k + 1) lo hi = leastN f k lo (lo + (hi - lo) / 2) := by rw [leastN, if_pos h, if_pos hf]
theorem leastN_no (f : Int → Bool) (k : Nat) (lo hi : Int) (h : lo < hi) (hf : f (lo + (hi - lo) / 2) = false) : leastN f (k + 1) lo hi = leastN f k (lo + (hi - lo) / 2 + 1) hi := by rw [leastN, if_pos h, if_neg (by simp [hf])]

set_option maxRecDepth 100000 in
set_option maxHeartbeats 2000000 in
theorem least_any (fn : Nat) (lb : Array Value) (f : Int → Bool) (lo hi : Int) (K : Nat) (w : World) (h0 : 0 ≤ lo) (h1 : lo ≤ 100000) (h2 : 0 ≤ hi) (h3 : hi ≤ 100000) (hK : hi - lo ≤ K)
    (eg : ∀ args w, (callFunc fn args).run Try.prog w = .ok (.enter fn args) w)
    (hf : ∀ (n : Int) (w1 : World), lo ≤ n → n < hi → Mod noB w w1 → Calls Try.prog fn (#[.int .i64 n] ++ lb) w1 fun r w' => r = .returned (.bool (f n)) ∧ Mod noB w1 w') :
    Calls Try.prog 80 #[.int .i64 lo, .int .i64 hi, .func (.func fn) #[] lb] w fun e w' => e = .returned (.int .i64 (leastN f K lo hi)) ∧ Mod noB w w' := by
  have HF := Hold.mk hf
  clear hf
  obtain ⟨r, hr⟩ : ∃ r, leastN f K lo hi = r := ⟨_, rfl⟩
  rw [hr]
  have HR := Hold.mk hr
  have HK := Hold.mk hK
  clear hr hK
  go_enter Try.func80, Try.ntmps80
  go_wp2
  go_loopw [0, 1] (fun a b wr => ∃ (l u : Int) (k : Nat), a = .int .i64 l ∧ b = .int .i64 u ∧ lo ≤ l ∧ l ≤ 100000 ∧ u ≤ hi ∧ u - l ≤ k ∧ Hold (leastN f k l u = r) ∧ Mod noB w wr) (fun a b _ => (intOf b - intOf a).toNat)
  case atStart => exact ⟨lo, hi, K, rfl, rfl, by omega, by omega, by omega, HK.out, HR, Mod.refl _ _⟩
  case round =>
    obtain ⟨l, u, k, rfl, rfl, hl, hl2, hu, hk, HE, hmr⟩ := hrel
    have HM := Hold.mk hmr
    clear hmr
    by_cases hlt : l < u
    · obtain ⟨k, rfl⟩ : ∃ j, k = j + 1 := ⟨k - 1, by omega⟩
      obtain ⟨m, hm⟩ : ∃ m, l + (u - l) / 2 = m := ⟨_, rfl⟩
      have hm1 : l ≤ m ∧ m < u := by omega
      have hm2 : m - l ≤ k ∧ u - (m + 1) ≤ k := by omega
      cases hfm : f m with
      | true =>
        have HC : Hold (Calls Try.prog fn (#[.int .i64 m] ++ lb) wr fun r w' => r = .returned (.bool true) ∧ Mod noB wr w') := ⟨by rw [← hfm]; exact HF.out m wr (by omega) (by omega) HM.out⟩
        have HE2 : Hold (leastN f k l m = r) := ⟨by rw [← HE.out, leastN_yes f k l u hlt (by rw [hm]; exact hfm), hm]⟩
        clear hfm
        go_wp2_with (refine HC.out.mono ?_; rintro e w' ⟨rfl, hM⟩; have HM2 := Hold.mk hM; clear hM)
        go_roundw
        case rel => exact ⟨l, m, k, rfl, rfl, by omega, by omega, by omega, by omega, HE2, HM.out.trans HM2.out⟩
        case measure => simp [intOf]; omega
      | false =>
        have HC : Hold (Calls Try.prog fn (#[.int .i64 m] ++ lb) wr fun r w' => r = .returned (.bool false) ∧ Mod noB wr w') := ⟨by rw [← hfm]; exact HF.out m wr (by omega) (by omega) HM.out⟩
        have HE2 : Hold (leastN f k (m + 1) u = r) := ⟨by rw [← HE.out, leastN_no f k l u hlt (by rw [hm]; exact hfm), hm]⟩
        clear hfm
        go_wp2_with (refine HC.out.mono ?_; rintro e w' ⟨rfl, hM⟩; have HM2 := Hold.mk hM; clear hM)
        go_roundw
        case rel => exact ⟨m + 1, u, k, rfl, rfl, by omega, by omega, by omega, by omega, HE2, HM.out.trans HM2.out⟩
        case measure => simp [intOf]; omega
    · have he : l = r := by rw [← HE.out, leastN_end f k l u hlt]
      clear HE
      go_wp2
      go_ret
      exact ⟨rfl, HM.out⟩
end Go.Proofs.Ytnjbamikfjdofaa

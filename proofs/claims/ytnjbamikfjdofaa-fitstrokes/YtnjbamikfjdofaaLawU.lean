/- A wear that is narrower from below keeps the numbers of strokes after which two sides fit always; numbers of strokes that are none are not good. -/
import Derived.Test.YtnjbamikfjdofaaLastM
set_option linter.unusedSimpArgs false
set_option linter.unusedVariables false
namespace Go.Proofs.Ytnjbamikfjdofaa
open Go.RowKit

theorem good_out (p : Ply) (a b : Edg) (r : Int × Int) {n : Int} (h : n < 0 ∨ 20000 < n) : goodE p a b r n = false := by
  have hw : ((wornE a r n).2 == 0) = false := by
    unfold wornE
    have : (decide (0 ≤ n) && decide (n ≤ 20000)) = false := by
      rcases h with h | h
      · simp; omega
      · simp; omega
    rw [this, Bool.and_false]
    split <;> simp
  unfold goodE
  rw [hw, Bool.false_and]

theorem tab_narrow {t : Edg} (ht : t.k = 1) {r r' : Int × Int} (h1 : r.1 ≤ r'.1) (h2 : r'.2 = r.2) {n : Int} (hn : 0 ≤ n) : (wornR t r' n).w.1 = (wornR t r n).w.1 ∧ (wornR t r' n).w.2 ≤ (wornR t r n).w.2 := by
  rw [worn_tab_w ht, worn_tab_w ht, h2]
  have := Int.mul_le_mul_of_nonneg_right h1 hn
  refine ⟨rfl, ?_⟩
  show -(-(t.w.2 * 1000 - r'.1 * n) / 1000) ≤ -(-(t.w.2 * 1000 - r.1 * n) / 1000)
  omega
theorem hole_narrow {t : Edg} (ht : t.k = 2) {r r' : Int × Int} (h1 : r.1 ≤ r'.1) (h2 : r'.2 = r.2) {n : Int} (hn : 0 ≤ n) : (wornR t r n).w.1 ≤ (wornR t r' n).w.1 ∧ (wornR t r' n).w.2 = (wornR t r n).w.2 := by
  rw [worn_hole_w ht, worn_hole_w ht, h2]
  have := Int.mul_le_mul_of_nonneg_right h1 hn
  refine ⟨?_, rfl⟩
  show (t.w.1 * 1000 + r.1 * n) / 1000 ≤ (t.w.1 * 1000 + r'.1 * n) / 1000
  omega

theorem good_narrow {p : Ply} {a b : Edg} {r r' : Int × Int} (hp : playB p = true) (ha : sideB a = true) (hb : sideB b = true) (hr : withinB r 0 100 = true) (hr' : withinB r' 0 100 = true) (ho : (orderedR a b).2 = true) (h1 : r.1 ≤ r'.1) (h2 : r'.2 = r.2) {n : Int} (h0 : 0 ≤ n) (hn : n ≤ 20000) (hg : goodE p a b r n = true) : goodE p a b r' n = true := by
  rw [good_iff hp ha hb hr ho h0 hn] at hg
  rw [good_iff hp ha hb hr' ho h0 hn]
  obtain ⟨hv, hw, hl⟩ := hg
  obtain ⟨kt, kh⟩ := ordered_kinds ho
  obtain ⟨st, sh⟩ := ordered_sides ha hb
  have P := pair_of st sh kt kh
  have hd := play_damp hp
  have hwr := wear_of hr
  have hwr' := wear_of hr'
  generalize (orderedR a b).1.1 = t at *
  generalize (orderedR a b).1.2 = h at *
  refine ⟨hv, ?_, ?_⟩
  all_goals
    obtain ⟨c1, c2, c3⟩ := can_of_loose hl
    have e1 := tab_narrow P.tk h1 h2 h0
    have e2 := hole_narrow P.hk h1 h2 h0
    have d1 : wornB t r' n = true := (tab_ok P.tk P.tw hwr' h0).2 (by have := (tab_ok P.tk P.tw hwr h0).1 c1; omega)
    have d2 : wornB h r' n = true := (hole_ok P.hk P.hw hwr' h0).2 (by have := (hole_ok P.hk P.hw hwr h0).1 c2; omega)
  · unfold wideB at hw ⊢
    rw [c1, c2] at hw
    rw [d1, d2]
    simp only [Bool.and_self, Bool.not_true, Bool.false_or, decide_eq_true_eq, wideR, lessR] at hw ⊢
    have hw' := of_decide_eq_true hw
    exact decide_eq_true (by omega)
  · unfold looseB
    rw [d1, d2]
    simp only [Bool.and_self, Bool.not_true, Bool.false_or, decide_eq_false_iff_not]
    have := damped_hi_mono (s := wideR (wornR t r' n) (wornR h r' n)) (s' := wideR (wornR t r n) (wornR h r n)) hd.1 hd.2 (by simp only [wideR, lessR]; omega)
    omega
end Go.Proofs.Ytnjbamikfjdofaa

/- What is so after some strokes is so after more of them: the mathematics of strokes. -/
import Derived.Test.YtnjbamikfjdofaaMWorn
set_option linter.unusedSimpArgs false
set_option linter.unusedVariables false
namespace Go.Proofs.Ytnjbamikfjdofaa
open Go.RowKit

theorem leastN_spec (f : Int → Bool) (L : Int) (hm : ∀ a b : Int, L ≤ a → a ≤ b → f a = true → f b = true) : ∀ (K : Nat) (lo hi : Int), L ≤ lo → hi - lo ≤ K → lo ≤ hi →
    lo ≤ leastN f K lo hi ∧ leastN f K lo hi ≤ hi ∧ (∀ n, lo ≤ n → n < leastN f K lo hi → f n = false) ∧ (∀ n, leastN f K lo hi ≤ n → n < hi → f n = true) := by
  intro K
  induction K with
  | zero =>
    intro lo hi h0 h1 h2
    have : lo = hi := by omega
    subst this
    rw [leastN_end f 0 lo lo (by omega)]
    exact ⟨by omega, by omega, fun n h1 h2 => by omega, fun n h1 h2 => by omega⟩
  | succ K ih =>
    intro lo hi h0 h1 h2
    by_cases hlt : lo < hi
    · have hm1 : lo ≤ lo + (hi - lo) / 2 ∧ lo + (hi - lo) / 2 < hi := by omega
      cases hf : f (lo + (hi - lo) / 2) with
      | true =>
        rw [leastN_yes f K lo hi hlt hf]
        obtain ⟨a, b, c, d⟩ := ih lo (lo + (hi - lo) / 2) h0 (by omega) (by omega)
        refine ⟨a, by omega, c, fun n h1 h2 => ?_⟩
        by_cases h3 : n < lo + (hi - lo) / 2
        · exact d n h1 h3
        · exact hm _ _ (by omega) (by omega) hf
      | false =>
        rw [leastN_no f K lo hi hlt hf]
        obtain ⟨a, b, c, d⟩ := ih (lo + (hi - lo) / 2 + 1) hi (by omega) (by omega) (by omega)
        refine ⟨by omega, b, fun n h1 h2 => ?_, d⟩
        by_cases h3 : lo + (hi - lo) / 2 + 1 ≤ n
        · exact c n h3 h2
        · cases h4 : f n with
          | false => rfl
          | true => rw [hm n _ (by omega) (by omega) h4] at hf; cases hf
    · rw [leastN_end f _ lo hi hlt]
      exact ⟨by omega, by omega, fun n h1 h2 => by omega, fun n h1 h2 => by omega⟩

theorem mul_mono {a b c d : Int} (h0 : 0 ≤ a) (h1 : a ≤ b) (h2 : 0 ≤ c) (h3 : c ≤ d) : a * c ≤ b * d := Int.le_trans (Int.mul_le_mul_of_nonneg_right h1 h2) (Int.mul_le_mul_of_nonneg_left h3 (by omega))

/-- A wear that is valid. -/
structure Wear (r : Int × Int) : Prop where
  a : 0 ≤ r.1
  b : r.1 ≤ r.2
  c : r.2 ≤ 100
theorem wear_of {r : Int × Int} (h : withinB r 0 100 = true) : Wear r := by
  obtain ⟨a, b, c⟩ := within_of h
  exact ⟨a, b, c⟩
/-- A valid width. -/
structure Wid (s : Edg) : Prop where
  a : 1 ≤ s.w.1
  b : s.w.1 ≤ s.w.2
  c : s.w.2 ≤ 3000

theorem worn_tab_w {t : Edg} (ht : t.k = 1) (r : Int × Int) (n : Int) : wornR t r n = { t with w := ((t.w.1 * 1000 - r.2 * n) / 1000, -(-(t.w.2 * 1000 - r.1 * n) / 1000)) } := by
  simp [wornR, wornT, ht, roundedR, lessR, timesR]
theorem worn_hole_w {t : Edg} (ht : t.k = 2) (r : Int × Int) (n : Int) : wornR t r n = { t with w := ((t.w.1 * 1000 + r.1 * n) / 1000, -(-(t.w.2 * 1000 + r.2 * n) / 1000)) } := by
  simp [wornR, wornT, ht, roundedR, plusR, timesR]
theorem wornB_def (s : Edg) (r : Int × Int) (n : Int) : wornB s r n = withinB (wornR s r n).w 1 3000 := rfl

/-- The four ends of the widths after n strokes: the bounds hold, and each goes one way. -/
theorem tab_ends {t : Edg} (ht : t.k = 1) (hw : Wid t) {r : Int × Int} (hr : Wear r) {n m : Int} (hn : 0 ≤ n) (hm : n ≤ m) :
    (wornR t r n).w.1 ≤ (wornR t r n).w.2 ∧ (wornR t r n).w.2 ≤ 3000 ∧ (wornR t r m).w.1 ≤ (wornR t r n).w.1 ∧ (wornR t r m).w.2 ≤ (wornR t r n).w.2 := by
  rw [worn_tab_w ht, worn_tab_w ht]
  have h1 := mul_mono hr.a hr.b hn (Int.le_refl n)
  have h2 := mul_mono (a := r.2) (b := r.2) (by have := hr.a; have := hr.b; omega) (Int.le_refl _) hn hm
  have h3 := mul_mono hr.a (Int.le_refl r.1) hn hm
  have h4 := Int.mul_nonneg hr.a hn
  obtain ⟨a, b, c⟩ := hw
  simp only
  omega
theorem hole_ends {t : Edg} (ht : t.k = 2) (hw : Wid t) {r : Int × Int} (hr : Wear r) {n m : Int} (hn : 0 ≤ n) (hm : n ≤ m) :
    (wornR t r n).w.1 ≤ (wornR t r n).w.2 ∧ 1 ≤ (wornR t r n).w.1 ∧ (wornR t r n).w.1 ≤ (wornR t r m).w.1 ∧ (wornR t r n).w.2 ≤ (wornR t r m).w.2 := by
  rw [worn_hole_w ht, worn_hole_w ht]
  have h1 := mul_mono hr.a hr.b hn (Int.le_refl n)
  have h2 := mul_mono (a := r.2) (b := r.2) (by have := hr.a; have := hr.b; omega) (Int.le_refl _) hn hm
  have h3 := mul_mono hr.a (Int.le_refl r.1) hn hm
  have h4 := Int.mul_nonneg hr.a hn
  obtain ⟨a, b, c⟩ := hw
  simp only
  omega
theorem tab_ok {t : Edg} (ht : t.k = 1) (hw : Wid t) {r : Int × Int} (hr : Wear r) {n : Int} (hn : 0 ≤ n) : wornB t r n = true ↔ 1 ≤ (wornR t r n).w.1 := by
  obtain ⟨a, b, _, _⟩ := tab_ends ht hw hr hn (Int.le_refl n)
  rw [wornB_def, withinB]
  simp only [Bool.and_eq_true, decide_eq_true_eq]
  omega
theorem hole_ok {t : Edg} (ht : t.k = 2) (hw : Wid t) {r : Int × Int} (hr : Wear r) {n : Int} (hn : 0 ≤ n) : wornB t r n = true ↔ (wornR t r n).w.2 ≤ 3000 := by
  obtain ⟨a, b, _, _⟩ := hole_ends ht hw hr hn (Int.le_refl n)
  rw [wornB_def, withinB]
  simp only [Bool.and_eq_true, decide_eq_true_eq]
  omega

structure Pair (t h : Edg) : Prop where
  tk : t.k = 1
  hk : h.k = 2
  tw : Wid t
  hw : Wid h

def canB (t h : Edg) (r : Int × Int) (n : Int) : Bool := wornB t r n && wornB h r n
theorem can_mono {t h : Edg} (P : Pair t h) {r : Int × Int} (hr : Wear r) {n m : Int} (hn : 0 ≤ n) (hm : n ≤ m) (h1 : canB t h r m = true) : canB t h r n = true := by
  simp only [canB, Bool.and_eq_true] at h1 ⊢
  rw [tab_ok P.tk P.tw hr (by omega), hole_ok P.hk P.hw hr (by omega)] at h1
  rw [tab_ok P.tk P.tw hr hn, hole_ok P.hk P.hw hr hn]
  have a := tab_ends P.tk P.tw hr hn hm
  have b := hole_ends P.hk P.hw hr hn hm
  omega
theorem wide_mono {t h : Edg} (P : Pair t h) {r : Int × Int} (hr : Wear r) {n m : Int} (hn : 0 ≤ n) (hm : n ≤ m) :
    (wideR (wornR t r n) (wornR h r n)).1 ≤ (wideR (wornR t r m) (wornR h r m)).1 ∧ (wideR (wornR t r n) (wornR h r n)).2 ≤ (wideR (wornR t r m) (wornR h r m)).2 := by
  have a := tab_ends P.tk P.tw hr hn hm
  have b := hole_ends P.hk P.hw hr hn hm
  simp only [wideR, lessR]
  omega

/-- The tests of strokes, for numbers below 0 as for 0. -/
theorem wideB_mono {t h : Edg} (P : Pair t h) {r : Int × Int} (hr : Wear r) {n m : Int} (hn : 0 ≤ n) (hm : n ≤ m) (h1 : wideB t h r n = true) : wideB t h r m = true := by
  unfold wideB at *
  rw [Bool.or_eq_true, Bool.not_eq_true', decide_eq_true_eq] at *
  by_cases hc : canB t h r m = true
  · right
    rcases h1 with h1 | h1
    · rw [show (wornB t r n && wornB h r n) = canB t h r n from rfl, can_mono P hr hn hm hc] at h1; cases h1
    · have := wide_mono P hr hn hm; omega
  · left
    exact Bool.eq_false_iff.2 hc
theorem damped_hi_mono {s s' d : Int × Int} (hd : 0 ≤ d.1) (hd2 : d.1 ≤ d.2) (h : s.2 ≤ s'.2) : (dampedR s d).2 ≤ (dampedR s' d).2 := by
  simp only [dampedR]
  have h1 : s.2 * (d.1 + 1000) ≤ s'.2 * (d.1 + 1000) := Int.mul_le_mul_of_nonneg_right h (by omega)
  have h2 : s.2 * (d.2 + 1000) ≤ s'.2 * (d.2 + 1000) := Int.mul_le_mul_of_nonneg_right h (by omega)
  omega
theorem looseB_mono {t h : Edg} (P : Pair t h) {r : Int × Int} (hr : Wear r) {p : Ply} (hd : 0 ≤ p.damp.1 ∧ p.damp.1 ≤ p.damp.2) {n m : Int} (hn : 0 ≤ n) (hm : n ≤ m) (h1 : looseB t h r p n = true) : looseB t h r p m = true := by
  unfold looseB at *
  rw [Bool.or_eq_true, Bool.not_eq_true', decide_eq_true_eq] at *
  by_cases hc : canB t h r m = true
  · right
    rcases h1 with h1 | h1
    · rw [show (wornB t r n && wornB h r n) = canB t h r n from rfl, can_mono P hr hn hm hc] at h1; cases h1
    · have := damped_hi_mono hd.1 hd.2 (wide_mono P hr hn hm).2; omega
  · left
    exact Bool.eq_false_iff.2 hc

/-- From the first number of strokes on, and behind the last one. -/
def fromR (t h : Edg) (r : Int × Int) : Int := leastN (wideB t h r) 20001 0 20001
def behindR (t h : Edg) (r : Int × Int) (p : Ply) : Int := leastN (looseB t h r p) 20001 (fromR t h r) 20001
theorem from_spec {t h : Edg} (P : Pair t h) {r : Int × Int} (hr : Wear r) : 0 ≤ fromR t h r ∧ fromR t h r ≤ 20001 ∧ (∀ n, 0 ≤ n → n < fromR t h r → wideB t h r n = false) ∧ (∀ n, fromR t h r ≤ n → n < 20001 → wideB t h r n = true) :=
  leastN_spec _ 0 (fun a b h0 h1 h2 => wideB_mono P hr h0 h1 h2) 20001 0 20001 (by omega) (by omega) (by omega)
theorem behind_spec {t h : Edg} (P : Pair t h) {r : Int × Int} (hr : Wear r) {p : Ply} (hd : 0 ≤ p.damp.1 ∧ p.damp.1 ≤ p.damp.2) :
    fromR t h r ≤ behindR t h r p ∧ behindR t h r p ≤ 20001 ∧ (∀ n, fromR t h r ≤ n → n < behindR t h r p → looseB t h r p n = false) ∧ (∀ n, behindR t h r p ≤ n → n < 20001 → looseB t h r p n = true) := by
  obtain ⟨a, b, _, _⟩ := from_spec P hr
  exact leastN_spec _ 0 (fun a b h0 h1 h2 => looseB_mono P hr hd h0 h1 h2) 20001 (fromR t h r) 20001 a (by omega) b
theorem can_of_loose {t h : Edg} {r : Int × Int} {p : Ply} {n : Int} (h1 : looseB t h r p n = false) : wornB t r n = true ∧ wornB h r n = true ∧ ¬ 1000 * p.loose < (dampedR (wideR (wornR t r n) (wornR h r n)) p.damp).2 := by
  unfold looseB at h1
  simp only [Bool.or_eq_false_iff, Bool.not_eq_false', Bool.and_eq_true, decide_eq_false_iff_not] at h1
  exact ⟨h1.1.1, h1.1.2, h1.2⟩
theorem can_of_wide {t h : Edg} {r : Int × Int} {n : Int} (h1 : wideB t h r n = false) : wornB t r n = true ∧ wornB h r n = true ∧ ¬ 0 ≤ (wideR (wornR t r n) (wornR h r n)).1 := by
  unfold wideB at h1
  simp only [Bool.or_eq_false_iff, Bool.not_eq_false', Bool.and_eq_true, decide_eq_false_iff_not] at h1
  exact ⟨h1.1.1, h1.1.2, h1.2⟩
end Go.Proofs.Ytnjbamikfjdofaa

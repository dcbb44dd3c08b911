/- FitAgain: a side that is worn twice contains what it is with all strokes at once. -/
import Derived.Test.YtnjbamikfjdofaaAgainW
import Derived.Test.YtnjbamikfjdofaaLasts
set_option linter.unusedSimpArgs false
set_option linter.unusedVariables false
namespace Go.Proofs.Ytnjbamikfjdofaa
open Go.RowKit Go.Shelf

theorem worn_zero {s : Edg} (hk : s.k = 1 ∨ s.k = 2) (r : Int × Int) : wornR s r 0 = s := by
  obtain ⟨k, a, ⟨w1, w2⟩, d⟩ := s
  rcases hk with hk | hk
  · rw [worn_tab_w hk]
    simp only [Int.mul_zero, Int.sub_zero, Edg.mk.injEq, true_and, and_true, Prod.mk.injEq]
    omega
  · rw [worn_hole_w hk]
    simp only [Int.mul_zero, Int.add_zero, Edg.mk.injEq, true_and, and_true, Prod.mk.injEq]
    omega
theorem worn_k (s : Edg) (r : Int × Int) (n : Int) : (wornR s r n).k = s.k := rfl

theorem twice_tab {s : Edg} (hk : s.k = 1) (r : Int × Int) (a b : Int) :
    (wornR (wornR s r a) r b).w.1 ≤ (wornR s r (a + b)).w.1 ∧ (wornR s r (a + b)).w.2 ≤ (wornR (wornR s r a) r b).w.2 := by
  rw [worn_tab_w (t := wornR s r a) hk, worn_tab_w hk, worn_tab_w hk]
  have h1 : r.2 * (a + b) = r.2 * a + r.2 * b := Int.mul_add ..
  have h2 : r.1 * (a + b) = r.1 * a + r.1 * b := Int.mul_add ..
  simp only
  omega
theorem twice_hole {s : Edg} (hk : s.k = 2) (r : Int × Int) (a b : Int) :
    (wornR (wornR s r a) r b).w.1 ≤ (wornR s r (a + b)).w.1 ∧ (wornR s r (a + b)).w.2 ≤ (wornR (wornR s r a) r b).w.2 := by
  rw [worn_hole_w (t := wornR s r a) hk, worn_hole_w hk, worn_hole_w hk]
  have h1 : r.2 * (a + b) = r.2 * a + r.2 * b := Int.mul_add ..
  have h2 : r.1 * (a + b) = r.1 * a + r.1 * b := Int.mul_add ..
  simp only
  omega

theorem wornE_good {s : Edg} (hs : sideB s = true) {r : Int × Int} (hr : withinB r 0 100 = true) (hk : s.k = 1 ∨ s.k = 2) {n : Int} (h0 : 0 ≤ n) (h1 : n ≤ 20000) :
    wornE s r n = if wornB s r n then (wornR s r n, 0) else (zeroE, 11) := by
  have k0 : ¬ s.k = 0 := by omega
  simp [wornE, hs, hr, k0, h0, h1]

theorem wornE_yes {s : Edg} (hs : sideB s = true) {r : Int × Int} (hr : withinB r 0 100 = true) (hk : s.k = 1 ∨ s.k = 2) {n : Int} (h0 : 0 ≤ n) (h1 : n ≤ 20000) (h : wornB s r n = true) : wornE s r n = (wornR s r n, 0) := by
  rw [wornE_good hs hr hk h0 h1, h]; rfl
theorem wornE_no {s : Edg} (hs : sideB s = true) {r : Int × Int} (hr : withinB r 0 100 = true) (hk : s.k = 1 ∨ s.k = 2) {n : Int} (h0 : 0 ≤ n) (h1 : n ≤ 20000) (h : wornB s r n = false) : wornE s r n = (zeroE, 11) := by
  rw [wornE_good hs hr hk h0 h1, h]; rfl

set_option maxRecDepth 100000 in
theorem fitAgain_any (s : Edg) (r : Int × Int) (a b : Int) (w : World) (ha : -9223372036854775808 ≤ a ∧ a ≤ 9223372036854775807) :
    Calls Try.prog 10 #[edV s, spV r, .int .i64 a, .int .i64 b] w fun e w' => e = .returned (.bool true) ∧ Mod noB w w' := by
  by_cases hg : a < 0 ∨ b < 0 ∨ 20000 < a ∨ 20000 - a < b
  · exact again_out s r a b w ha hg
  have g1 : ¬ a < 0 := fun h => hg (.inl h)
  have g2 : ¬ b < 0 := fun h => hg (.inr (.inl h))
  have g3 : ¬ 20000 < a := fun h => hg (.inr (.inr (.inl h)))
  have g4 : ¬ 20000 - a < b := fun h => hg (.inr (.inr (.inr h)))
  have HS : ∀ sb, sideB s = sb → Hold (∀ w, Calls Try.prog 36 #[edV s] w fun e w' => e = .returned (.bool sb) ∧ Mod noB w w') := fun sb h => ⟨fun w => by rw [← h]; exact refSide_any s w⟩
  have HW : ∀ (x : Edg) (n : Int) (y : Edg) (er : Int), wornE x r n = (y, er) → Hold (∀ w, Calls Try.prog 19 #[edV x, spV r, .int .i64 n] w fun e w' => e = .returned (.tuple #[edV y, .int .i64 er]) ∧ Mod noB w w') := fun x n y er h => ⟨fun w => callWorn x r n y er h w⟩
  cases hs : sideB s with
  | false => exact again_err s r a b w g1 g2 g3 g4 1 false (.inl ⟨rfl, rfl⟩) (HW s 0 _ _ (by simp [wornE, hs])) (HS _ hs)
  | true =>
    cases hr : withinB r 0 100 with
    | false => exact again_err s r a b w g1 g2 g3 g4 2 true (.inr (.inl ⟨rfl, rfl⟩)) (HW s 0 _ _ (by simp [wornE, hs, hr])) (HS _ hs)
    | true =>
      by_cases hk0 : s.k = 0
      · exact again_err s r a b w g1 g2 g3 g4 6 true (.inr (.inr ⟨rfl, rfl⟩)) (HW s 0 _ _ (by simp [wornE, hs, hr, hk0])) (HS _ hs)
      · have hk := (side_wide hs hk0).1
        have hwd := side_ends hs hk0
        have hwr := wear_of hr
        have hz := worn_zero hk r
        have ok : ∀ {t : Edg}, (t.k = 1 ∨ t.k = 2) → Wid t → ∀ {n m : Int}, 0 ≤ n → n ≤ m → wornB t r m = true → wornB t r n = true := by
          intro t hk hw n m h0 h1 h
          rcases hk with hk | hk
          · rw [tab_ok hk hw hwr h0]
            rw [tab_ok hk hw hwr (by omega)] at h
            have := tab_ends hk hw hwr h0 h1
            omega
          · rw [hole_ok hk hw hwr h0]
            rw [hole_ok hk hw hwr (by omega)] at h
            have := hole_ends hk hw hwr h0 h1
            omega
        have h00 : wornB s r 0 = true := by
          rw [wornB_def, hz]
          have := hwd.a; have := hwd.b; have := hwd.c
          simp [withinB]; omega
        have W0 := HW s 0 s 0 (by rw [wornE_yes hs hr hk (by omega) (by omega) h00, hz])
        cases h1 : wornB s r a with
        | false =>
          have h2 : wornB s r (a + b) = false := by
            cases h : wornB s r (a + b) with
            | false => rfl
            | true => rw [ok hk hwd (by omega) (by omega) h] at h1; cases h1
          exact again_11 s r a b w g1 g2 g3 g4 _ _ W0 (HW s a _ _ (wornE_no hs hr hk (by omega) (by omega) h1)) (HW s (a + b) _ _ (wornE_no hs hr hk (by omega) (by omega) h2))
        | true =>
          have W1 := HW s a _ _ (wornE_yes hs hr hk (by omega) (by omega) h1)
          have hs1 := side_worn hs hk h1
          have hk1 : (wornR s r a).k = 1 ∨ (wornR s r a).k = 2 := hk
          have hwd1 := side_ends hs1 (by rw [worn_k]; exact hk0)
          have tw : (wornR (wornR s r a) r b).w.1 ≤ (wornR s r (a + b)).w.1 ∧ (wornR s r (a + b)).w.2 ≤ (wornR (wornR s r a) r b).w.2 := by
            rcases hk with hk | hk
            · exact twice_tab hk r a b
            · exact twice_hole hk r a b
          cases h2 : wornB s r (a + b) with
          | false =>
            have h3 : wornB (wornR s r a) r b = false := by
              cases h : wornB (wornR s r a) r b with
              | false => rfl
              | true =>
                exfalso
                have : wornB s r (a + b) = true := by
                  rcases hk with hk | hk
                  · rw [tab_ok hk hwd hwr (by omega)]
                    rw [tab_ok (t := wornR s r a) hk hwd1 hwr (by omega)] at h
                    omega
                  · rw [hole_ok hk hwd hwr (by omega)]
                    rw [hole_ok (t := wornR s r a) hk hwd1 hwr (by omega)] at h
                    omega
                rw [this] at h2; cases h2
            exact again_both s r a b w g1 g2 g3 g4 _ _ _ W0 W1 (HW s (a + b) _ _ (wornE_no hs hr hk (by omega) (by omega) h2)) (HW _ b _ _ (wornE_no hs1 hr hk1 (by omega) (by omega) h3))
          | true =>
            have W2 := HW s (a + b) _ _ (wornE_yes hs hr hk (by omega) (by omega) h2)
            obtain ⟨x3, e3, W3, he⟩ : ∃ x3 e3, Hold (∀ w, Calls Try.prog 19 #[edV (wornR s r a), spV r, .int .i64 b] w fun e w' => e = .returned (.tuple #[edV x3, .int .i64 e3]) ∧ Mod noB w w') ∧
                (e3 = 11 ∨ e3 = 0 ∧ ¬ (wornR s r (a + b)).w.1 < x3.w.1 ∧ ¬ x3.w.2 < (wornR s r (a + b)).w.2) := by
              cases h3 : wornB (wornR s r a) r b with
              | false => exact ⟨_, _, HW _ b _ _ (wornE_no hs1 hr hk1 (by omega) (by omega) h3), .inl rfl⟩
              | true => exact ⟨_, _, HW _ b _ _ (wornE_yes hs1 hr hk1 (by omega) (by omega) h3), .inr ⟨rfl, by omega, by omega⟩⟩
            rcases hk with hk | hk
            · have q := tab_ends hk hwd hwr (Int.le_refl 0) (m := a + b) (by omega)
              rw [hz] at q
              exact again_tab s r a b w g1 g2 g3 g4 _ _ _ _ he hk (by omega) (by omega) W0 W1 W2 W3
            · have q := hole_ends hk hwd hwr (Int.le_refl 0) (m := a + b) (by omega)
              rw [hz] at q
              exact again_hole s r a b w g1 g2 g3 g4 _ _ _ _ he (by omega) (by omega) (by omega) W0 W1 W2 W3
end Go.Proofs.Ytnjbamikfjdofaa

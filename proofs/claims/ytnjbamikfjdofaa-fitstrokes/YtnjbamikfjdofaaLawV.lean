/- FitStrokes: the walk, whatever the sides, the wear and the numbers. -/
import Derived.Test.YtnjbamikfjdofaaLawU
import Derived.Test.YtnjbamikfjdofaaLawVa
import Derived.Test.YtnjbamikfjdofaaLawVb
import Derived.Test.YtnjbamikfjdofaaLawVc
import Derived.Test.YtnjbamikfjdofaaLawVd
set_option linter.unusedSimpArgs false
set_option linter.unusedVariables false
namespace Go.Proofs.Ytnjbamikfjdofaa
open Go.RowKit Go.Shelf

set_option maxHeartbeats 4000000 in
theorem fitStrokes_any (p : Ply) (a b : Edg) (r : Int × Int) (s q : Int) (w : World) (hs0 : 0 ≤ s) (hs1 : s ≤ 65535) (hq0 : 0 ≤ q) (hq1 : q ≤ 255) :
    Calls Try.prog 9 #[plV p, edV a, edV b, spV r, .int .u16 s, .int .u8 q] w fun e w' => e = .returned (.bool true) ∧ Mod noB w w' := by
  have hn0 : 0 ≤ s.tmod 20001 := Int.tmod_nonneg _ hs0
  have hn1 : s.tmod 20001 ≤ 20000 := by rw [Int.tmod_eq_emod_of_nonneg hs0]; omega
  have m0 : 0 ≤ q.tmod 3 := Int.tmod_nonneg _ hq0
  have m2 : q.tmod 3 ≤ 2 := by rw [Int.tmod_eq_emod_of_nonneg hq0]; omega
  have good : ∀ n g, goodE p a b r n = g → Hold (∀ w1, LK p a b r w w1 → Calls Try.prog 43 #[.int .i64 n, .pointer (some ⟨w.heap.size + 1, 0, none⟩), .pointer (some ⟨w.heap.size + 1 + 1 + 1, 0, none⟩), .pointer (some ⟨w.heap.size + 1 + 1, 0, none⟩), .pointer (some ⟨w.heap.size, 0, none⟩)] w1 fun e w' => e = .returned (.bool g) ∧ Mod noB w1 w') :=
    fun n g h => ⟨fun w1 hk => by have hh := good_any p a b r n w w1 hk; rw [h] at hh; exact hh⟩
  rcases last_spec p a b r with ⟨h0, ⟨hp, ha, hb, hr, ho⟩, l0, l1, l2, lg⟩ | ⟨he, ⟨hp, ha, hb, hr, ho⟩, lg⟩ | ⟨he, _⟩ | ⟨he, _⟩ | ⟨he, _⟩
  · obtain ⟨g1, g2, g3⟩ := within_of hr
    have HP : Hold (∀ w, Calls Try.prog 35 #[plV p] w fun r w' => r = .returned (.bool true) ∧ Mod noB w w') := ⟨fun w => by have := refPlay_any p w; rw [hp] at this; exact this⟩
    have HL : Hold (∀ w, Calls Try.prog 22 #[plV p, edV a, edV b, spV r] w fun e w' => e = .returned (.tuple #[.int .i64 (lastE p a b r).1, .int .i64 (lastE p a b r).2.1, .int .i64 0]) ∧ Mod noB w w') :=
      ⟨fun w => by have := last_any p a b r w; rw [h0] at this; exact this⟩
    obtain ⟨X, hX⟩ : ∃ X, r.1 + q.tmod 3 < r.2 ∧ X = r.1 + q.tmod 3 ∨ r.2 ≤ r.1 + q.tmod 3 ∧ X = r.2 := by
      rcases Int.lt_or_le (r.1 + q.tmod 3) r.2 with h | h
      · exact ⟨_, .inl ⟨h, rfl⟩⟩
      · exact ⟨_, .inr ⟨h, rfl⟩⟩
    have x0 : r.1 ≤ X := by omega
    have x1 : X ≤ r.2 := by omega
    have hr' : withinB (X, r.2) 0 100 = true := by
      unfold withinB
      have a1 : decide (0 ≤ X) = true := decide_eq_true (by omega)
      have a2 : decide (X ≤ r.2) = true := decide_eq_true x1
      have a3 : decide (r.2 ≤ 100) = true := decide_eq_true g3
      show (decide (0 ≤ X) && decide (X ≤ r.2) && decide (r.2 ≤ 100)) = true
      rw [a1, a2, a3]; rfl
    generalize (lastE p a b r).1 = F at *
    generalize (lastE p a b r).2.1 = T at *
    have gF : goodE p a b r F = true := (lg F l0 (by omega)).2 ⟨Int.le_refl _, l1⟩
    have gT : goodE p a b r T = true := (lg T (by omega) l2).2 ⟨l1, Int.le_refl _⟩
    have gF' : goodE p a b (X, r.2) F = true := good_narrow hp ha hb hr hr' ho x0 rfl l0 (by omega) gF
    have gT' : goodE p a b (X, r.2) T = true := good_narrow hp ha hb hr hr' ho x0 rfl (by omega) l2 gT
    have hsv : (playB p && (sideB a && sideB b)) = true := by rw [hp, ha, hb]; rfl
    rcases last_spec p a b (X, r.2) with ⟨k0, _, k1, k2, k3, kg⟩ | ⟨_, _, kg⟩ | ⟨_, kk⟩ | ⟨_, _, kk⟩ | ⟨_, _, _, kk⟩
    · have HL2 : Hold (∀ w, Calls Try.prog 22 #[plV p, edV a, edV b, spV (X, r.2)] w fun e w' => e = .returned (.tuple #[.int .i64 (lastE p a b (X, r.2)).1, .int .i64 (lastE p a b (X, r.2)).2.1, .int .i64 0]) ∧ Mod noB w w') :=
        ⟨fun w => by have := last_any p a b (X, r.2) w; rw [k0] at this; exact this⟩
      generalize (lastE p a b (X, r.2)).1 = u at *
      generalize (lastE p a b (X, r.2)).2.1 = v at *
      have u0 := ((kg F l0 (by omega)).1 gF').1
      have v0 := ((kg T (by omega) l2).1 gT').2
      obtain ⟨bn, gn, hbn⟩ : ∃ bn, goodE p a b r (s.tmod 20001) = bn ∧ (s.tmod 20001 < F ∧ bn = false ∨ (F ≤ s.tmod 20001 ∧ s.tmod 20001 ≤ T) ∧ bn = true ∨ (F ≤ s.tmod 20001 ∧ T < s.tmod 20001) ∧ bn = false) := by
        have hg := lg _ hn0 hn1
        cases hh : goodE p a b r (s.tmod 20001) with
        | true => exact ⟨_, rfl, .inr (.inl ⟨hg.1 hh, rfl⟩)⟩
        | false =>
          have : ¬ (F ≤ s.tmod 20001 ∧ s.tmod 20001 ≤ T) := fun h => by have := hg.2 h; rw [hh] at this; cases this
          rcases Int.lt_or_le (s.tmod 20001) F with h | h
          · exact ⟨_, rfl, .inl ⟨h, rfl⟩⟩
          · exact ⟨_, rfl, .inr (.inr ⟨⟨h, by omega⟩, rfl⟩)⟩
      have G1 := good F true gF
      have G2 := good T true gT
      have G3 := good (s.tmod 20001) bn gn
      have bF : ∀ n, 0 ≤ n → n ≤ 20000 → (n < F ∨ T < n) → goodE p a b r n = false := fun n h1 h2 h3 => by
        cases hh : goodE p a b r n with
        | false => rfl
        | true => exact absurd ((lg n h1 h2).1 hh) (by omega)
      rcases Int.lt_or_le 0 F with f0 | f0
      · have G4 := good (F - 1) false (bF _ (by omega) (by omega) (.inl (by omega)))
        rcases Int.lt_or_le T 20000 with f2 | f2
        · have G5 := good (T + 1) false (bF _ (by omega) (by omega) (.inr (by omega)))
          exact strokes_a p a b r s q _ _ F T u v X bn w hs0 hs1 rfl hq0 hq1 rfl m0 m2 g1 g2 g3 f0 f2 l1 u0 v0 hbn hX HL HL2 HP G1 G2 G3 G4 G5
        · obtain rfl : T = 20000 := by omega
          exact strokes_b p a b r s q _ _ F u v X bn w hs0 hs1 rfl hq0 hq1 rfl m0 m2 g1 g2 g3 f0 l1 u0 v0 hbn hX HL HL2 HP G1 G2 G3 G4
      · obtain rfl : F = 0 := by omega
        rcases Int.lt_or_le T 20000 with f2 | f2
        · have G5 := good (T + 1) false (bF _ (by omega) (by omega) (.inr (by omega)))
          exact strokes_c p a b r s q _ _ T u v X bn w hs0 hs1 rfl hq0 hq1 rfl m0 m2 g1 g2 g3 f2 l1 u0 v0 hbn hX HL HL2 HP G1 G2 G3 G5
        · obtain rfl : T = 20000 := by omega
          exact strokes_d p a b r s q _ _ u v X bn w hs0 hs1 rfl hq0 hq1 rfl m0 m2 g1 g2 g3 (by omega) u0 v0 hbn hX HL HL2 HP G1 G2 G3
    · exact absurd gF' (by rw [kg F l0 (by omega)]; simp)
    · exact absurd hsv (by rw [kk]; simp)
    · exact absurd hr' (by rw [kk]; simp)
    · exact absurd ho (by rw [kk]; simp)
  · obtain ⟨g1, g2, g3⟩ := within_of hr
    exact strokes_4 p a b r s q _ w hs0 hs1 rfl g1 g2 g3 ⟨fun w => callLast p a b r 0 0 4 he w⟩ ⟨fun w => by have := refPlay_any p w; rw [hp] at this; exact this⟩
      (good _ _ (lg _ hn0 hn1)) (good _ _ (lg _ (by omega) (by omega))) (good _ _ (lg _ (by omega) (by omega)))
  · exact strokes_err p a b r s q w 1 (by simp) ⟨fun w => callLast p a b r 0 0 1 he w⟩
  · exact strokes_err p a b r s q w 2 (by simp) ⟨fun w => callLast p a b r 0 0 2 he w⟩
  · exact strokes_err p a b r s q w 6 (by simp) ⟨fun w => callLast p a b r 0 0 6 he w⟩
end Go.Proofs.Ytnjbamikfjdofaa

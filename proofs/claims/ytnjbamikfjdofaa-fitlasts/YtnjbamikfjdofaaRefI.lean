/- The document's Worn, at any side: the same as the program's. -/
import Derived.Test.YtnjbamikfjdofaaRefH
set_option linter.unusedSimpArgs false
set_option linter.unusedVariables false
namespace Go.Proofs.Ytnjbamikfjdofaa
open Go.RowKit Go.Shelf

theorem refWorn_any (s : Edg) (r : Int × Int) (n : Int) (w : World) :
    Calls Try.prog 20 #[edV s, spV r, .int .i64 n] w fun e w' => e = .returned (.tuple #[edV (wornE s r n).1, .int .i64 (wornE s r n).2]) ∧ Mod noB w w' := by
  have HS := fun w => refSide_any s w
  have HR := fun w => refSpan_any r 0 100 w
  have HN := fun w => in_any n 0 20000 w
  cases hs : sideB s with
  | false =>
    rw [hs] at HS
    rw [show wornE s r n = (zeroE, 1) by simp [wornE, hs]]
    exact refWorn_1 s r n w ⟨HS⟩
  | true =>
    rw [hs] at HS
    by_cases hrn : withinB r 0 100 = true ∧ inB n 0 20000 = true
    · obtain ⟨hr, hn⟩ := hrn
      rw [hr] at HR
      rw [hn] at HN
      have hn' : 0 ≤ n ∧ n ≤ 20000 := by simpa [inB] using hn
      have hr' := wear_of hr
      by_cases hk0 : s.k = 0
      · rw [show wornE s r n = (zeroE, 6) by simp [wornE, hs, hr, hk0, hn']]
        obtain ⟨k, a, wi, d⟩ := s
        simp only at hk0
        subst hk0
        exact refWorn_6 a wi d r n w ⟨HS⟩ ⟨HR⟩ ⟨HN⟩
      · have hk := (side_wide hs hk0).1
        have hwd := side_ends hs hk0
        have he : wornE s r n = if wornB s r n then (wornR s r n, 0) else (zeroE, 11) := by simp [wornE, hs, hr, hk0, hn']
        rw [he, wornB_def]
        obtain ⟨a1, a2, a3⟩ := hwd
        obtain ⟨b1, b2, b3⟩ := hr'
        rcases hk with hk | hk
        · rw [worn_tab_w hk]
          obtain ⟨k, a, ⟨x, y⟩, d⟩ := s
          obtain ⟨u, v⟩ := r
          simp only at hk a1 a2 a3 b1 b2 b3 ⊢
          subst hk
          rw [Int.mul_comm x 1000, Int.mul_comm y 1000]
          refine (refWorn_tab a x y d u v n w (by omega) (by omega) (by omega) (by omega) hn' _ rfl ⟨HS⟩ ⟨HR⟩ ⟨HN⟩).mono fun e w' h => ⟨h.1.trans ?_, h.2⟩
          split <;> rfl
        · rw [worn_hole_w hk]
          obtain ⟨k, a, ⟨x, y⟩, d⟩ := s
          obtain ⟨u, v⟩ := r
          simp only at hk a1 a2 a3 b1 b2 b3 ⊢
          subst hk
          rw [Int.mul_comm x 1000, Int.mul_comm y 1000]
          refine (refWorn_hole a x y d u v n w (by omega) (by omega) (by omega) (by omega) hn' _ rfl ⟨HS⟩ ⟨HR⟩ ⟨HN⟩).mono fun e w' h => ⟨h.1.trans ?_, h.2⟩
          split <;> rfl
    · have he : wornE s r n = (zeroE, 2) := by
        have : (withinB r 0 100 && (decide (0 ≤ n) && decide (n ≤ 20000))) = false := by
          cases h1 : withinB r 0 100 with
          | false => rfl
          | true =>
            have : inB n 0 20000 = false := by
              cases h2 : inB n 0 20000 with
              | false => rfl
              | true => exact absurd ⟨h1, h2⟩ hrn
            simpa [inB] using this
        simp only [wornE, hs, this, if_true]
        rfl
      rw [he]
      refine refWorn_2 s r n w _ _ ?_ ⟨HS⟩ ⟨HR⟩ ⟨HN⟩
      revert hrn
      cases withinB r 0 100 <;> cases inB n 0 20000 <;> simp
end Go.Proofs.Ytnjbamikfjdofaa

/- FitLasts: Last returns the document's numbers of strokes. -/
import Derived.Test.YtnjbamikfjdofaaRefL
set_option linter.unusedSimpArgs false
set_option linter.unusedVariables false
namespace Go.Proofs.Ytnjbamikfjdofaa
open Go.RowKit Go.Shelf

theorem refLast_any (p : Ply) (a b : Edg) (r : Int × Int) (w : World) :
    Calls Try.prog 23 #[plV p, edV a, edV b, spV r] w fun e w' => e = .returned (.tuple #[.int .i64 (lastE p a b r).1, .int .i64 (lastE p a b r).2.1, .int .i64 (lastE p a b r).2.2]) ∧ Mod noB w w' := by
  have HP := fun w => refPlay_any p w
  have HA := fun w => refSide_any a w
  have HB := fun w => refSide_any b w
  have HR := fun w => refSpan_any r 0 100 w
  have HO := fun w => both_any a b w
  obtain ⟨hb2, hb1⟩ := both_ordered a b
  have both_true : ∀ {x y z : Bool}, (x && (y && z)) = true → x = true ∧ y = true ∧ z = true := by
    intro x y z; cases x <;> cases y <;> cases z <;> simp
  rcases last_spec p a b r with ⟨h0, ⟨hp, ha, hb, hr, ho⟩, f0, ft, t1, hg⟩ | ⟨h4, ⟨hp, ha, hb, hr, ho⟩, hg⟩ | ⟨h1, hv⟩ | ⟨h2, hv, hr⟩ | ⟨h6, hv, hr, ho⟩
  · rw [hp] at HP; rw [ha] at HA; rw [hb] at HB; rw [hr] at HR; rw [hb2, ho] at HO
    have kk : a.k ≠ 0 ∧ b.k ≠ 0 := by
      have := ordered_kinds ho
      unfold orderedR at this
      split at this <;> simp only at this <;> omega
    refine refLast_go p a b _ _ r w (lastE p a b r).1 (lastE p a b r).2.1 f0 (by omega) t1 _ _ _ (.inr ⟨ft, rfl, rfl, h0⟩) ⟨HP⟩ ⟨HA⟩ ⟨HB⟩ ⟨HR⟩ ⟨HO⟩ ⟨fun n w n0 n1 => ?_⟩
    have := lasts_any p a b r n w hp ha hb kk.1 kk.2 hr n0 n1
    have e : goodE p a b r n = (decide ((lastE p a b r).1 ≤ n) && decide (n ≤ (lastE p a b r).2.1)) := by
      have hh := hg n n0 n1
      cases hq : goodE p a b r n with
      | true =>
        have := hh.1 hq
        simp [this]
      | false =>
        rw [hq] at hh
        have : ¬ ((lastE p a b r).1 ≤ n ∧ n ≤ (lastE p a b r).2.1) := fun h => by have := hh.2 h; cases this
        symm
        simp
        omega
    rwa [e] at this
  · rw [hp] at HP; rw [ha] at HA; rw [hb] at HB; rw [hr] at HR; rw [hb2, ho] at HO
    have kk : a.k ≠ 0 ∧ b.k ≠ 0 := by
      have := ordered_kinds ho
      unfold orderedR at this
      split at this <;> simp only at this <;> omega
    rw [h4]
    refine refLast_go p a b _ _ r w 20001 20000 (by omega) (by omega) (by omega) _ _ _ (.inl ⟨rfl, rfl, rfl, rfl⟩) ⟨HP⟩ ⟨HA⟩ ⟨HB⟩ ⟨HR⟩ ⟨HO⟩ ⟨fun n w n0 n1 => ?_⟩
    have := lasts_any p a b r n w hp ha hb kk.1 kk.2 hr n0 n1
    rw [hg n n0 n1] at this
    rwa [show (decide ((20001 : Int) ≤ n) && decide (n ≤ 20000)) = false by simp; omega]
  · rw [h1]
    refine refLast_1 p a b r w _ _ _ ?_ ⟨HP⟩ ⟨HA⟩ ⟨HB⟩
    revert hv
    cases playB p <;> cases sideB a <;> cases sideB b <;> simp
  · obtain ⟨hp, ha, hb⟩ := both_true hv
    rw [hp] at HP; rw [ha] at HA; rw [hb] at HB; rw [hr] at HR
    rw [h2]
    exact refLast_2 p a b r w ⟨HP⟩ ⟨HA⟩ ⟨HB⟩ ⟨HR⟩
  · obtain ⟨hp, ha, hb⟩ := both_true hv
    rw [hp] at HP; rw [ha] at HA; rw [hb] at HB; rw [hr] at HR; rw [hb2, ho] at HO
    rw [h6]
    exact refLast_6 p a b _ _ r w ⟨HP⟩ ⟨HA⟩ ⟨HB⟩ ⟨HR⟩ ⟨HO⟩

set_option maxRecDepth 100000 in
set_option maxHeartbeats 4000000 in
theorem lastLaw_walk (p : Ply) (a b : Edg) (r : Int × Int) (w : World) (x y z : Int)
    (L1 : Hold (∀ w, Calls Try.prog 22 #[plV p, edV a, edV b, spV r] w fun e w' => e = .returned (.tuple #[.int .i64 x, .int .i64 y, .int .i64 z]) ∧ Mod noB w w'))
    (L2 : Hold (∀ w, Calls Try.prog 23 #[plV p, edV a, edV b, spV r] w fun e w' => e = .returned (.tuple #[.int .i64 x, .int .i64 y, .int .i64 z]) ∧ Mod noB w w')) :
    Calls Try.prog 4 #[plV p, edV a, edV b, spV r] w fun e w' => e = .returned (.bool true) ∧ Mod noB w w' := by
  have HF := Hold.mk (law_kept p a b r w)
  go_enter Try.func4, Try.ntmps4
  go_wp2_with (first
    | (go_at_call 22; refine (L1.out _).mono ?_; rintro e w1 ⟨rfl, hM⟩; have HF := Hold.mk (HF.out.later hM); obtain ⟨p0, p1, p2, p3, p4⟩ := PlayAt.of HF.out.now.1.1.1.2; obtain ⟨a0, a1, a2, a3, a4, a5, a6⟩ := EdgeAt.of HF.out.now.1.1.2; obtain ⟨b0, b1, b2, b3, b4, b5, b6⟩ := EdgeAt.of HF.out.now.1.2; have r0 := cellsAt HF.out.now.2 0; have r1 := cellsAt HF.out.now.2 1; clear hM)
    | (go_at_call 23; refine (L2.out _).mono ?_; rintro e w2 ⟨rfl, hM⟩; clear p0 p1 p2 p3 p4 a0 a1 a2 a3 a4 a5 a6 b0 b1 b2 b3 b4 b5 b6 r0 r1; have HF := Hold.mk (HF.out.later hM); clear hM)
    | (go_at_call 21; refine (alive_any _).mono ?_; rintro e w3 ⟨rfl, hM⟩; have HF := Hold.mk (HF.out.later hM); clear hM))
  go_ret
  exact ⟨rfl, HF.out.now.1.1.1.1⟩

theorem fitLasts_any (p : Ply) (a b : Edg) (r : Int × Int) (w : World) : Calls Try.prog 4 #[plV p, edV a, edV b, spV r] w fun e w' => e = .returned (.bool true) ∧ Mod noB w w' :=
  lastLaw_walk p a b r w _ _ _ ⟨fun w => last_any p a b r w⟩ ⟨fun w => refLast_any p a b r w⟩
end Go.Proofs.Ytnjbamikfjdofaa

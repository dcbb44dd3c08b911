/- damped, thousands. -/
import Derived.Test.YtnplhlcifagimaaSpans
import Derived.Outline
set_option linter.unusedSimpArgs false
set_option linter.unusedVariables false
namespace Go.Proofs.Ytnplhlcifagimaa
open Go.RowKit

theorem ret_i64 {a b : Int} (h : a = b) : Ending.returned (.int .i64 a) = .returned (.int .i64 b) := by rw [h]

set_option maxHeartbeats 1000000 in
theorem damped_any (s d : Int × Int) (w : World) (hs : Small 10000000 s) (hd : Small 1000 d) :
    Calls Try.prog 57 #[spV s, spV d] w fun e w' => e = .returned (spV (dampedR s d)) ∧ Mod noB w w' := by
  obtain ⟨d1, hd1⟩ : ∃ d1, d1 = d.1 + 1000 := ⟨_, rfl⟩
  obtain ⟨d2, hd2⟩ : ∃ d2, d2 = d.2 + 1000 := ⟨_, rfl⟩
  have HP : Hold (∀ w, Calls Try.prog 38 #[spV d, spV (1000, 1000)] w fun e w' => e = .returned (spV (d1, d2)) ∧ Mod noB w w') :=
    ⟨fun w => by rw [hd1, hd2]; exact plus_any d (1000, 1000) w (hd.le (by omega)) ⟨⟨by simp, by simp⟩, by simp, by simp⟩⟩
  have e1 : -2000 ≤ d1 ∧ d1 ≤ 2000 := by have := hd.1; omega
  have e2 : -2000 ≤ d2 ∧ d2 ≤ 2000 := by have := hd.2; omega
  have HR : Hold (dampedR s d = (min (s.1 * d1) (s.1 * d2), max (s.2 * d1) (s.2 * d2))) := ⟨by rw [hd1, hd2]; rfl⟩
  obtain ⟨a, b⟩ := s
  obtain ⟨c, f⟩ := d
  obtain ⟨p1, q1⟩ := mul_bd hs.1 e1; obtain ⟨p2, q2⟩ := mul_bd hs.1 e2; obtain ⟨p3, q3⟩ := mul_bd hs.2 e1; obtain ⟨p4, q4⟩ := mul_bd hs.2 e2
  obtain ⟨⟨a1, a2⟩, b1, b2⟩ := hs
  obtain ⟨e11, e12⟩ := e1
  obtain ⟨e21, e22⟩ := e2
  simp only at p1 q1 p2 q2 p3 q3 p4 q4 a1 a2 b1 b2
  clear hd1 hd2 hd
  go_enter Try.func57, Try.ntmps57
  go_wp2_with (go_at_call 38; refine (HP.out _).mono ?_; rintro e w1 ⟨rfl, hM⟩; have HM := Hold.mk hM; obtain ⟨hc, hf⟩ := bcell hM; have hz : w.heap.size + 2 < w1.heap.size := (by have := hM.size; simp at this; omega); have hz0 : w.heap.size < w1.heap.size := (by omega); have hz1 : w.heap.size + 1 < w1.heap.size := (by omega); clear hM)
  all_goals
    rw [HR.out]
    have hmm : (min (a * d1) (a * d2) = if a * d1 ≤ a * d2 then a * d1 else a * d2) ∧ (max (b * d1) (b * d2) = if b * d1 ≤ b * d2 then b * d2 else b * d1) := ⟨Int.min_def .., Int.max_def ..⟩
    rw [hmm.1, hmm.2]
    refine bodyPost_ret (v := spV (if a * d1 ≤ a * d2 then a * d1 else a * d2, if b * d1 ≤ b * d2 then b * d2 else b * d1)) ?_ rfl ⟨rfl, ?_⟩
    · simp [results, Try.results57, go_sem, *]
      try omega
    · exact Mod.alloc (Mod.setNew (Mod.setNew (((((Mod.refl _ _).alloc _).alloc _).alloc _).trans HM.out) (by omega) _) (by omega) _) _

end Go.Proofs.Ytnplhlcifagimaa

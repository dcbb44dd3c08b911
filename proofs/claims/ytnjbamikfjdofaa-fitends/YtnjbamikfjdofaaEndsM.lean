/- FitEnds: what the loop over the three differences gathers: whether all that is between is allowed, or nothing. -/
import Derived.Test.YtnjbamikfjdofaaMoreM
set_option linter.unusedSimpArgs false
set_option linter.unusedVariables false
namespace Go.Proofs.Ytnjbamikfjdofaa
open Go.RowKit

/-- With this damp both ends are allowed. -/
def okD (s : Int × Int) (lo hi d : Int) : Bool := decide (1000 * lo ≤ s.1 * (1000 + d)) && decide (s.2 * (1000 + d) ≤ 1000 * hi)
/-- With this damp what is nearest to 0 is not allowed. -/
def outD (s : Int × Int) (lo hi d : Int) : Bool := decide (nearR s * (1000 + d) < 1000 * lo) || decide (1000 * hi < nearR s * (1000 + d))

theorem full_okD {s : Int × Int} {lo hi : Int} {d : Int × Int} (hs : s.1 ≤ s.2) (hl : lo ≤ 0) (hh : 0 ≤ hi) (hd : 0 ≤ d.1) (hd2 : d.1 ≤ d.2) : verdictR s lo hi d = 2 ↔ (okD s lo hi d.1 && okD s lo hi d.2) = true := by
  rw [verdict_full hs hl hh hd hd2]
  have a1 : 0 ≤ s.1 → 0 ≤ s.1 * (1000 + d.1) := fun h => Int.mul_nonneg h (by omega)
  have a2 : s.1 ≤ 0 → s.1 * (1000 + d.2) ≤ s.1 * (1000 + d.1) := fun h => Int.mul_le_mul_of_nonpos_left h (by omega)
  have a3 : s.2 ≤ 0 → 0 ≤ -s.2 * (1000 + d.1) := fun h => Int.mul_nonneg (by omega) (by omega)
  have a4 : 0 ≤ s.2 → s.2 * (1000 + d.1) ≤ s.2 * (1000 + d.2) := fun h => Int.mul_le_mul_of_nonneg_left (by omega) h
  rw [Int.neg_mul] at a3
  unfold okD
  simp only [Bool.and_eq_true, decide_eq_true_eq]
  constructor
  · rintro ⟨h1, h2⟩
    refine ⟨⟨?_, ?_⟩, h1, h2⟩
    · rcases Int.le_total 0 s.1 with h | h
      · have := a1 h; omega
      · have := a2 h; omega
    · rcases Int.le_total 0 s.2 with h | h
      · have := a4 h; omega
      · have := a3 h; omega
  · rintro ⟨_, h1, h2⟩
    exact ⟨h1, h2⟩
theorem zero_outD {s : Int × Int} {lo hi : Int} {d : Int × Int} (hs : s.1 ≤ s.2) (hl : lo ≤ 0) (hh : 0 ≤ hi) (hd : 0 ≤ d.1) (hd2 : d.1 ≤ d.2) : verdictR s lo hi d = 0 ↔ outD s lo hi d.1 = true := by
  rw [verdict_zero hs hl hh hd hd2]
  unfold goodN outD
  simp only [Bool.or_eq_true, decide_eq_true_eq]
  omega

theorem beq_of_iff {n m : Int} {b : Bool} (h : n = m ↔ b = true) : (n == m) = b := by
  cases b with
  | false => simp; intro e; have := h.1 e; cases this
  | true => simp; exact h.2 rfl

/-- What three differences together say. -/
structure EndsOf (n : Int) (x y z : Int × Int) (sl lo : Int) (d : Int × Int) (A1 A2 A3 B1 B2 B3 : Bool) : Prop where
  zot : n = 0 ∨ n = 1 ∨ n = 2
  a1 : A1 = ((true && okD x (-sl) sl d.1) && okD x (-sl) sl d.2)
  a2 : A2 = ((A1 && okD y 0 lo d.1) && okD y 0 lo d.2)
  a3 : A3 = ((A2 && okD z 0 lo d.1) && okD z 0 lo d.2)
  b1 : B1 = (false || outD x (-sl) sl d.1)
  b2 : B2 = (B1 || outD y 0 lo d.1)
  b3 : B3 = (B2 || outD z 0 lo d.1)
  full : (n == 2) = A3
  none : (n == 0) = B3

theorem least3_zot (a b c : Int) : least3 a b c = 0 ∨ least3 a b c = 1 ∨ least3 a b c = 2 := by
  unfold least3
  split
  · exact .inl rfl
  · split
    · exact .inr (.inr rfl)
    · exact .inr (.inl rfl)

theorem ends_of {p : Ply} {t u : Edg} (hp : playB p = true) (ot : Ordered t) (ou : Ordered u) :
    ∃ A1 A2 A3 B1 B2 B3, EndsOf (least3 (v1R p t u) (v2R p t u) (v3R p t u)) (offR t u p.len) (wideR t u) (deepR t u) p.slack p.loose p.damp A1 A2 A3 B1 B2 B3 := by
  obtain ⟨_, ⟨s0, _⟩, ⟨o0, _⟩, f0, f1, _⟩ := play_facts hp
  obtain ⟨x1, x2, x3⟩ := differ_ordered ot ou p.len
  refine ⟨_, _, _, _, _, _, least3_zot _ _ _, rfl, rfl, rfl, rfl, rfl, rfl, ?_, ?_⟩
  · refine beq_of_iff ?_
    rw [least3_two]
    unfold v1R v2R v3R
    rw [full_okD x1 (by omega) s0 f0 f1, full_okD x2 (by omega) o0 f0 f1, full_okD x3 (by omega) o0 f0 f1]
    simp only [Bool.and_eq_true, true_and, and_assoc]
  · refine beq_of_iff ?_
    rw [least3_zero]
    unfold v1R v2R v3R
    rw [zero_outD x1 (by omega) s0 f0 f1, zero_outD x2 (by omega) o0 f0 f1, zero_outD x3 (by omega) o0 f0 f1]
    simp only [Bool.or_eq_true, Bool.false_eq_true, false_or, or_assoc]

theorem damped_min (s d : Int × Int) : (dampedR s d).1 = min (min (s.1 * (1000 + d.1)) (s.1 * (1000 + d.1))) (s.1 * (1000 + d.2)) ∧ (dampedR s d).2 = max (max (s.2 * (1000 + d.1)) (s.2 * (1000 + d.1))) (s.2 * (1000 + d.2)) := by
  unfold dampedR
  rw [Int.add_comm 1000 d.1, Int.add_comm 1000 d.2]
  simp
end Go.Proofs.Ytnjbamikfjdofaa

/- FitTrue: what is truly so lies within what is said of it: numbers alone. -/
import Derived.Test.YtnjbamikfjdofaaMoreM
import Derived.Test.YtnjbamikfjdofaaRefC
import Derived.Test.YtnjbamikfjdofaaBetween
import Derived.Test.YtnjbamikfjdofaaWornE
set_option linter.unusedSimpArgs false
set_option linter.unusedVariables false
namespace Go.Proofs.Ytnjbamikfjdofaa
open Go.RowKit

theorem damp_mem {s d : Int × Int} {v e : Int} (h1 : s.1 ≤ v) (h2 : v ≤ s.2) (e0 : 0 ≤ d.1) (e1 : d.1 ≤ e) (e2 : e ≤ d.2) : (dampedR s d).1 ≤ v * (1000 + e) ∧ v * (1000 + e) ≤ (dampedR s d).2 := by
  have a1 : 0 ≤ s.1 → s.1 * (1000 + d.1) ≤ v * (1000 + e) := fun h => mul_mono h h1 (by omega) (by omega)
  have a2 : s.1 ≤ 0 → s.1 * (1000 + d.2) ≤ v * (1000 + e) := fun h => by
    have b1 : s.1 * (1000 + d.2) ≤ s.1 * (1000 + e) := Int.mul_le_mul_of_nonpos_left h (by omega)
    have b2 : s.1 * (1000 + e) ≤ v * (1000 + e) := Int.mul_le_mul_of_nonneg_right h1 (by omega)
    omega
  have a3 : 0 ≤ s.2 → v * (1000 + e) ≤ s.2 * (1000 + d.2) := fun h => by
    have b1 : s.2 * (1000 + e) ≤ s.2 * (1000 + d.2) := Int.mul_le_mul_of_nonneg_left (by omega) h
    have b2 : v * (1000 + e) ≤ s.2 * (1000 + e) := Int.mul_le_mul_of_nonneg_right h2 (by omega)
    omega
  have a4 : s.2 ≤ 0 → v * (1000 + e) ≤ s.2 * (1000 + d.1) := fun h => by
    have b1 : s.2 * (1000 + e) ≤ s.2 * (1000 + d.1) := Int.mul_le_mul_of_nonpos_left h (by omega)
    have b2 : v * (1000 + e) ≤ s.2 * (1000 + e) := Int.mul_le_mul_of_nonneg_right h2 (by omega)
    omega
  unfold dampedR
  rw [Int.add_comm d.1 1000, Int.add_comm d.2 1000]
  simp only
  constructor
  · rcases Int.le_total 0 s.1 with h | h
    · have := a1 h; omega
    · have := a2 h; omega
  · rcases Int.le_total 0 s.2 with h | h
    · have := a3 h; omega
    · have := a4 h; omega

theorem round_mem {s : Int × Int} {x : Int} (h : s.1 ≤ x ∧ x ≤ s.2) : 1000 * (roundedR s).1 ≤ x ∧ x ≤ 1000 * (roundedR s).2 := by
  unfold roundedR
  simp only
  omega

theorem full_good {s : Int × Int} {lo hi : Int} {d : Int × Int} {v e : Int} (hs : s.1 ≤ s.2) (hl : lo ≤ 0) (hh : 0 ≤ hi) (hd : 0 ≤ d.1) (h1 : s.1 ≤ v) (h2 : v ≤ s.2) (e1 : d.1 ≤ e) (e2 : e ≤ d.2) (hf : verdictR s lo hi d = 2) : 1000 * lo ≤ v * (1000 + e) ∧ v * (1000 + e) ≤ 1000 * hi := by
  obtain ⟨f1, f2⟩ := (verdict_full hs hl hh hd (by omega)).1 hf
  have a1 : 0 ≤ v → 0 ≤ v * (1000 + e) := fun h => Int.mul_nonneg h (by omega)
  have a2 : v ≤ 0 → v * (1000 + d.2) ≤ v * (1000 + e) := fun h => Int.mul_le_mul_of_nonpos_left h (by omega)
  have a3 : s.1 * (1000 + d.2) ≤ v * (1000 + d.2) := Int.mul_le_mul_of_nonneg_right h1 (by omega)
  have b1 : v ≤ 0 → 0 ≤ -v * (1000 + e) := fun h => Int.mul_nonneg (by omega) (by omega)
  have b2 : 0 ≤ v → v * (1000 + e) ≤ v * (1000 + d.2) := fun h => Int.mul_le_mul_of_nonneg_left (by omega) h
  have b3 : v * (1000 + d.2) ≤ s.2 * (1000 + d.2) := Int.mul_le_mul_of_nonneg_right h2 (by omega)
  rw [Int.neg_mul] at b1
  constructor
  · rcases Int.le_total 0 v with h | h
    · have := a1 h; omega
    · have := a2 h; omega
  · rcases Int.le_total 0 v with h | h
    · have := b2 h; omega
    · have := b1 h; omega

theorem zero_bad {s : Int × Int} {lo hi : Int} {d : Int × Int} {v e : Int} (hs : s.1 ≤ s.2) (hl : lo ≤ 0) (hh : 0 ≤ hi) (hd : 0 ≤ d.1) (h1 : s.1 ≤ v) (h2 : v ≤ s.2) (e1 : d.1 ≤ e) (e2 : e ≤ d.2) (hf : verdictR s lo hi d = 0) : ¬ (1000 * lo ≤ v * (1000 + e) ∧ v * (1000 + e) ≤ 1000 * hi) := by
  rintro ⟨g1, g2⟩
  refine none_good hs hl hh hd ((verdict_zero hs hl hh hd (by omega)).1 hf) h1 h2 ?_
  have a1 : 0 ≤ v → 0 ≤ v * (1000 + d.1) := fun h => Int.mul_nonneg h (by omega)
  have a2 : 0 ≤ v → v * (1000 + d.1) ≤ v * (1000 + e) := fun h => Int.mul_le_mul_of_nonneg_left (by omega) h
  have a3 : v ≤ 0 → v * (1000 + e) ≤ v * (1000 + d.1) := fun h => Int.mul_le_mul_of_nonpos_left h (by omega)
  have a4 : v ≤ 0 → 0 ≤ -v * (1000 + d.1) := fun h => Int.mul_nonneg (by omega) (by omega)
  rw [Int.neg_mul] at a4
  constructor
  · rcases Int.le_total 0 v with h | h
    · have := a1 h; omega
    · have := a3 h; omega
  · rcases Int.le_total 0 v with h | h
    · have := a2 h; omega
    · have := a4 h; omega

/-- Whether a tab and a hole truly fit that differ by so much, times 1000. -/
def goodX (p : Ply) (x y z : Int) : Bool := (decide (x ≤ 1000 * p.slack) && decide (-1000 * p.slack ≤ x)) && decide (0 ≤ y) && decide (y ≤ 1000 * p.loose) && decide (0 ≤ z) && decide (z ≤ 1000 * p.loose)
/-- A truth. -/
def TrueOf (p : Ply) (t u : Edg) (x y z : Int) : Prop :=
  ∃ e a b c, p.damp.1 ≤ e ∧ e ≤ p.damp.2 ∧ (offR t u p.len).1 ≤ a ∧ a ≤ (offR t u p.len).2 ∧ (wideR t u).1 ≤ b ∧ b ≤ (wideR t u).2 ∧ (deepR t u).1 ≤ c ∧ c ≤ (deepR t u).2 ∧ x = a * (1000 + e) ∧ y = b * (1000 + e) ∧ z = c * (1000 + e)

theorem goodX_iff {p : Ply} {x y z : Int} : goodX p x y z = true ↔ (1000 * -p.slack ≤ x ∧ x ≤ 1000 * p.slack) ∧ (1000 * 0 ≤ y ∧ y ≤ 1000 * p.loose) ∧ (1000 * 0 ≤ z ∧ z ≤ 1000 * p.loose) := by
  unfold goodX
  simp only [Bool.and_eq_true, decide_eq_true_eq]
  omega

structure TruthOk (p : Ply) (t u : Edg) (N x y z : Int) : Prop where
  two : N = 2 → goodX p x y z = true
  zero : N = 0 → goodX p x y z = false
  x1 : 1000 * (roundedR (dampedR (offR t u p.len) p.damp)).1 ≤ x
  x2 : x ≤ 1000 * (roundedR (dampedR (offR t u p.len) p.damp)).2
  y1 : 1000 * (roundedR (dampedR (wideR t u) p.damp)).1 ≤ y
  y2 : y ≤ 1000 * (roundedR (dampedR (wideR t u) p.damp)).2
  z1 : 1000 * (roundedR (dampedR (deepR t u) p.damp)).1 ≤ z
  z2 : z ≤ 1000 * (roundedR (dampedR (deepR t u) p.damp)).2

theorem truth_ok {p : Ply} {t u : Edg} {x y z : Int} (hp : playB p = true) (ot : Ordered t) (ou : Ordered u) (h : TrueOf p t u x y z) : TruthOk p t u (least3 (v1R p t u) (v2R p t u) (v3R p t u)) x y z := by
  obtain ⟨_, ⟨s0, _⟩, ⟨o0, _⟩, f0, f1, _⟩ := play_facts hp
  obtain ⟨q1, q2, q3⟩ := differ_ordered ot ou p.len
  obtain ⟨e, a, b, c, e1, e2, a1, a2, b1, b2, c1, c2, rfl, rfl, rfl⟩ := h
  have m1 := round_mem (damp_mem a1 a2 f0 e1 e2)
  have m2 := round_mem (damp_mem b1 b2 f0 e1 e2)
  have m3 := round_mem (damp_mem c1 c2 f0 e1 e2)
  refine ⟨fun h => ?_, fun h => ?_, m1.1, m1.2, m2.1, m2.2, m3.1, m3.2⟩
  · rw [least3_two] at h
    obtain ⟨h1, h2, h3⟩ := h
    rw [goodX_iff]
    exact ⟨full_good q1 (by omega) s0 f0 a1 a2 e1 e2 h1, full_good q2 (by omega) o0 f0 b1 b2 e1 e2 h2, full_good q3 (by omega) o0 f0 c1 c2 e1 e2 h3⟩
  · rw [least3_zero] at h
    rw [Bool.eq_false_iff]
    intro hg
    rw [goodX_iff] at hg
    rcases h with h | h | h
    · exact zero_bad q1 (by omega) s0 f0 a1 a2 e1 e2 h hg.1
    · exact zero_bad q2 (by omega) o0 f0 b1 b2 e1 e2 h hg.2.1
    · exact zero_bad q3 (by omega) o0 f0 c1 c2 e1 e2 h hg.2.2
theorem worn_mem_tab {s : Edg} {r : Int × Int} {n v k : Int} (hk : s.k = 1) (h1 : s.w.1 ≤ v) (h2 : v ≤ s.w.2) (k1 : r.1 ≤ k) (k2 : k ≤ r.2) (hn : 0 ≤ n) : 1000 * (wornR s r n).w.1 ≤ 1000 * v - k * n ∧ 1000 * v - k * n ≤ 1000 * (wornR s r n).w.2 := by
  have a1 : k * n ≤ r.2 * n := Int.mul_le_mul_of_nonneg_right k2 hn
  have a2 : r.1 * n ≤ k * n := Int.mul_le_mul_of_nonneg_right k1 hn
  refine round_mem (s := wornT s r n) ?_
  unfold wornT
  rw [if_pos hk]
  unfold lessR timesR
  simp only
  omega
theorem worn_mem_hole {s : Edg} {r : Int × Int} {n v k : Int} (hk : s.k = 2) (h1 : s.w.1 ≤ v) (h2 : v ≤ s.w.2) (k1 : r.1 ≤ k) (k2 : k ≤ r.2) (hn : 0 ≤ n) : 1000 * (wornR s r n).w.1 ≤ 1000 * v + k * n ∧ 1000 * v + k * n ≤ 1000 * (wornR s r n).w.2 := by
  have a1 : k * n ≤ r.2 * n := Int.mul_le_mul_of_nonneg_right k2 hn
  have a2 : r.1 * n ≤ k * n := Int.mul_le_mul_of_nonneg_right k1 hn
  refine round_mem (s := wornT s r n) ?_
  unfold wornT
  rw [if_neg (by omega)]
  unfold plusR timesR
  simp only
  omega
end Go.Proofs.Ytnjbamikfjdofaa

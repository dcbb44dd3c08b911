/- TopBlade: what its awake yields; the mathematics of a blade that cuts a tab and a hole. -/
import Derived.Test.YtnplhlcifagimaaFit
import Derived.Test.YtnplhlcifagimaaRuH
import Derived.Test.YtnplhlcifagimaaRxC
set_option linter.unusedSimpArgs false
set_option linter.unusedVariables false
namespace Go.Proofs.Ytnplhlcifagimaa
open Go.RowKit Go.Shelf

theorem info24 : (Try.prog.info? 24).map (·.size) = some 4 := by kernel_rfl
theorem info29 : (Try.prog.info? 29).map (·.size) = some 2 := by kernel_rfl
theorem info34 : (Try.prog.info? 34).map (·.size) = some 5 := by kernel_rfl
theorem info36 : (Try.prog.info? 36).map (·.size) = some 7 := by kernel_rfl
@[reducible] def dieA : Dye := ⟨[⟨(0, 5), (2, 3)⟩], 40, 10, 3⟩
theorem awOff : offE dieA 0 10 = ((20, 35), 0) := by decide
theorem awLasts : lastsE dieA 0 40 = ((11, 20), 0) := by decide
theorem awFit : fitE ⟨2000, 20, 30, (0, 10)⟩ ⟨1, (995, 1005), (500, 510), (400, 405)⟩ ⟨2, (990, 1000), (515, 520), (410, 420)⟩ = (2, 0) := by decide

/-- A tab and a hole that are exact but for their width. -/
theorem fit_exact {slack loose dm a b lo hi : Int} (h1 : 0 ≤ slack) (hd : 0 ≤ dm) (h0 : 0 ≤ loose) {t1 t2 u1 u2 : Int} (hl : u1 - t2 = lo) (hh : u2 - t1 = hi) (hlo : 0 ≤ lo) (hle : lo ≤ hi) :
    fitR ⟨2000, slack, loose, (0, dm)⟩ ⟨1, (1000, 1000), (t1, t2), (400, 400)⟩ ⟨2, (1000, 1000), (u1, u2), (400, 400)⟩ = 2 ↔ hi * (1000 + dm) ≤ 1000 * loose := by
  have e : orderedR ⟨1, (1000, 1000), (t1, t2), (400, 400)⟩ ⟨2, (1000, 1000), (u1, u2), (400, 400)⟩ = ((⟨1, (1000, 1000), (t1, t2), (400, 400)⟩, ⟨2, (1000, 1000), (u1, u2), (400, 400)⟩), true) := rfl
  unfold fitR
  rw [e]
  simp only [if_true]
  have v1 : v1R ⟨2000, slack, loose, (0, dm)⟩ ⟨1, (1000, 1000), (t1, t2), (400, 400)⟩ ⟨2, (1000, 1000), (u1, u2), (400, 400)⟩ = 2 := by
    unfold v1R verdictR
    rw [if_pos]
    simp [offR, lessR, plusR, dampedR, withinB]
    omega
  have v3 : v3R ⟨2000, slack, loose, (0, dm)⟩ ⟨1, (1000, 1000), (t1, t2), (400, 400)⟩ ⟨2, (1000, 1000), (u1, u2), (400, 400)⟩ = 2 := by
    unfold v3R verdictR
    rw [if_pos]
    simp [deepR, lessR, dampedR, withinB]
    omega
  rw [v1, v3]
  have hA : lo * (0 + 1000) ≤ lo * (dm + 1000) := Int.mul_le_mul_of_nonneg_left (by omega) hlo
  have hB : hi * (0 + 1000) ≤ hi * (dm + 1000) := Int.mul_le_mul_of_nonneg_left (by omega) (by omega)
  have hC : lo * (0 + 1000) ≤ hi * (0 + 1000) := Int.mul_le_mul_of_nonneg_right hle (by omega)
  have hD : 0 ≤ lo * (0 + 1000) := Int.mul_nonneg hlo (by omega)
  have hE : hi * (dm + 1000) = hi * (1000 + dm) := by rw [Int.add_comm]
  have v2 : v2R ⟨2000, slack, loose, (0, dm)⟩ ⟨1, (1000, 1000), (t1, t2), (400, 400)⟩ ⟨2, (1000, 1000), (u1, u2), (400, 400)⟩ = 2 ↔ hi * (1000 + dm) ≤ 1000 * loose := by
    unfold v2R verdictR
    simp only [wideR, lessR, hl, hh, dampedR, withinB, Bool.and_eq_true, decide_eq_true_eq]
    constructor
    · intro h
      split at h
      · rename_i hc
        omega
      · split at h <;> cases h
    · intro h
      rw [if_pos]
      refine ⟨⟨?_, ?_⟩, ?_⟩
      · omega
      · omega
      · omega
  rw [← v2]
  rcases verdictR_of (wideR ⟨1, (1000, 1000), (t1, t2), (400, 400)⟩ ⟨2, (1000, 1000), (u1, u2), (400, 400)⟩) 0 loose (0, dm) with h | h | h
  all_goals
    have h' : v2R ⟨2000, slack, loose, (0, dm)⟩ ⟨1, (1000, 1000), (t1, t2), (400, 400)⟩ ⟨2, (1000, 1000), (u1, u2), (400, 400)⟩ = _ := h
    rw [h']
    simp [least3]
/-- What may lie between them at most. -/
theorem most_iff {hi loose dm : Int} (hd : 0 ≤ dm) (h0 : 0 ≤ loose) : hi * (1000 + dm) ≤ 1000 * loose ↔ hi ≤ Int.tdiv (1000 * loose) (1000 + dm) := by
  rw [Int.tdiv_eq_ediv_of_nonneg (by omega), Int.le_ediv_iff_mul_le (by omega)]
/-- A blade is off by no more than a bound just up to where it lasts. -/
theorem lasts_iff {a c bound n : Int} (hc : 0 ≤ c) (ha : a ≤ bound) (hn0 : 0 ≤ n) (hn : n ≤ 7000) : a + n * c ≤ bound ↔ n ≤ lastR a c bound := by
  obtain ⟨h0, h1, h2, h3⟩ := lastR_is hc ha
  constructor
  · intro h
    rcases h3 with h3 | h3
    · omega
    · rcases Int.lt_or_le (lastR a c bound) n with hlt | hle
      · have := Int.mul_le_mul_of_nonneg_right (show lastR a c bound + 1 ≤ n by omega) hc
        omega
      · exact hle
  · intro h
    have := Int.mul_le_mul_of_nonneg_right h hc
    omega
end Go.Proofs.Ytnplhlcifagimaa

/- In how many parts the cells of each piece are: counted by the floods that had to begin. -/
import Derived.Test.YtogalmkeipigeaaFlood
set_option linter.unusedSimpArgs false
set_option linter.unusedVariables false
namespace Go.Proofs.Ytogalmkeipigeaa
variable {g : Int × Int → Option Int} {W H : Nat}

/-- The cells at which a flood began, one in each part. -/
structure Reps (g : Int × Int → Option Int) (W H : Nat) (reps : List (Int × Int)) : Prop where
  ins : ∀ c ∈ reps, inPic W H c
  apart : reps.Pairwise (fun c d => ¬ Conn g c d)

def repsOf (g : Int × Int → Option Int) (reps : List (Int × Int)) (n : Int) : Nat := (reps.filter (fun c => decide (atG g c = n))).length

structure Parting (g : Int × Int → Option Int) (W H : Nat) (pre : List (Int × Int)) (R : Nat → Bool) (f : Nat → Int) (reps : List (Int × Int)) : Prop extends Reps g W H reps where
  seen : ∀ c ∈ pre, R (idx c) = true
  iff : ∀ p, inPic W H p → (R (idx p) = true ↔ ∃ c ∈ reps, Conn g c p)
  count : ∀ n, n < 40 → f n = (repsOf g reps (n : Int) : Int)
  few : reps.length ≤ pre.length

theorem Parting.begin : Parting g W H [] (fun _ => false) (fun _ => 0) [] where
  ins c h := by cases h
  apart := List.Pairwise.nil
  seen c h := by cases h
  iff p _ := by simp
  count n _ := by simp [repsOf]
  few := Nat.le_refl _

theorem Parting.skip {pre : List (Int × Int)} {R : Nat → Bool} {f : Nat → Int} {reps : List (Int × Int)} (h : Parting g W H pre R f reps) {c : Int × Int} (hc : R (idx c) = true) : Parting g W H (pre ++ [c]) R f reps where
  ins := h.ins
  apart := h.apart
  seen d hd := by
    rcases List.mem_append.1 hd with hd | hd
    · exact h.seen d hd
    · have : d = c := by simpa using hd
      subst this; exact hc
  iff := h.iff
  count := h.count
  few := Nat.le_trans h.few (by simp)

theorem Parting.le {pre : List (Int × Int)} {R : Nat → Bool} {f : Nat → Int} {reps : List (Int × Int)} (h : Parting g W H pre R f reps) {n : Nat} (hn : n < 40) : 0 ≤ f n ∧ f n ≤ pre.length := by
  rw [h.count n hn]
  have : repsOf g reps (n : Int) ≤ reps.length := List.length_filter_le _ _
  have := h.few
  omega

theorem Parting.more (G : Grid g W H) {pre : List (Int × Int)} {R R' : Nat → Bool} {f : Nat → Int} {reps : List (Int × Int)} (h : Parting g W H pre R f reps) {c : Int × Int} (hin : inPic W H c) (hc : R (idx c) = false) (k : Flood g W H R c R')
    {m : Nat} (hm : atG g c = (m : Int)) : Parting g W H (pre ++ [c]) R' (fun n => if n = m then f m + 1 else f n) (reps ++ [c]) where
  ins d hd := by
    rcases List.mem_append.1 hd with hd | hd
    · exact h.ins d hd
    · have : d = c := by simpa using hd
      subst this; exact hin
  apart := by
    refine List.pairwise_append.2 ⟨h.apart, by simp, fun a ha b hb hab => ?_⟩
    have : b = c := by simpa using hb
    subst this
    have := (h.iff b hin).2 ⟨a, ha, hab⟩
    rw [hc] at this; cases this
  seen d hd := by
    rcases List.mem_append.1 hd with hd | hd
    · exact k.more _ (h.seen d hd)
    · have : d = c := by simpa using hd
      subst this; exact k.own
  iff p hp := by
    constructor
    · intro hr
      rcases k.conn p hp hr with h1 | h1
      · obtain ⟨d, hd, hdp⟩ := (h.iff p hp).1 h1
        exact ⟨d, List.mem_append.2 (.inl hd), hdp⟩
      · exact ⟨c, by simp, h1⟩
    · rintro ⟨d, hd, hdp⟩
      rcases List.mem_append.1 hd with hd | hd
      · exact k.more _ ((h.iff p hp).2 ⟨d, hd, hdp⟩)
      · have : d = c := by simpa using hd
        subst this
        clear hd hp
        -- along the way from d to p
        induction hdp with
        | refl => exact k.own
        | step hq hr he ih =>
          rename_i q r
          have hqin := hq.inPic G hin
          cases hRq : R (idx q) with
          | true =>
            obtain ⟨e, he', hec⟩ := (h.iff q hqin).1 hRq
            have := (h.iff d hin).2 ⟨e, he', hec.trans hq.symm⟩
            rw [hc] at this; cases this
          | false => exact k.closed q hqin ih hRq r hr he
  count n hn := by
    have h1 := h.count n hn
    unfold repsOf at *
    rw [List.filter_append, List.length_append]
    by_cases e : n = m
    · subst e
      simp [hm, h1]
    · have e' : ¬ ((m : Int) = (n : Int)) := fun h => e (Int.ofNat.inj h).symm
      simp [e, hm, e', h1]
  few := by simp; exact h.few

/-- In how many parts the cells of each number are. -/
def PartsOf (g : Int × Int → Option Int) (W H : Nat) (f : Nat → Int) : Prop :=
  ∃ reps, Reps g W H reps ∧ (∀ p, inPic W H p → ∃ c ∈ reps, Conn g c p) ∧ ∀ n, n < 40 → f n = (repsOf g reps (n : Int) : Int)

theorem cellsL_in {W H : Nat} {p : Int × Int} (h : p ∈ cellsL 0 0 W H) : inPic W H p := cellsL_mem h
theorem cellsL_all {W H : Nat} {p : Int × Int} (h : inPic W H p) : p ∈ cellsL 0 0 W H := by
  obtain ⟨x, y⟩ := p
  obtain ⟨h1, h2, h3, h4⟩ := h
  simp only at h1 h2 h3 h4
  obtain ⟨x, rfl⟩ := Int.eq_ofNat_of_zero_le h1
  obtain ⟨y, rfl⟩ := Int.eq_ofNat_of_zero_le h3
  have hx : x < W := by omega
  have hy : y < H := by omega
  simp only [cellsL, List.mem_map, List.mem_range, Nat.sub_zero, Nat.zero_add]
  refine ⟨y * W + x, ?_, ?_⟩
  · have : (y + 1) * W ≤ H * W := Nat.mul_le_mul_right _ hy
    rw [Nat.succ_mul] at this
    omega
  · have e1 : (y * W + x) % W = x := by rw [Nat.mul_comm, Nat.mul_add_mod]; exact Nat.mod_eq_of_lt hx
    have e2 : (y * W + x) / W = y := by rw [Nat.mul_comm, Nat.mul_add_div (by omega), Nat.div_eq_of_lt hx]; rfl
    rw [e1, e2]

theorem Parting.finish {R : Nat → Bool} {f : Nat → Int} {reps : List (Int × Int)} (h : Parting g W H (cellsL 0 0 W H) R f reps) : PartsOf g W H f :=
  ⟨reps, h.toReps, fun p hp => (h.iff p hp).1 (h.seen p (cellsL_all hp)), h.count⟩

/-- No part: no cell. -/
theorem PartsOf.none (G : Grid g W H) {f : Nat → Int} (h : PartsOf g W H f) {n : Nat} (hn : n < 40) : f n = 0 ↔ ∀ p, inPic W H p → atG g p ≠ (n : Int) := by
  obtain ⟨reps, hr, hall, hc⟩ := h
  rw [hc n hn]
  unfold repsOf
  constructor
  · intro h0 p hp hpn
    obtain ⟨c, hcr, hcp⟩ := hall p hp
    have : c ∈ reps.filter (fun c => decide (atG g c = (n : Int))) := List.mem_filter.2 ⟨hcr, by simpa using hcp.at.symm.trans hpn⟩
    have hz : (reps.filter (fun c => decide (atG g c = (n : Int)))).length = 0 := by omega
    rw [List.length_eq_zero_iff.1 hz] at this
    cases this
  · intro h0
    have : reps.filter (fun c => decide (atG g c = (n : Int))) = [] := List.filter_eq_nil_iff.2 (fun c hc' => by simpa using h0 c (hr.ins c hc'))
    rw [this]; rfl

/-- More than one part: two cells that do not hang together. -/
theorem PartsOf.one (G : Grid g W H) {f : Nat → Int} (h : PartsOf g W H f) {n : Nat} (hn : n < 40) : 1 < f n ↔ ∃ p q, inPic W H p ∧ inPic W H q ∧ atG g p = (n : Int) ∧ atG g q = (n : Int) ∧ ¬ Conn g p q := by
  obtain ⟨reps, hr, hall, hc⟩ := h
  rw [hc n hn]
  unfold repsOf
  constructor
  · intro h1
    have hp := hr.apart.filter (fun c => decide (atG g c = (n : Int)))
    have hmem : ∀ c ∈ reps.filter (fun c => decide (atG g c = (n : Int))), c ∈ reps ∧ atG g c = (n : Int) := fun c hc' => by
      have := List.mem_filter.1 hc'
      exact ⟨this.1, by simpa using this.2⟩
    revert hp hmem h1
    generalize reps.filter (fun c => decide (atG g c = (n : Int))) = l
    intro h1 hp hmem
    match l, h1, hp, hmem with
    | a :: b :: r, _, hp, hmem =>
      have ha := hmem a (by simp)
      have hb := hmem b (by simp)
      exact ⟨a, b, hr.ins a ha.1, hr.ins b hb.1, ha.2, hb.2, (List.pairwise_cons.1 hp).1 b (by simp)⟩
    | [a], h1, _, _ => simp at h1
    | [], h1, _, _ => simp at h1
  · rintro ⟨p, q, hp, hq, hpn, hqn, hno⟩
    obtain ⟨c, hcr, hcp⟩ := hall p hp
    obtain ⟨d, hdr, hdq⟩ := hall q hq
    have hcd : c ≠ d := fun e => hno (hcp.symm.trans (e ▸ hdq))
    have hc1 : c ∈ reps.filter (fun c => decide (atG g c = (n : Int))) := List.mem_filter.2 ⟨hcr, by simpa using hcp.at.symm.trans hpn⟩
    have hd1 : d ∈ reps.filter (fun c => decide (atG g c = (n : Int))) := List.mem_filter.2 ⟨hdr, by simpa using hdq.at.symm.trans hqn⟩
    revert hc1 hd1
    generalize reps.filter (fun c => decide (atG g c = (n : Int))) = l
    intro hc1 hd1
    match l, hc1, hd1 with
    | [a], hc1, hd1 =>
      have e1 : c = a := by simpa using hc1
      have e2 : d = a := by simpa using hd1
      exact absurd (e1.trans e2.symm) hcd
    | a :: b :: r, _, _ => simp only [List.length_cons]; omega
end Go.Proofs.Ytogalmkeipigeaa

/- What is so of two sides whatever their order, with more slack, with looser sides, with less damp and with narrower spans. -/
import Derived.Test.YtnjbamikfjdofaaRefD
import Derived.Test.YtnjbamikfjdofaaLastM
set_option linter.unusedSimpArgs false
set_option linter.unusedVariables false
namespace Go.Proofs.Ytnjbamikfjdofaa
open Go.RowKit

theorem ordered_swap {a b : Edg} : (orderedR b a).2 = (orderedR a b).2 ∧ ((orderedR a b).2 = true → (orderedR b a).1 = (orderedR a b).1) := by
  unfold orderedR
  by_cases h1 : a.k = 2 <;> by_cases h2 : b.k = 2
  · rw [if_pos h1, if_pos h2, h1, h2]
    exact ⟨rfl, fun h => by cases h⟩
  · rw [if_neg h2, if_pos h1, h1]
    exact ⟨by simp, fun _ => rfl⟩
  · rw [if_pos h2, if_neg h1, h2]
    exact ⟨by simp, fun _ => rfl⟩
  · rw [if_neg h1, if_neg h2]
    have e1 : (a.k == 2) = false := by simpa using h1
    have e2 : (b.k == 2) = false := by simpa using h2
    rw [e1, e2, Bool.and_false, Bool.and_false]
    exact ⟨rfl, fun h => by cases h⟩

theorem fitR_of {p : Ply} {a b : Edg} : fitR p a b = if (orderedR a b).2 then least3 (v1R p (orderedR a b).1.1 (orderedR a b).1.2) (v2R p (orderedR a b).1.1 (orderedR a b).1.2) (v3R p (orderedR a b).1.1 (orderedR a b).1.2) else 0 := rfl

theorem fitR_swap (p : Ply) (a b : Edg) : fitR p b a = fitR p a b := by
  obtain ⟨h1, h2⟩ := @ordered_swap a b
  rw [fitR_of, fitR_of, h1]
  cases h : (orderedR a b).2 with
  | false => rfl
  | true => rw [h2 h]
theorem fitE_swap (p : Ply) (a b : Edg) : fitE p b a = fitE p a b := by
  unfold fitE
  rw [fitR_swap p a b, Bool.and_comm (sideB b)]
theorem betweenE_swap (p : Ply) (a b : Edg) : betweenE p b a = betweenE p a b := by
  obtain ⟨h1, h2⟩ := @ordered_swap a b
  unfold betweenE
  rw [h1, Bool.and_comm (sideB b)]
  cases h : (orderedR a b).2 with
  | false => simp only [Bool.false_eq_true, if_false]
  | true => rw [h2 h]
theorem lastE_swap (p : Ply) (a b : Edg) (r : Int × Int) : lastE p b a r = lastE p a b r := by
  obtain ⟨h1, h2⟩ := @ordered_swap a b
  unfold lastE
  rw [h1, Bool.and_comm (sideB b)]
  cases h : (orderedR a b).2 with
  | false => simp only [Bool.false_eq_true, if_false]
  | true => rw [h2 h]

theorem least3_zero {a b c : Int} : least3 a b c = 0 ↔ a = 0 ∨ b = 0 ∨ c = 0 := by
  unfold least3
  split
  · rename_i h; simp [h]
  · rename_i h
    split <;> simp [h]

theorem verdict_zero {s : Int × Int} {lo hi : Int} {d : Int × Int} (hs : s.1 ≤ s.2) (hl : lo ≤ 0) (hh : 0 ≤ hi) (hd : 0 ≤ d.1) (hd2 : d.1 ≤ d.2) : verdictR s lo hi d = 0 ↔ ¬ goodN lo hi d.1 (nearR s) := by
  rw [verdict_all hs hl hh hd hd2, ← someB_iff]
  cases h1 : allB s lo hi d with
  | true => simp [some_of_all hs hl hh hd hd2 h1]
  | false => cases h2 : someB s lo hi d <;> simp
theorem verdict_full {s : Int × Int} {lo hi : Int} {d : Int × Int} (hs : s.1 ≤ s.2) (hl : lo ≤ 0) (hh : 0 ≤ hi) (hd : 0 ≤ d.1) (hd2 : d.1 ≤ d.2) : verdictR s lo hi d = 2 ↔ 1000 * lo ≤ s.1 * (1000 + d.2) ∧ s.2 * (1000 + d.2) ≤ 1000 * hi := by
  rw [verdict_all hs hl hh hd hd2]
  have e : allB s lo hi d = true ↔ 1000 * lo ≤ s.1 * (1000 + d.2) ∧ s.2 * (1000 + d.2) ≤ 1000 * hi := by simp [allB]
  rw [← e]
  cases h1 : allB s lo hi d with
  | true => simp
  | false => cases h2 : someB s lo hi d <;> simp

/-- With narrower spans, wider bounds and less damp. -/
theorem full_mono {s s' : Int × Int} {lo hi lo' hi' : Int} {d d' : Int × Int} (hs' : s'.1 ≤ s'.2) (i1 : s.1 ≤ s'.1) (i2 : s'.2 ≤ s.2) (hl : lo ≤ 0) (hh : 0 ≤ hi) (j1 : lo' ≤ lo) (j2 : hi ≤ hi') (hd : 0 ≤ d'.1) (hd2 : d'.1 ≤ d'.2) (k1 : d'.2 ≤ d.2) (e1 : d.1 ≤ d.2) (e0 : 0 ≤ d.1)
    (h : verdictR s lo hi d = 2) : verdictR s' lo' hi' d' = 2 := by
  rw [verdict_full (by omega) hl hh e0 e1] at h
  rw [verdict_full hs' (by omega) (by omega) hd hd2]
  obtain ⟨h1, h2⟩ := h
  constructor
  · rcases Int.lt_or_le s'.1 0 with hn | hn
    · have a1 := Int.mul_le_mul_of_nonneg_right i1 (show 0 ≤ 1000 + d.2 by omega)
      have a2 := Int.mul_le_mul_of_nonneg_left (show 1000 + d'.2 ≤ 1000 + d.2 by omega) (show 0 ≤ -s'.1 by omega)
      rw [Int.neg_mul, Int.neg_mul] at a2
      omega
    · have := Int.mul_nonneg hn (show 0 ≤ 1000 + d'.2 by omega)
      omega
  · rcases Int.lt_or_le 0 s'.2 with hn | hn
    · have a1 := Int.mul_le_mul_of_nonneg_right i2 (show 0 ≤ 1000 + d.2 by omega)
      have a2 := Int.mul_le_mul_of_nonneg_left (show 1000 + d'.2 ≤ 1000 + d.2 by omega) (show 0 ≤ s'.2 by omega)
      omega
    · have := Int.mul_nonneg (show 0 ≤ -s'.2 by omega) (show 0 ≤ 1000 + d'.2 by omega)
      rw [Int.neg_mul] at this
      omega
theorem near_mem {s : Int × Int} (hs : s.1 ≤ s.2) : s.1 ≤ nearR s ∧ nearR s ≤ s.2 := by
  unfold nearR; omega
/-- What never fits does not with narrower spans either. -/
theorem zero_mono {s s' : Int × Int} {lo hi : Int} {d : Int × Int} (hs : s.1 ≤ s.2) (hs' : s'.1 ≤ s'.2) (i1 : s.1 ≤ s'.1) (i2 : s'.2 ≤ s.2) (hl : lo ≤ 0) (hh : 0 ≤ hi) (hd : 0 ≤ d.1) (hd2 : d.1 ≤ d.2)
    (h : verdictR s lo hi d = 0) : verdictR s' lo hi d = 0 := by
  rw [verdict_zero hs hl hh hd hd2] at h
  rw [verdict_zero hs' hl hh hd hd2]
  have := near_mem hs'
  exact none_good hs hl hh hd h (by omega) (by omega)
/-- What may fit may with wider bounds. -/
theorem some_mono {s : Int × Int} {lo hi lo' hi' : Int} {d : Int × Int} (hs : s.1 ≤ s.2) (hl : lo ≤ 0) (hh : 0 ≤ hi) (j1 : lo' ≤ lo) (j2 : hi ≤ hi') (hd : 0 ≤ d.1) (hd2 : d.1 ≤ d.2)
    (h : verdictR s lo' hi' d = 0) : verdictR s lo hi d = 0 := by
  rw [verdict_zero hs (by omega) (by omega) hd hd2] at h
  rw [verdict_zero hs hl hh hd hd2]
  rintro ⟨g1, g2⟩
  exact h ⟨by omega, by omega⟩

/-- What is allowed is at least as much, with the same damp or less. -/
structure Laxer (p q : Ply) : Prop where
  l : q.len = p.len
  s : p.slack ≤ q.slack
  o : p.loose ≤ q.loose
  d1 : q.damp.1 = p.damp.1
  d2 : q.damp.2 ≤ p.damp.2

theorem fit_laxer {p q : Ply} {a b : Edg} (hp : playB p = true) (hq : playB q = true) (ha : sideB a = true) (hb : sideB b = true) (h : Laxer p q) (hf : fitR p a b = 2) : fitR q a b = 2 := by
  rw [fitR_of] at hf ⊢
  cases ho : (orderedR a b).2 with
  | false => rw [ho] at hf; cases hf
  | true =>
    rw [ho, if_pos rfl, least3_two] at hf
    rw [if_pos rfl, least3_two]
    obtain ⟨kt, kh⟩ := ordered_kinds ho
    obtain ⟨st, sh⟩ := ordered_sides ha hb
    have ot := side_ordered st (by omega)
    have oh := side_ordered sh (by omega)
    generalize (orderedR a b).1.1 = t at *
    generalize (orderedR a b).1.2 = u at *
    obtain ⟨_, ⟨s0, _⟩, ⟨o0, _⟩, e0, e1, _⟩ := play_facts hp
    obtain ⟨_, _, _, f0, f1, _⟩ := play_facts hq
    obtain ⟨hl, hs, hlo, hd1, hd2⟩ := h
    obtain ⟨x1, x2, x3⟩ := differ_ordered ot oh p.len
    obtain ⟨h1, h2, h3⟩ := hf
    refine ⟨?_, ?_, ?_⟩
    · unfold v1R at *
      rw [hl]
      exact full_mono x1 (Int.le_refl _) (Int.le_refl _) (by omega) s0 (by omega) hs f0 f1 hd2 e1 e0 h1
    · unfold v2R at *
      exact full_mono x2 (Int.le_refl _) (Int.le_refl _) (by omega) o0 (by omega) hlo f0 f1 hd2 e1 e0 h2
    · unfold v3R at *
      exact full_mono x3 (Int.le_refl _) (Int.le_refl _) (by omega) o0 (by omega) hlo f0 f1 hd2 e1 e0 h3
theorem may_laxer {p q : Ply} {a b : Edg} (hp : playB p = true) (hq : playB q = true) (ha : sideB a = true) (hb : sideB b = true) (h : Laxer p q) (he : q.damp = p.damp) (hf : fitR q a b = 0) : fitR p a b = 0 := by
  rw [fitR_of] at hf ⊢
  cases ho : (orderedR a b).2 with
  | false => rfl
  | true =>
    rw [ho, if_pos rfl, least3_zero] at hf
    rw [if_pos rfl, least3_zero]
    obtain ⟨kt, kh⟩ := ordered_kinds ho
    obtain ⟨st, sh⟩ := ordered_sides ha hb
    have ot := side_ordered st (by omega)
    have oh := side_ordered sh (by omega)
    generalize (orderedR a b).1.1 = t at *
    generalize (orderedR a b).1.2 = u at *
    obtain ⟨_, ⟨s0, _⟩, ⟨o0, _⟩, e0, e1, _⟩ := play_facts hp
    obtain ⟨hl, hs, hlo, hd1, hd2⟩ := h
    obtain ⟨x1, x2, x3⟩ := differ_ordered ot oh p.len
    unfold v1R v2R v3R at *
    rw [he, hl] at hf
    rcases hf with h1 | h2 | h3
    · exact .inl (some_mono x1 (by omega) s0 (by omega) hs e0 e1 h1)
    · exact .inr (.inl (some_mono x2 (by omega) o0 (by omega) hlo e0 e1 h2))
    · exact .inr (.inr (some_mono x3 (by omega) o0 (by omega) hlo e0 e1 h3))

/-- A side whose spans lie within those of another one. -/
structure Thin (a c : Edg) : Prop where
  k : c.k = a.k
  a1 : a.a.1 ≤ c.a.1
  a2 : c.a.2 ≤ a.a.2
  w1 : a.w.1 ≤ c.w.1
  w2 : c.w.2 ≤ a.w.2
  d1 : a.d.1 ≤ c.d.1
  d2 : c.d.2 ≤ a.d.2
theorem Thin.refl (a : Edg) : Thin a a := ⟨rfl, Int.le_refl _, Int.le_refl _, Int.le_refl _, Int.le_refl _, Int.le_refl _, Int.le_refl _⟩
theorem thin_ordered {a b c : Edg} (h : c.k = a.k) : (orderedR c b).2 = (orderedR a b).2 ∧ ((orderedR c b).1 = (b, c) ∧ (orderedR a b).1 = (b, a) ∨ (orderedR c b).1 = (c, b) ∧ (orderedR a b).1 = (a, b)) := by
  unfold orderedR
  rw [h]
  split
  · exact ⟨rfl, .inl ⟨rfl, rfl⟩⟩
  · exact ⟨rfl, .inr ⟨rfl, rfl⟩⟩
theorem fit_thin {p : Ply} {a b c : Edg} (hp : playB p = true) (ha : sideB a = true) (hb : sideB b = true) (hc : sideB c = true) (h : Thin a c) : (fitR p a b = 2 → fitR p c b = 2) ∧ (fitR p a b = 0 → fitR p c b = 0) := by
  rw [fitR_of, fitR_of]
  obtain ⟨e1, e2⟩ := thin_ordered (b := b) h.k
  rw [e1]
  cases ho : (orderedR a b).2 with
  | false => simp
  | true =>
    simp only [if_true]
    obtain ⟨kt, kh⟩ := ordered_kinds ho
    obtain ⟨kt', kh'⟩ := ordered_kinds (e1.trans ho)
    obtain ⟨st, sh⟩ := ordered_sides ha hb
    obtain ⟨st', sh'⟩ := ordered_sides hc hb
    have ot := side_ordered st (by omega)
    have oh := side_ordered sh (by omega)
    have ot' := side_ordered st' (by omega)
    have oh' := side_ordered sh' (by omega)
    have H : Thin (orderedR a b).1.1 (orderedR c b).1.1 ∧ Thin (orderedR a b).1.2 (orderedR c b).1.2 := by
      rcases e2 with ⟨e3, e4⟩ | ⟨e3, e4⟩
      · rw [e3, e4]; exact ⟨Thin.refl b, h⟩
      · rw [e3, e4]; exact ⟨h, Thin.refl b⟩
    obtain ⟨ht, hu⟩ := H
    generalize (orderedR a b).1.1 = t at *
    generalize (orderedR a b).1.2 = u at *
    generalize (orderedR c b).1.1 = t' at *
    generalize (orderedR c b).1.2 = u' at *
    obtain ⟨_, ⟨s0, _⟩, ⟨o0, _⟩, f0, f1, _⟩ := play_facts hp
    obtain ⟨x1, x2, x3⟩ := differ_ordered ot oh p.len
    obtain ⟨y1, y2, y3⟩ := differ_ordered ot' oh' p.len
    obtain ⟨_, ta1, ta2, tw1, tw2, td1, td2⟩ := ht
    obtain ⟨_, ua1, ua2, uw1, uw2, ud1, ud2⟩ := hu
    unfold v1R v2R v3R
    have i1 : (offR t u p.len).1 ≤ (offR t' u' p.len).1 ∧ (offR t' u' p.len).2 ≤ (offR t u p.len).2 := by simp only [offR, lessR, plusR]; omega
    have i2 : (wideR t u).1 ≤ (wideR t' u').1 ∧ (wideR t' u').2 ≤ (wideR t u).2 := by simp only [wideR, lessR]; omega
    have i3 : (deepR t u).1 ≤ (deepR t' u').1 ∧ (deepR t' u').2 ≤ (deepR t u).2 := by simp only [deepR, lessR]; omega
    constructor
    · rw [least3_two, least3_two]
      rintro ⟨h1, h2, h3⟩
      exact ⟨full_mono y1 i1.1 i1.2 (by omega) s0 (Int.le_refl _) (Int.le_refl _) f0 f1 (Int.le_refl _) f1 f0 h1, full_mono y2 i2.1 i2.2 (by omega) o0 (Int.le_refl _) (Int.le_refl _) f0 f1 (Int.le_refl _) f1 f0 h2, full_mono y3 i3.1 i3.2 (by omega) o0 (Int.le_refl _) (Int.le_refl _) f0 f1 (Int.le_refl _) f1 f0 h3⟩
    · rw [least3_zero, least3_zero]
      rintro (h1 | h2 | h3)
      · exact .inl (zero_mono x1 y1 i1.1 i1.2 (by omega) s0 f0 f1 h1)
      · exact .inr (.inl (zero_mono x2 y2 i2.1 i2.2 (by omega) o0 f0 f1 h2))
      · exact .inr (.inr (zero_mono x3 y3 i3.1 i3.2 (by omega) o0 f0 f1 h3))
end Go.Proofs.Ytnjbamikfjdofaa

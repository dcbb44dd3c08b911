/- After which numbers of strokes two sides fit always: just from the first to the last one that Last returns. -/
import Derived.Test.YtnjbamikfjdofaaLast
import Derived.Test.YtnjbamikfjdofaaMono
set_option linter.unusedSimpArgs false
set_option linter.unusedVariables false
namespace Go.Proofs.Ytnjbamikfjdofaa
open Go.RowKit

theorem least3_two {a b c : Int} : least3 a b c = 2 ↔ a = 2 ∧ b = 2 ∧ c = 2 := by
  unfold least3
  split
  · constructor
    · intro h; omega
    · rintro ⟨rfl, rfl, rfl⟩; omega
  · split
    · constructor
      · intro _; assumption
      · intro _; rfl
    · constructor
      · intro h; omega
      · intro h; contradiction

theorem verdict_two {s : Int × Int} {lo hi : Int} {d : Int × Int} : verdictR s lo hi d = 2 ↔ withinB (dampedR s d) (1000 * lo) (1000 * hi) = true := by
  unfold verdictR
  split
  · rename_i h; simp [h]
  · rename_i h
    split <;> simp [h]

/-- The widths of a tab and a hole are allowed, whatever they are. -/
theorem wide_two {s : Int × Int} {loose : Int} {d : Int × Int} (hs : s.1 ≤ s.2) (hd : 0 ≤ d.1) (hd2 : d.1 ≤ d.2) :
    verdictR s 0 loose d = 2 ↔ 0 ≤ s.1 ∧ ¬ 1000 * loose < (dampedR s d).2 := by
  rw [verdict_two]
  unfold withinB dampedR
  simp only [Bool.and_eq_true, decide_eq_true_eq]
  have e1 : s.1 * (d.1 + 1000) ≤ s.2 * (d.1 + 1000) := Int.mul_le_mul_of_nonneg_right hs (by omega)
  have e2 : 0 ≤ s.1 → 0 ≤ s.1 * (d.1 + 1000) := fun h => Int.mul_nonneg h (by omega)
  have e3 : 0 ≤ s.1 → 0 ≤ s.1 * (d.2 + 1000) := fun h => Int.mul_nonneg h (by omega)
  have e4 : s.1 < 0 → s.1 * (d.1 + 1000) < 0 := fun h => Int.mul_neg_of_neg_of_pos h (by omega)
  constructor
  · rintro ⟨⟨h1, h2⟩, h3⟩
    refine ⟨?_, by omega⟩
    rcases Int.lt_or_le s.1 0 with h | h
    · have := e4 h; omega
    · exact h
  · rintro ⟨h1, h2⟩
    have := e2 h1
    have := e3 h1
    omega

theorem ordered_worn {a b : Edg} (r : Int × Int) (n : Int) : orderedR (wornR a r n) (wornR b r n) = ((wornR (orderedR a b).1.1 r n, wornR (orderedR a b).1.2 r n), (orderedR a b).2) := by
  unfold orderedR
  simp only [show (wornR a r n).k = a.k from rfl, show (wornR b r n).k = b.k from rfl]
  split <;> rfl

/-- Both sides can be so, and fit always, after n strokes. -/
def goodE (p : Ply) (a b : Edg) (r : Int × Int) (n : Int) : Bool := (wornE a r n).2 == 0 && ((wornE b r n).2 == 0 && (fitE p (wornE a r n).1 (wornE b r n).1 == (2, 0)))

theorem canB_swap (a b : Edg) (r : Int × Int) (n : Int) : canB (orderedR a b).1.1 (orderedR a b).1.2 r n = (wornB a r n && wornB b r n) := by
  unfold canB orderedR
  split
  · exact Bool.and_comm ..
  · rfl

theorem wornE_ok {s : Edg} (hs : sideB s = true) (hk : s.k ≠ 0) {r : Int × Int} (hr : withinB r 0 100 = true) {n : Int} (h0 : 0 ≤ n) (h1 : n ≤ 20000) :
    wornE s r n = if wornB s r n then (wornR s r n, 0) else (zeroE, 11) := by
  simp [wornE, hs, hr, hk, h0, h1]

theorem good_iff {p : Ply} {a b : Edg} {r : Int × Int} (hp : playB p = true) (ha : sideB a = true) (hb : sideB b = true) (hr : withinB r 0 100 = true) (ho : (orderedR a b).2 = true) {n : Int} (h0 : 0 ≤ n) (h1 : n ≤ 20000) :
    goodE p a b r n = true ↔ (v1R p (orderedR a b).1.1 (orderedR a b).1.2 = 2 ∧ v3R p (orderedR a b).1.1 (orderedR a b).1.2 = 2) ∧ wideB (orderedR a b).1.1 (orderedR a b).1.2 r n = true ∧ looseB (orderedR a b).1.1 (orderedR a b).1.2 r p n = false := by
  have hka : a.k ≠ 0 ∧ b.k ≠ 0 := by
    have := ordered_kinds ho
    unfold orderedR at this
    split at this <;> simp only at this <;> omega
  unfold goodE
  rw [wornE_ok ha hka.1 hr h0 h1, wornE_ok hb hka.2 hr h0 h1]
  have hc := canB_swap a b r n
  have hd := play_damp hp
  cases ca : wornB a r n with
  | false =>
    rw [ca] at hc
    simp only [Bool.false_and] at hc
    have : looseB (orderedR a b).1.1 (orderedR a b).1.2 r p n = true := by
      unfold looseB
      unfold canB at hc
      rw [hc]; rfl
    rw [this]
    simp
  | true =>
    cases cb : wornB b r n with
    | false =>
      rw [ca, cb] at hc
      simp only [Bool.and_false] at hc
      have : looseB (orderedR a b).1.1 (orderedR a b).1.2 r p n = true := by
        unfold looseB
        unfold canB at hc
        rw [hc]; rfl
      rw [this]
      simp
    | true =>
      rw [ca, cb] at hc
      simp only [Bool.and_self] at hc
      have ka : a.k = 1 ∨ a.k = 2 := (side_wide ha hka.1).1
      have kb : b.k = 1 ∨ b.k = 2 := (side_wide hb hka.2).1
      have sa := side_worn ha ka ca
      have sb := side_worn hb kb cb
      simp only [if_true]
      have hf : fitE p (wornR a r n) (wornR b r n) = (fitR p (wornR a r n) (wornR b r n), 0) := by simp [fitE, hp, sa, sb]
      rw [hf]
      have hfr : fitR p (wornR a r n) (wornR b r n) = least3 (v1R p (orderedR a b).1.1 (orderedR a b).1.2) (v2R p (wornR (orderedR a b).1.1 r n) (wornR (orderedR a b).1.2 r n)) (v3R p (orderedR a b).1.1 (orderedR a b).1.2) := by
        unfold fitR
        rw [ordered_worn]
        simp only [ho, if_true]
        rfl
      rw [hfr]
      obtain ⟨kt, kh⟩ := ordered_kinds ho
      obtain ⟨st, sh⟩ := ordered_sides ha hb
      unfold canB at hc
      unfold wideB looseB
      rw [hc]
      have hct : wornB (orderedR a b).1.1 r n = true ∧ wornB (orderedR a b).1.2 r n = true := by simpa using hc
      have st' := side_worn st (.inl kt) hct.1
      have sh' := side_worn sh (.inr kh) hct.2
      have et := side_ends st' (show (orderedR a b).1.1.k ≠ 0 by omega)
      have eh := side_ends sh' (show (orderedR a b).1.2.k ≠ 0 by omega)
      generalize (orderedR a b).1.1 = t at *
      generalize (orderedR a b).1.2 = h at *
      have hw : (wideR (wornR t r n) (wornR h r n)).1 ≤ (wideR (wornR t r n) (wornR h r n)).2 := by
        have := et.b; have := eh.b
        simp only [wideR, lessR]
        omega
      have h2 := wide_two (loose := p.loose) hw hd.1 hd.2
      have e2 : v2R p (wornR t r n) (wornR h r n) = verdictR (wideR (wornR t r n) (wornR h r n)) 0 p.loose p.damp := rfl
      rw [e2]
      have hb : ((least3 (v1R p t h) (verdictR (wideR (wornR t r n) (wornR h r n)) 0 p.loose p.damp) (v3R p t h), (0 : Int)) == ((2 : Int), (0 : Int))) = decide (least3 (v1R p t h) (verdictR (wideR (wornR t r n) (wornR h r n)) 0 p.loose p.damp) (v3R p t h) = 2) := by
        by_cases hh : least3 (v1R p t h) (verdictR (wideR (wornR t r n) (wornR h r n)) 0 p.loose p.damp) (v3R p t h) = 2
        · simp [hh]
        · simp [hh]
      rw [hb]
      simp only [BEq.rfl, Bool.true_and, decide_eq_true_eq, Bool.not_true, Bool.false_or, decide_eq_false_iff_not]
      rw [least3_two, h2]
      constructor
      · rintro ⟨x, ⟨y, z⟩, u⟩; exact ⟨⟨x, u⟩, y, z⟩
      · rintro ⟨⟨x, u⟩, y, z⟩; exact ⟨x, ⟨y, z⟩, u⟩

theorem last_spec (p : Ply) (a b : Edg) (r : Int × Int) :
    ((lastE p a b r).2.2 = 0 ∧ (playB p = true ∧ sideB a = true ∧ sideB b = true ∧ withinB r 0 100 = true ∧ (orderedR a b).2 = true) ∧ 0 ≤ (lastE p a b r).1 ∧ (lastE p a b r).1 ≤ (lastE p a b r).2.1 ∧ (lastE p a b r).2.1 ≤ 20000 ∧ ∀ n, 0 ≤ n → n ≤ 20000 → (goodE p a b r n = true ↔ (lastE p a b r).1 ≤ n ∧ n ≤ (lastE p a b r).2.1)) ∨
    ((lastE p a b r) = (0, 0, 4) ∧ (playB p = true ∧ sideB a = true ∧ sideB b = true ∧ withinB r 0 100 = true ∧ (orderedR a b).2 = true) ∧ ∀ n, 0 ≤ n → n ≤ 20000 → goodE p a b r n = false) ∨
    ((lastE p a b r) = (0, 0, 1) ∧ (playB p && (sideB a && sideB b)) = false) ∨ ((lastE p a b r) = (0, 0, 2) ∧ (playB p && (sideB a && sideB b)) = true ∧ withinB r 0 100 = false) ∨
    ((lastE p a b r) = (0, 0, 6) ∧ (playB p && (sideB a && sideB b)) = true ∧ withinB r 0 100 = true ∧ (orderedR a b).2 = false) := by
  cases hv : (playB p && (sideB a && sideB b)) with
  | false => exact .inr (.inr (.inl ⟨by simp [lastE, hv], rfl⟩))
  | true =>
    cases hr : withinB r 0 100 with
    | false => exact .inr (.inr (.inr (.inl ⟨by simp [lastE, hv, hr], rfl, rfl⟩)))
    | true =>
      cases ho : (orderedR a b).2 with
      | false => exact .inr (.inr (.inr (.inr ⟨by simp [lastE, hv, hr, ho], rfl, rfl, rfl⟩)))
      | true =>
        have hv' : playB p = true ∧ sideB a = true ∧ sideB b = true := by simpa using hv
        obtain ⟨hp, ha, hb⟩ := hv'
        have hg := fun n h0 h1 => good_iff (n := n) hp ha hb hr ho h0 h1
        obtain ⟨kt, kh⟩ := ordered_kinds ho
        obtain ⟨st, sh⟩ := ordered_sides ha hb
        have hwr := wear_of hr
        have hd := play_damp hp
        have P := pair_of st sh kt kh
        have f := from_spec P hwr
        have bs := behind_spec P hwr (p := p) hd
        have hL : lastE p a b r = (if (strokesR (orderedR a b).1.1 (orderedR a b).1.2 r p).2.2 then ((strokesR (orderedR a b).1.1 (orderedR a b).1.2 r p).1, (strokesR (orderedR a b).1.1 (orderedR a b).1.2 r p).2.1, 0) else (0, 0, 4)) := by
          simp only [lastE, hv, hr, ho, if_true]
        rw [hL]
        generalize (orderedR a b).1.1 = t at *
        generalize (orderedR a b).1.2 = h at *
        obtain ⟨f1, f2, f3, f4⟩ := f
        obtain ⟨b1, b2, b3, b4⟩ := bs
        by_cases hfb : fromR t h r = behindR t h r p
        · have hs : strokesR t h r p = (0, 0, false) := by simp [strokesR, hfb]
          rw [hs]
          refine .inr (.inl ⟨rfl, ⟨hp, ha, hb, rfl, rfl⟩, fun n h0 h1 => ?_⟩)
          cases hgn : goodE p a b r n with
          | false => rfl
          | true =>
            obtain ⟨_, g1, g2⟩ := (hg n h0 h1).1 hgn
            rcases Int.lt_or_le n (fromR t h r) with hlt | hle
            · rw [f3 n h0 hlt] at g1; cases g1
            · rw [b4 n (by omega) (by omega)] at g2; cases g2
        · have hs : strokesR t h r p = (fromR t h r, behindR t h r p - 1, fitR p (wornR t r (fromR t h r)) (wornR h r (fromR t h r)) == 2) := by simp [strokesR, hfb]
          rw [hs]
          have hw := f4 (fromR t h r) (Int.le_refl _) (by omega)
          have hl := b3 (fromR t h r) (Int.le_refl _) (by omega)
          obtain ⟨c1, c2, c3⟩ := can_of_loose hl
          have hwi : 0 ≤ (wideR (wornR t r (fromR t h r)) (wornR h r (fromR t h r))).1 := by
            unfold wideB at hw
            rw [c1, c2] at hw
            simpa using hw
          have st' := side_worn st (.inl kt) c1
          have sh' := side_worn sh (.inr kh) c2
          have et := side_ends st' (show t.k ≠ 0 by omega)
          have eh := side_ends sh' (show h.k ≠ 0 by omega)
          have hww : (wideR (wornR t r (fromR t h r)) (wornR h r (fromR t h r))).1 ≤ (wideR (wornR t r (fromR t h r)) (wornR h r (fromR t h r))).2 := by
            have := et.b; have := eh.b
            simp only [wideR, lessR]
            omega
          have h2 := (wide_two (loose := p.loose) hww hd.1 hd.2).2 ⟨hwi, c3⟩
          have hfr : fitR p (wornR t r (fromR t h r)) (wornR h r (fromR t h r)) = least3 (v1R p t h) (verdictR (wideR (wornR t r (fromR t h r)) (wornR h r (fromR t h r))) 0 p.loose p.damp) (v3R p t h) := by
            have k1 : (wornR t r (fromR t h r)).k = 1 := kt
            have k2 : (wornR h r (fromR t h r)).k = 2 := kh
            have ho2 : orderedR (wornR t r (fromR t h r)) (wornR h r (fromR t h r)) = ((wornR t r (fromR t h r), wornR h r (fromR t h r)), true) := by
              simp [orderedR, k1, k2]
            unfold fitR
            rw [ho2]
            rfl
          by_cases hV : v1R p t h = 2 ∧ v3R p t h = 2
          · have hf2 : fitR p (wornR t r (fromR t h r)) (wornR h r (fromR t h r)) = 2 := by rw [hfr, least3_two]; exact ⟨hV.1, h2, hV.2⟩
            rw [hf2]
            refine .inl ⟨rfl, ⟨hp, ha, hb, rfl, rfl⟩, f1, ?_, ?_, fun n h0 h1 => ?_⟩
            · show fromR t h r ≤ behindR t h r p - 1
              omega
            · show behindR t h r p - 1 ≤ 20000
              omega
            · show _ ↔ fromR t h r ≤ n ∧ n ≤ behindR t h r p - 1
              rw [hg n h0 h1]
              constructor
              · rintro ⟨_, g1, g2⟩
                constructor
                · rcases Int.lt_or_le n (fromR t h r) with hlt | hle
                  · rw [f3 n h0 hlt] at g1; cases g1
                  · exact hle
                · rcases Int.lt_or_le n (behindR t h r p) with hlt | hle
                  · omega
                  · rw [b4 n hle (by omega)] at g2; cases g2
              · rintro ⟨g1, g2⟩
                exact ⟨hV, f4 n g1 (by omega), b3 n g1 (by omega)⟩
          · have hf2 : (fitR p (wornR t r (fromR t h r)) (wornR h r (fromR t h r)) == 2) = false := by
              rw [hfr]
              simp only [beq_eq_false_iff_ne, ne_eq, least3_two]
              rintro ⟨x, _, y⟩
              exact hV ⟨x, y⟩
            rw [hf2]
            refine .inr (.inl ⟨rfl, ⟨hp, ha, hb, rfl, rfl⟩, fun n h0 h1 => ?_⟩)
            cases hgn : goodE p a b r n with
            | false => rfl
            | true => exact absurd ((hg n h0 h1).1 hgn).1 hV
end Go.Proofs.Ytnjbamikfjdofaa

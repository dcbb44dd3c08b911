/- FitMore: the walk, whatever the input. -/
import Derived.Test.YtnjbamikfjdofaaMoreM
import Derived.Test.YtnjbamikfjdofaaLawMa
import Derived.Test.YtnjbamikfjdofaaLawMb
set_option linter.unusedSimpArgs false
set_option linter.unusedVariables false
namespace Go.Proofs.Ytnjbamikfjdofaa
open Go.RowKit Go.Shelf

theorem fit_three (p : Ply) (a b : Edg) : fitR p a b = 0 ∨ fitR p a b = 1 ∨ fitR p a b = 2 := by
  unfold fitR least3
  split
  · split
    · exact .inl rfl
    · split
      · exact .inr (.inr rfl)
      · exact .inr (.inl rfl)
  · exact .inl rfl
theorem side_bounds {a : Edg} (h : sideB a = true) (hk : a.k ≠ 0) : (a.k = 1 ∨ a.k = 2) ∧ (0 ≤ a.a.1 ∧ a.a.1 ≤ a.a.2 ∧ a.a.2 ≤ 10000) ∧ (1 ≤ a.w.1 ∧ a.w.1 ≤ a.w.2 ∧ a.w.2 ≤ 3000) ∧ 1 ≤ a.d.1 ∧ a.d.1 ≤ a.d.2 ∧ a.d.2 ≤ 3000 := by
  unfold sideB at h
  have h0 : (a.k == 0) = false := by simpa using hk
  rw [h0, Bool.false_or, Bool.and_eq_true, Bool.and_eq_true, Bool.and_eq_true] at h
  obtain ⟨h1, ⟨h2, h3⟩, h4⟩ := h
  refine ⟨?_, within_of h2, within_of h3, within_of h4⟩
  rcases Bool.or_eq_true_iff.1 h1 with h | h
  · exact .inl (by simpa using h)
  · exact .inr (by simpa using h)
theorem within_mk {s : Int × Int} {lo hi : Int} (h1 : lo ≤ s.1) (h2 : s.1 ≤ s.2) (h3 : s.2 ≤ hi) : withinB s lo hi = true := by
  simp [withinB, h1, h2, h3]
theorem side_mk {a : Edg} (h0 : a.k = 1 ∨ a.k = 2) (h1 : withinB a.a 0 10000 = true) (h2 : withinB a.w 1 3000 = true) (h3 : withinB a.d 1 3000 = true) : sideB a = true := by
  unfold sideB
  rw [h1, h2, h3]
  rcases h0 with h | h <;> rw [h] <;> rfl
theorem play_mk {p : Ply} (h : (1 ≤ p.len ∧ p.len ≤ 10000) ∧ (0 ≤ p.slack ∧ p.slack ≤ 500) ∧ (0 ≤ p.loose ∧ p.loose ≤ 500) ∧ 0 ≤ p.damp.1 ∧ p.damp.1 ≤ p.damp.2 ∧ p.damp.2 ≤ 100) : playB p = true := by
  obtain ⟨⟨h1, h2⟩, ⟨h3, h4⟩, ⟨h5, h6⟩, h7, h8, h9⟩ := h
  simp [playB, withinB, h1, h2, h3, h4, h5, h6, h7, h8, h9]
theorem fitE_ok {p : Ply} {a b : Edg} (hp : playB p = true) (ha : sideB a = true) (hb : sideB b = true) : fitE p a b = (fitR p a b, 0) := by
  unfold fitE
  rw [hp, ha, hb]; rfl
theorem callFitX {p : Ply} {a b : Edg} {n e : Int} (h : fitE p a b = (n, e)) : Hold (∀ w, Calls Try.prog 15 #[plV p, edV a, edV b] w fun r w' => r = .returned (.tuple #[.int .i64 n, .int .i64 e]) ∧ Mod noB w w') :=
  ⟨fun w => (fit_any p a b w).mono fun e w' hh => by rw [h] at hh; exact hh⟩

set_option maxHeartbeats 4000000 in
theorem fitMore_any (p : Ply) (a b : Edg) (r : Int × Int) (c : Int) (w : World) (c0 : 0 ≤ c) (c1 : c ≤ 255) :
    Calls Try.prog 12 #[plV p, edV a, edV b, spV r, .int .u8 c] w fun e w' => e = .returned (.bool true) ∧ Mod noB w w' := by
  cases hv : (playB p && (sideB a && sideB b)) with
  | false =>
    have hf : fitE p a b = (0, 1) := by unfold fitE; rw [hv]; rfl
    have hg : betweenE p a b = (zeroG, 1) := by unfold betweenE; rw [hv]; rfl
    have hl : lastE p a b r = (0, 0, 1) := by unfold lastE; rw [hv]; rfl
    exact more_err p a b r c w (callFitX hf) ⟨fun w => callBetween p a b _ _ hg w⟩ ⟨fun w => callLast p a b r _ _ _ hl w⟩
      (callFitX ((fitE_swap p a b).trans hf)) ⟨fun w => callBetween p b a _ _ ((betweenE_swap p a b).trans hg) w⟩ ⟨fun w => callLast p b a r _ _ _ ((lastE_swap p a b r).trans hl) w⟩
  | true =>
    simp only [Bool.and_eq_true] at hv
    obtain ⟨hp, ha, hb⟩ := hv
    obtain ⟨pf1, pf2, pf3, pf4, pf5, pf6⟩ := play_facts hp
    have hf := fitE_ok hp ha hb
    have m30 : 0 ≤ c.tmod 3 := Int.tmod_nonneg _ c0
    have m31 : c.tmod 3 ≤ 2 := by rw [Int.tmod_eq_emod_of_nonneg c0]; omega
    have m50 : 0 ≤ c.tmod 5 := Int.tmod_nonneg _ c0
    have m51 : c.tmod 5 ≤ 4 := by rw [Int.tmod_eq_emod_of_nonneg c0]; omega
    have m70 : 0 ≤ c.tmod 7 := Int.tmod_nonneg _ c0
    have m71 : c.tmod 7 ≤ 6 := by rw [Int.tmod_eq_emod_of_nonneg c0]; omega
    obtain ⟨S, hS⟩ : ∃ S, S = min 500 (p.slack + c) := ⟨_, rfl⟩
    obtain ⟨L, hL⟩ : ∃ L, L = min 500 (p.loose + c) := ⟨_, rfl⟩
    obtain ⟨D, hD⟩ : ∃ D, D = max p.damp.1 (p.damp.2 - c.tmod 5) := ⟨_, rfl⟩
    have q1 : playB { p with slack := S } = true := play_mk ⟨pf1, ⟨by show 0 ≤ S; omega, by show S ≤ 500; omega⟩, pf3, pf4, pf5, pf6⟩
    have q2 : playB { p with loose := L } = true := play_mk ⟨pf1, pf2, ⟨by show 0 ≤ L; omega, by show L ≤ 500; omega⟩, pf4, pf5, pf6⟩
    have q3 : playB { p with damp := (p.damp.1, D) } = true := play_mk ⟨pf1, pf2, pf3, pf4, by show p.damp.1 ≤ D; omega, by show D ≤ 100; omega⟩
    have l1 : Laxer p { p with slack := S } := ⟨rfl, by show p.slack ≤ S; omega, Int.le_refl _, rfl, Int.le_refl _⟩
    have l2 : Laxer p { p with loose := L } := ⟨rfl, Int.le_refl _, by show p.loose ≤ L; omega, rfl, Int.le_refl _⟩
    have l3 : Laxer p { p with damp := (p.damp.1, D) } := ⟨rfl, Int.le_refl _, Int.le_refl _, rfl, by show D ≤ p.damp.2; omega⟩
    have HB : Hold (a.k ≠ 0 → (0 ≤ a.a.1 ∧ a.a.1 ≤ a.a.2 ∧ a.a.2 ≤ 10000) ∧ (1 ≤ a.w.1 ∧ a.w.1 ≤ a.w.2 ∧ a.w.2 ≤ 3000) ∧ 1 ≤ a.d.1 ∧ a.d.1 ≤ a.d.2 ∧ a.d.2 ≤ 3000) := ⟨fun h => (side_bounds ha h).2⟩
    have HN : Hold (fitR p a b = 0 ∨ (fitR p a b = 1 ∧ fitR { p with slack := S } a b ≠ 0 ∧ fitR { p with loose := L } a b ≠ 0) ∨ (fitR p a b = 2 ∧ fitR { p with slack := S } a b = 2 ∧ fitR { p with loose := L } a b = 2 ∧ fitR { p with damp := (p.damp.1, D) } a b = 2)) := by
      refine ⟨?_⟩
      rcases fit_three p a b with h | h | h
      · exact .inl h
      · exact .inr (.inl ⟨h, fun h0 => by have := may_laxer hp q1 ha hb l1 rfl h0; omega, fun h0 => by have := may_laxer hp q2 ha hb l2 rfl h0; omega⟩)
      · exact .inr (.inr ⟨h, fit_laxer hp q1 ha hb l1 h, fit_laxer hp q2 ha hb l2 h, fit_laxer hp q3 ha hb l3 h⟩)
    have hT : ∃ R4, (fitR p a b = 1 ∨ R4 = fitR p a b) ∧ ∀ x y z, (a.k ≠ 0 → x = max a.a.1 (a.a.2 - c.tmod 7) ∧ y = min a.w.2 (a.w.1 + c.tmod 5) ∧ z = max a.d.1 (a.d.2 - c.tmod 3)) → fitE p ⟨a.k, (a.a.1, x), (y, a.w.2), (a.d.1, z)⟩ b = (R4, 0) := by
      by_cases hk : a.k = 0
      · have ho : (orderedR a b).2 = false := by
          unfold orderedR
          rw [if_neg (by omega), hk]; rfl
        have h0 : fitR p a b = 0 := by unfold fitR; rw [ho]; rfl
        refine ⟨0, .inr h0.symm, fun x y z _ => ?_⟩
        have hc : sideB ⟨a.k, (a.a.1, x), (y, a.w.2), (a.d.1, z)⟩ = true := by unfold sideB; simp only [hk]; rfl
        rw [fitE_ok hp hc hb]
        have e1 := (thin_ordered (b := b) (a := a) (c := ⟨a.k, (a.a.1, x), (y, a.w.2), (a.d.1, z)⟩) rfl).1
        unfold fitR
        rw [e1, ho]; rfl
      · obtain ⟨k0, ⟨a1, a2, a3⟩, ⟨w1, w2, w3⟩, d1, d2, d3⟩ := side_bounds ha hk
        obtain ⟨x, hx⟩ : ∃ x, x = max a.a.1 (a.a.2 - c.tmod 7) := ⟨_, rfl⟩
        obtain ⟨y, hy⟩ : ∃ y, y = min a.w.2 (a.w.1 + c.tmod 5) := ⟨_, rfl⟩
        obtain ⟨z, hz⟩ : ∃ z, z = max a.d.1 (a.d.2 - c.tmod 3) := ⟨_, rfl⟩
        have hc : sideB ⟨a.k, (a.a.1, x), (y, a.w.2), (a.d.1, z)⟩ = true :=
          side_mk k0 (within_mk (by show 0 ≤ a.a.1; omega) (by show a.a.1 ≤ x; omega) (by show x ≤ 10000; omega)) (within_mk (by show 1 ≤ y; omega) (by show y ≤ a.w.2; omega) (by show a.w.2 ≤ 3000; omega)) (within_mk (by show 1 ≤ a.d.1; omega) (by show a.d.1 ≤ z; omega) (by show z ≤ 3000; omega))
        have ht : Thin a ⟨a.k, (a.a.1, x), (y, a.w.2), (a.d.1, z)⟩ := ⟨rfl, Int.le_refl _, by show x ≤ a.a.2; omega, by show a.w.1 ≤ y; omega, Int.le_refl _, Int.le_refl _, by show z ≤ a.d.2; omega⟩
        obtain ⟨t2, t0⟩ := fit_thin hp ha hb hc ht
        refine ⟨fitR p ⟨a.k, (a.a.1, x), (y, a.w.2), (a.d.1, z)⟩ b, ?_, fun x' y' z' h => ?_⟩
        · rcases fit_three p a b with h | h | h
          · exact .inr (by rw [h]; exact t0 h)
          · exact .inl h
          · exact .inr (by rw [h]; exact t2 h)
        · obtain ⟨e1, e2, e3⟩ := h hk
          rw [← hx] at e1; rw [← hy] at e2; rw [← hz] at e3
          subst e1; subst e2; subst e3
          exact fitE_ok hp hc hb
    obtain ⟨R4, h4, hT⟩ := hT
    have hg : betweenE p a b = ((betweenE p a b).1, (betweenE p a b).2) := rfl
    have hl : lastE p a b r = ((lastE p a b r).1, (lastE p a b r).2.1, (lastE p a b r).2.2) := rfl
    exact more_ok p a b r c w (fitR p a b) _ _ _ _ _ _ _ S L D _ _ _ R4 _ c0 c1 rfl rfl rfl m30 m31 m50 m51 m70 m71 pf2.1 pf2.2 pf3.1 pf3.2 pf4 pf5 pf6 HB ⟨hS⟩ ⟨hL⟩ ⟨hD⟩
      (callFitX hf) ⟨fun w => callBetween p a b _ _ hg w⟩ ⟨fun w => callLast p a b r _ _ _ hl w⟩
      (callFitX ((fitE_swap p a b).trans hf)) ⟨fun w => callBetween p b a _ _ ((betweenE_swap p a b).trans hg) w⟩ ⟨fun w => callLast p b a r _ _ _ ((lastE_swap p a b r).trans hl) w⟩
      ⟨fun w => by have := refPlay_any p w; rw [hp] at this; exact this⟩ (callFitX (fitE_ok q1 ha hb)) (callFitX (fitE_ok q2 ha hb)) (callFitX (fitE_ok q3 ha hb))
      ⟨fun x y z h w => (callFitX (hT x y z h)).out w⟩ HN ⟨h4⟩
end Go.Proofs.Ytnjbamikfjdofaa

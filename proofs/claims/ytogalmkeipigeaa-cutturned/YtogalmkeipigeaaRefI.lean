/- Which pieces are reached from the border without a piece, as the document's loops find them. -/
import Derived.Test.YtogalmkeipigeaaRefS
set_option linter.unusedSimpArgs false
set_option linter.unusedVariables false
namespace Go.Proofs.Ytogalmkeipigeaa
open Go.RowKit

/-- What the first m others tell of a piece that faces F. -/
def isTo (F : List Int) (R : Nat → Bool) : Nat → Bool
  | 0 => decide (0 < F.count (-1))
  | m + 1 => isTo F R m || (R m && decide (0 < F.count (m : Int)))
theorem isTo_true {F : List Int} {R : Nat → Bool} {n : Nat} (h : isTo F R n = true) : -1 ∈ F ∨ ∃ m : Nat, m < n ∧ R m = true ∧ (m : Int) ∈ F := by
  induction n with
  | zero => simp only [isTo, decide_eq_true_eq] at h; exact .inl (List.count_pos_iff.1 h)
  | succ n ih =>
    simp only [isTo, Bool.or_eq_true, Bool.and_eq_true, decide_eq_true_eq] at h
    rcases h with h | ⟨h1, h2⟩
    · rcases ih h with h | ⟨m, h1, h2, h3⟩
      · exact .inl h
      · exact .inr ⟨m, by omega, h2, h3⟩
    · exact .inr ⟨n, by omega, h1, List.count_pos_iff.1 h2⟩
theorem isTo_false {F : List Int} {R : Nat → Bool} {n : Nat} (h : isTo F R n = false) : -1 ∉ F ∧ ∀ m : Nat, m < n → R m = true → (m : Int) ∉ F := by
  induction n with
  | zero => simp only [isTo, decide_eq_false_iff_not] at h; exact ⟨fun hm => h (List.count_pos_iff.2 hm), fun m hm => by omega⟩
  | succ n ih =>
    simp only [isTo, Bool.or_eq_false_iff, Bool.and_eq_false_iff, decide_eq_false_iff_not] at h
    refine ⟨(ih h.1).1, fun m hm hR hmem => ?_⟩
    by_cases e : m = n
    · subst e
      rcases h.2 with h2 | h2
      · rw [hR] at h2; cases h2
      · exact h2 (List.count_pos_iff.2 hmem)
    · exact (ih h.1).2 m (by omega) hR hmem

section
variable {g : Int × Int → Option Int} {W H : Nat} {p : Int} {N : Nat} {R : Nat → Bool} {k : Nat} {more : Bool}
theorem faced_sym (G : Grid g W H) {n r : Int} (h : r ∈ facedL g W H n) (h0 : 0 ≤ r) : n ∈ facedL g W H r := by
  unfold facedL at h ⊢
  rw [List.mem_flatMap] at h ⊢
  obtain ⟨c, hc, h⟩ := h
  unfold facedAt at h
  split at h
  · rename_i hn
    rw [List.mem_filter, List.mem_map] at h
    obtain ⟨⟨d, hd, rfl⟩, hne⟩ := h
    refine ⟨d, cellsL_all (G.in_of_at h0), ?_⟩
    unfold facedAt
    rw [if_pos rfl, List.mem_filter, List.mem_map]
    refine ⟨⟨c, beside_symm hd, hn⟩, ?_⟩
    simp only [ne_eq, decide_eq_true_eq] at hne ⊢
    exact fun e => hne e.symm
  · cases h

/-- A piece that is reached. -/
def OutsP (g : Int × Int → Option Int) (W H : Nat) (p : Int) (N : Nat) (j : Int) : Prop := ∃ q : Nat, q < N ∧ (q : Int) ≠ p ∧ -1 ∈ facedL g W H q ∧ ConnP g W H p q j
structure InInv (g : Int × Int → Option Int) (W H : Nat) (p : Int) (N : Nat) (R : Nat → Bool) (k : Nat) (more : Bool) : Prop where
  outs : ∀ j, j < N → R j = true → OutsP g W H p N j
  done : more = false → ∀ j, j < k → (j : Int) ≠ p → R j = false → isTo (facedL g W H j) R N = false
theorem InInv.begin : InInv g W H p N (fun _ => false) N true := ⟨fun _ _ h => (by cases h), fun h => (by cases h)⟩
theorem InInv.anew (h : InInv g W H p N R k more) : InInv g W H p N R 0 false := ⟨h.outs, fun _ j hj => by omega⟩
theorem InInv.skip (h : InInv g W H p N R k more) (hs : (k : Int) = p ∨ R k = true) : InInv g W H p N R (k + 1) more := ⟨h.outs, fun hm j hj hjp hR => by
  by_cases e : j = k
  · subst e
    rcases hs with e | e
    · exact absurd e hjp
    · rw [hR] at e; cases e
  · exact h.done hm j (by omega) hjp hR⟩
theorem InInv.no (h : InInv g W H p N R k more) (hs : isTo (facedL g W H k) R N = false) : InInv g W H p N R (k + 1) more := ⟨h.outs, fun hm j hj hjp hR => by
  by_cases e : j = k
  · subst e; exact hs
  · exact h.done hm j (by omega) hjp hR⟩
theorem InInv.yes (G : Grid g W H) (h : InInv g W H p N R k more) (hk : k < N) (hp : (k : Int) ≠ p) (hs : isTo (facedL g W H k) R N = true) : InInv g W H p N (mark R k) (k + 1) true := ⟨fun j hj hR => by
  by_cases e : j = k
  · subst e
    rcases isTo_true hs with hb | ⟨m, hm, hRm, hmf⟩
    · exact ⟨j, hj, hp, hb, .refl (by omega) hp⟩
    · obtain ⟨q, hq, hqp, hqb, hqm⟩ := h.outs m hm hRm
      exact ⟨q, hq, hqp, hqb, hqm.step (faced_sym G hmf (by omega)) (by omega) hp⟩
  · have : R j = true := by unfold mark at hR; rw [if_neg e] at hR; exact hR
    exact h.outs j hj this, fun hm => by cases hm⟩
theorem InInv.is (G : Grid g W H) (hN : ∀ n r : Int, r ∈ facedL g W H n → r < N) (h : InInv g W H p N R N false) (j : Nat) (hj : j < N) : R j = true ↔ OutsP g W H p N j := by
  refine ⟨h.outs j hj, fun ⟨q, hq, hqp, hqb, hc⟩ => ?_⟩
  have key : ∀ r : Int, ConnP g W H p q r → ∀ m : Nat, r = m → m < N ∧ R m = true := by
    intro r hr
    induction hr with
    | refl _ _ =>
      intro m hm
      obtain rfl : q = m := by omega
      refine ⟨hq, ?_⟩
      cases hR : R q with
      | true => rfl
      | false => exact absurd hqb (isTo_false (h.done rfl q hq hqp hR)).1
    | @step a b hc hr h0 hw ih =>
      intro m hm
      subst hm
      have hmN : m < N := by have := hN _ _ hr; omega
      refine ⟨hmN, ?_⟩
      cases hR : R m with
      | true => rfl
      | false =>
        have ha0 : 0 ≤ a := by
          cases hc with
          | refl h0 _ => exact h0
          | step _ _ h0 _ => exact h0
        obtain ⟨a', rfl⟩ := Int.eq_ofNat_of_zero_le ha0
        obtain ⟨h1, h2⟩ := ih a' rfl
        exact absurd (faced_sym G hr (by omega)) ((isTo_false (h.done rfl m hmN hw hR)).2 a' h1 h2)
  exact (key j hc j rfl).2
theorem inside_same {R R' : Nat → Bool} {p : Int} {N : Nat} (h : ∀ j, j < N → (R j = true ↔ R' j = true)) : insideTo R p N = insideTo R' p N := by
  have key : ∀ k, k ≤ N → insideTo R p k = insideTo R' p k := by
    intro k
    induction k with
    | zero => intro _; rfl
    | succ k ih =>
      intro hk
      have e : R k = R' k := by
        have := h k (by omega)
        cases h1 : R k <;> cases h2 : R' k <;> simp_all
      simp only [insideTo, ih (by omega), e]
  exact key N (Nat.le_refl _)

/-- How many cells of a row of bools are not set. -/
def unset (n : Nat) (w : World) (rb : Nat) : Nat := n - cntN n (fun i => match w.cell? ⟨rb, i, none⟩ with | some (.bool b) => b | _ => false)
theorem unset_is {n : Nat} {w : World} {rb : Nat} {R : Nat → Bool} (h : w.heap[rb]? = some (.cells (boolCells n R) 4)) : unset n w rb = n - cntN n R := by
  unfold unset cntN
  congr 1
  apply List.countP_congr
  intro i hi
  rw [fcells_cell (f := fun k => Value.bool (R k)) h (by simpa using hi)]
end

theorem le_greatest {zs : List Int} {z : Int} (h : z ∈ zs) : z ≤ greatest zs := by
  have key : ∀ (l : List Int) (a : Int), a ≤ l.foldl max a ∧ ∀ x ∈ l, x ≤ l.foldl max a := by
    intro l
    induction l with
    | nil => intro a; simp
    | cons y l ih =>
      intro a
      obtain ⟨h1, h2⟩ := ih (max a y)
      refine ⟨by simp only [List.foldl_cons]; omega, fun x hx => ?_⟩
      simp only [List.foldl_cons]
      rcases List.mem_cons.1 hx with rfl | hx
      · omega
      · exact h2 x hx
  exact (key zs 0).2 z h
theorem faced_many {W H : Nat} {zs : List Int} (C : CutN W H zs) (n r : Int) (h : r ∈ facedL (laidG W zs zs.length) W H n) : r < many zs := by
  have hm := many_eq zs
  have hg := greatest_nonneg zs
  unfold facedL at h
  rw [List.mem_flatMap] at h
  obtain ⟨c, hc, h⟩ := h
  unfold facedAt at h
  split at h
  · rw [List.mem_filter, List.mem_map] at h
    obtain ⟨⟨d, hd, rfl⟩, hne⟩ := h
    by_cases hi : inPic W H d
    · obtain ⟨i, hlt, rfl⟩ := C.of_in hi
      rw [C.gi hlt, List.getElem?_eq_getElem hlt]
      have := le_greatest (List.getElem_mem hlt)
      simp only [Option.getD_some]
      omega
    · rw [C.grid.at_out hi]; omega
  · cases h
end Go.Proofs.Ytogalmkeipigeaa

/- What is best, is: no good plan costs less, nor as much and comes before. -/
import Derived.Test.YtdncppempgpooaaDoorRwJ
import Derived.Test.YtdncppempgpooaaDoorRvB
set_option linter.unusedSimpArgs false
set_option linter.unusedVariables false
namespace Go.Proofs.YtdncppempgpooaaDoor
open Go.RowKit

def sumP (d : Dye) (q : List Nat) : Int := (q.map (priceR d)).sum
theorem sumP_cons (d : Dye) (x : Nat) (q : List Nat) : sumP d (x :: q) = priceR d x + sumP d q := by simp [sumP]
/-- All stints can be run, with these sets before them. -/
def Good (d : Dye) : (Nat → Int) → List (Int × Int) → List Nat → Prop
  | _, [], _ => True
  | r, s :: ss, q => failing d (bentR r (q.headD 0)) s = none ∧ Good d (runR d (bentR r (q.headD 0)) s) ss (q.drop 1)
theorem good_iff {d : Dye} : ∀ (ss : List (Int × Int)) (i : Nat) (r : Nat → Int) (q : List Nat), badR d i r ss q = none ↔ Good d r ss q := by
  intro ss
  induction ss with
  | nil => intro i r q; simp [badR, Good]
  | cons s ss ih =>
    intro i r q
    simp only [badR, Good]
    cases hf : failing d (bentR r (q.headD 0)) s with
    | some b => simp
    | none => simp only [true_and]; exact ih _ _ _
theorem bad_bd {d : Dye} : ∀ (ss : List (Int × Int)) (i : Nat) (r : Nat → Int) (q : List Nat) (j b : Nat), badR d i r ss q = some (j, b) → i ≤ j ∧ j < i + ss.length ∧ b < d.bl.length := by
  intro ss
  induction ss with
  | nil => intro i r q j b h; simp [badR] at h
  | cons s ss ih =>
    intro i r q j b h
    simp only [badR] at h
    cases hf : failing d (bentR r (q.headD 0)) s with
    | some x =>
      rw [hf] at h
      obtain ⟨rfl, rfl⟩ := Prod.mk.inj (Option.some.inj h)
      exact ⟨Nat.le_refl _, by simp, (failing_some hf).1⟩
    | none =>
      rw [hf] at h
      have := ih _ _ _ _ _ h
      simp only [List.length_cons]
      omega

/-- The first of the least. -/
theorem fold_least (cs : List (Int × List Nat)) : ∀ a : Int × List Nat, (cs.foldl (fun a x => if x.1 < a.1 then x else a) a).1 ≤ a.1 ∧ (∀ x ∈ cs, (cs.foldl (fun a x => if x.1 < a.1 then x else a) a).1 ≤ x.1) ∧
    ((cs.foldl (fun a x => if x.1 < a.1 then x else a) a).1 = a.1 → cs.foldl (fun a x => if x.1 < a.1 then x else a) a = a) ∧
    ∀ L1 x L2, cs = L1 ++ x :: L2 → (cs.foldl (fun a x => if x.1 < a.1 then x else a) a).1 = x.1 → cs.foldl (fun a x => if x.1 < a.1 then x else a) a ∈ a :: (L1 ++ [x]) := by
  induction cs with
  | nil => intro a; exact ⟨Int.le_refl _, fun x h => (by cases h), fun _ => rfl, fun L1 x L2 h => (by cases L1 <;> cases h)⟩
  | cons y cs ih =>
    intro a
    simp only [List.foldl_cons]
    by_cases hy : y.1 < a.1
    · rw [if_pos hy]
      obtain ⟨h1, h2, h3, h4⟩ := ih y
      refine ⟨by omega, fun x hx => ?_, fun h => by omega, fun L1 x L2 hs he => ?_⟩
      · rcases List.mem_cons.1 hx with rfl | hx
        · exact h1
        · exact h2 x hx
      · cases L1 with
        | nil =>
          obtain ⟨rfl, rfl⟩ := List.cons.inj hs
          rw [h3 he]; simp
        | cons z L1 =>
          obtain ⟨rfl, hs2⟩ := List.cons.inj hs
          have := h4 L1 x L2 hs2 he
          simp only [List.cons_append, List.mem_cons] at this ⊢
          exact .inr this
    · rw [if_neg hy]
      obtain ⟨h1, h2, h3, h4⟩ := ih a
      refine ⟨h1, fun x hx => ?_, h3, fun L1 x L2 hs he => ?_⟩
      · rcases List.mem_cons.1 hx with rfl | hx
        · omega
        · exact h2 x hx
      · cases L1 with
        | nil =>
          obtain ⟨rfl, rfl⟩ := List.cons.inj hs
          rw [h3 (by omega)]; simp
        | cons z L1 =>
          obtain ⟨rfl, hs2⟩ := List.cons.inj hs
          have := h4 L1 x L2 hs2 he
          simp only [List.cons_append, List.mem_cons] at this ⊢
          rcases this with h | h
          · exact .inl h
          · exact .inr (.inr h)
theorem least_le {L : List (Int × List Nat)} {x : Int × List Nat} (h : x ∈ L) : (leastR L).1 ≤ x.1 := by
  cases L with
  | nil => cases h
  | cons a cs =>
    obtain ⟨h1, h2, _⟩ := fold_least cs a
    rcases List.mem_cons.1 h with rfl | h
    · exact h1
    · exact h2 x h
theorem least_first {L L1 L2 : List (Int × List Nat)} {x : Int × List Nat} (h : L = L1 ++ x :: L2) (he : (leastR L).1 = x.1) : leastR L ∈ L1 ++ [x] := by
  cases L1 with
  | nil =>
    subst h
    obtain ⟨_, _, h3, _⟩ := fold_least L2 x
    show L2.foldl _ x ∈ _
    rw [h3 he]; simp
  | cons a L1 =>
    subst h
    obtain ⟨_, _, _, h4⟩ := fold_least (L1 ++ x :: L2) a
    exact h4 L1 x L2 rfl he

/-- One list comes before another one, or does not differ from it. -/
def LexLE (q p : List Nat) : Prop := ∀ j : Nat, (∀ i : Nat, i < j → q[i]? = p[i]?) → ∀ x y : Nat, q[j]? = some x → p[j]? = some y → x ≤ y
theorem LexLE.cons {x : Nat} {q p : List Nat} (h : LexLE q p) : LexLE (x :: q) (x :: p) := by
  intro j hj a b ha hb
  cases j with
  | zero => simp at ha hb; omega
  | succ j => exact h j (fun i hi => by simpa using hj (i + 1) (by omega)) a b (by simpa using ha) (by simpa using hb)
theorem LexLE.head {x y : Nat} {q p : List Nat} (h : x < y) : LexLE (x :: q) (y :: p) := by
  intro j hj a b ha hb
  cases j with
  | zero => simp at ha hb; omega
  | succ j =>
    have := hj 0 (by omega)
    simp at this; omega

theorem tries_mem {d : Dye} {ss : List (Int × Int)} {s : Int × Int} {r : Nat → Int} {n : Nat} {x : Int × List Nat} (h : x ∈ triesR d ss s r n) : ∃ k, k < n ∧ failing d (bentR r k) s = none ∧ x = (priceR d k + (bestR d ss (runR d (bentR r k) s)).1, k :: (bestR d ss (runR d (bentR r k) s)).2) := by
  obtain ⟨k, hk, he⟩ := List.mem_filterMap.1 h
  unfold tryR at he
  split at he
  · cases he
  · rename_i hf
    refine ⟨k, List.mem_range.1 hk, ?_, (Option.some.inj he).symm⟩
    cases hh : failing d (bentR r k) s with
    | none => rfl
    | some b => rw [hh] at hf; simp at hf
theorem tries_split {d : Dye} {ss : List (Int × Int)} {s : Int × Int} {r : Nat → Int} {n k : Nat} (hk : k < n) (hf : failing d (bentR r k) s = none) :
    ∃ L2, triesR d ss s r n = triesR d ss s r k ++ (priceR d k + (bestR d ss (runR d (bentR r k) s)).1, k :: (bestR d ss (runR d (bentR r k) s)).2) :: L2 := by
  induction n with
  | zero => omega
  | succ n ih =>
    rcases (by omega : k = n ∨ k < n) with rfl | h
    · exact ⟨[], tries_yes hf⟩
    · obtain ⟨L2, hL⟩ := ih h
      cases hn : failing d (bentR r n) s with
      | some b => exact ⟨L2, by rw [tries_no (by rw [hn]; rfl), hL]⟩
      | none => exact ⟨L2 ++ [_], by rw [tries_yes hn, hL, List.append_assoc]; rfl⟩

theorem best_good {d : Dye} : ∀ (ss : List (Int × Int)) (r : Nat → Int), (∀ s ∈ ss, failing d zeroR s = none) →
    (bestR d ss r).2.length = ss.length ∧ (∀ x ∈ (bestR d ss r).2, x < 2 ^ d.bl.length) ∧ Good d r ss (bestR d ss r).2 ∧ (bestR d ss r).1 = sumP d (bestR d ss r).2 := by
  intro ss
  induction ss with
  | nil => intro r _; simp [bestR, Good, sumP]
  | cons s ss ih =>
    intro r hb
    rw [best_cons]
    cases hl : triesR d ss s r (2 ^ d.bl.length) with
    | nil => exact absurd hl (tries_full (hb s (by simp)))
    | cons c cs =>
      have hm : leastR (c :: cs) ∈ triesR d ss s r (2 ^ d.bl.length) := by rw [hl]; exact leastR_mem
      obtain ⟨k, hk, hf, he⟩ := tries_mem hm
      obtain ⟨h1, h2, h3, h4⟩ := ih (runR d (bentR r k) s) (fun s hs => hb s (by simp [hs]))
      rw [he]
      refine ⟨by simp [h1], ?_, ⟨hf, h3⟩, by rw [sumP_cons, h4]⟩
      intro x hx
      rcases List.mem_cons.1 hx with rfl | hx
      · exact hk
      · exact h2 x hx
theorem best_min {d : Dye} : ∀ (ss : List (Int × Int)) (r : Nat → Int) (q : List Nat), q.length = ss.length → (∀ x ∈ q, x < 2 ^ d.bl.length) → Good d r ss q →
    (bestR d ss r).1 ≤ sumP d q ∧ ((bestR d ss r).1 = sumP d q → LexLE (bestR d ss r).2 q) := by
  intro ss
  induction ss with
  | nil =>
    intro r q hq _ _
    have : q = [] := List.length_eq_zero_iff.1 hq
    subst this
    exact ⟨by simp [bestR, sumP], fun _ j _ x y h => by simp [bestR] at h⟩
  | cons s ss ih =>
    intro r q hq hx hg
    cases q with
    | nil => simp at hq
    | cons k q =>
      obtain ⟨hf, hg⟩ := hg
      have hk := hx k (by simp)
      obtain ⟨i1, i2⟩ := ih (runR d (bentR r k) s) q (by simpa using hq) (fun x h => hx x (by simp [h])) hg
      obtain ⟨L2, hL⟩ := tries_split (ss := ss) hk hf
      have hle : (leastR (triesR d ss s r (2 ^ d.bl.length))).1 ≤ priceR d k + (bestR d ss (runR d (bentR r k) s)).1 :=
        least_le (x := (priceR d k + (bestR d ss (runR d (bentR r k) s)).1, k :: (bestR d ss (runR d (bentR r k) s)).2)) (by rw [hL]; simp)
      rw [best_cons, sumP_cons]
      refine ⟨by omega, fun he => ?_⟩
      have h1 : (bestR d ss (runR d (bentR r k) s)).1 = sumP d q := by omega
      have hm := least_first hL (by show _ = priceR d k + _; omega)
      rcases List.mem_append.1 hm with hm | hm
      · obtain ⟨y, hy, _, hye⟩ := tries_mem hm
        rw [hye]
        exact LexLE.head hy
      · rw [List.mem_singleton] at hm
        rw [hm]
        exact (i2 h1).cons

theorem fails_mono {d : Dye} (hw : ∀ b ∈ d.bl, 0 ≤ b.w.2) {r : Nat → Int} (hr : ∀ k, k < d.bl.length → 0 ≤ r k) {k : Nat} (hk : k < d.bl.length) {s : Int × Int} (h : failsB d zeroR k s = true) : failsB d r k s = true := by
  have hb : bladeAt d k ∈ d.bl := List.mem_of_getElem? (bladeAt_some hk)
  have h1 := hr k hk
  have h2 : (zeroR k + s.1) * (bladeAt d k).w.2 ≤ (r k + s.1) * (bladeAt d k).w.2 := Int.mul_le_mul_of_nonneg_right (by show (0 : Int) + s.1 ≤ _; omega) (hw _ hb)
  unfold failsB at h ⊢
  have h' := of_decide_eq_true h
  exact decide_eq_true (Int.lt_of_lt_of_le h' (Int.add_le_add_left h2 _))
/-- If some stint cannot be run, no plan is good. -/
theorem good_bears {d : Dye} (hw : ∀ b ∈ d.bl, 0 ≤ b.w.2) : ∀ (ss : List (Int × Int)) (r : Nat → Int) (q : List Nat), (∀ k, k < d.bl.length → 0 ≤ r k) → (∀ s ∈ ss, 0 ≤ s.1) → Good d r ss q → ∀ s ∈ ss, failing d zeroR s = none := by
  intro ss
  induction ss with
  | nil => intro r q _ _ _ s hs; cases hs
  | cons a ss ih =>
    intro r q hr hs hg s hm
    obtain ⟨hf, hg⟩ := hg
    have hr2 : ∀ k, k < d.bl.length → 0 ≤ bentR r (q.headD 0) k := fun k hk => by unfold bentR; split; exact Int.le_refl _; exact hr k hk
    rcases List.mem_cons.1 hm with rfl | hm
    · rw [failing_iff] at hf ⊢
      intro k hk
      cases hfb : failsB d zeroR k s with
      | false => rfl
      | true => rw [← hf k hk]; exact (fails_mono hw hr2 hk hfb).symm
    · have ha := hs a (by simp)
      refine ih _ _ (fun k hk => ?_) (fun s h => hs s (by simp [h])) hg s hm
      unfold runR
      have := hr2 k hk
      split <;> omega

theorem best_fact {d : Dye} {l : List (Int × Int)} {q : List Int} (hd : dieB d = true) (hs : stintsB l = true) (hq : q.length = l.length - 1) (hx : ∀ x ∈ q, 0 ≤ x ∧ x < (2 ^ d.bl.length : Nat)) :
    ((planE d l).2.2 = 0 ∨ (planE d l).2.2 = 4) ∧ (badR d 0 zeroR l (0 :: natsOf q) = none → (planE d l).2.2 = 0 ∧ (planE d l).1.length = q.length ∧ (planE d l).2.1 ≤ costR d q ∧
      ((planE d l).2.1 = costR d q → ∀ j : Nat, (∀ i : Nat, i < j → (planE d l).1[i]? = q[i]?) → ∀ x y, (planE d l).1[j]? = some x → q[j]? = some y → x ≤ y)) := by
  have hw : ∀ b ∈ d.bl, 0 ≤ b.w.2 := fun b hb => by obtain ⟨_, hbs, _⟩ := dieB_parts hd; have := hbs b hb; omega
  have hss : ∀ s ∈ l, 0 ≤ s.1 := fun s h => by
    simp only [stintsB, Bool.and_eq_true, List.all_eq_true] at hs
    have := hs.2 s h
    simp [stintB, fromB] at this; omega
  refine ⟨?_, fun hb => ?_⟩
  · unfold planE
    rw [hd, hs]
    cases l with
    | nil => simp [bearsB]
    | cons s ss => cases bearsB d (s :: ss) <;> simp
  · have hg := (good_iff l 0 zeroR _).1 hb
    have hbe := good_bears hw l zeroR _ (fun k _ => Int.le_refl _) hss hg
    have hbb : bearsB d l = true := by
      unfold bearsB
      rw [List.all_eq_true]
      intro s h; rw [hbe s h]; rfl
    cases l with
    | nil =>
      have hq0 : q = [] := List.length_eq_zero_iff.1 (by simpa using hq)
      subst hq0
      simp [planE, hd, hs, hbb, costR]
    | cons s ss =>
      have hP : planE d (s :: ss) = ((bestR d ss (runR d zeroR s)).2.map Int.ofNat, (bestR d ss (runR d zeroR s)).1, 0) := by simp [planE, hd, hs, hbb]
      rw [hP]
      obtain ⟨_, hg⟩ := hg
      have hg2 : Good d (runR d zeroR s) ss (natsOf q) := by
        have e : bentR zeroR ((0 :: natsOf q).headD 0) = zeroR := bent_zero _
        rw [e] at hg; exact hg
      obtain ⟨a1, _, _, a4⟩ := best_good ss (runR d zeroR s) (fun s h => hbe s (by simp [h]))
      have hnx : ∀ x ∈ natsOf q, x < 2 ^ d.bl.length := fun x h => by
        obtain ⟨y, hy, rfl⟩ := List.mem_map.1 h
        have := hx y hy
        omega
      obtain ⟨b1, b2⟩ := best_min ss (runR d zeroR s) (natsOf q) (by simp [natsOf]; simpa using hq) hnx hg2
      have hc : sumP d (natsOf q) = costR d q := by simp [sumP, costR, natsOf, Function.comp_def]
      rw [hc] at b1 b2
      refine ⟨rfl, by rw [List.length_map, a1]; simpa using hq.symm, b1, fun he j hj x y h1 h2 => ?_⟩
      have hl := b2 he
      rw [List.getElem?_map] at h1
      cases hbj : (bestR d ss (runR d zeroR s)).2[j]? with
      | none => rw [hbj] at h1; cases h1
      | some u =>
        rw [hbj] at h1
        obtain rfl := Option.some.inj h1
        have hy0 := (hx y (List.mem_of_getElem? h2)).1
        have := hl j (fun i hi => by
          have := hj i hi
          rw [List.getElem?_map] at this
          unfold natsOf
          rw [List.getElem?_map, ← this]
          cases (bestR d ss (runR d zeroR s)).2[i]? <;> rfl) u y.toNat hbj (by unfold natsOf; rw [List.getElem?_map, h2]; rfl)
        show (u : Int) ≤ y
        omega
end Go.Proofs.YtdncppempgpooaaDoor

/- Several texts in one (a claim holds at most 60 files): each has its own words ahead of it. -/
import Derived.Test.YtdncppempgpooaaDoorRxE
set_option linter.unusedSimpArgs false
set_option linter.unusedVariables false

/- Dies and stints that ask no more: what is good stays good, the best costs no more, the rows grow no more. -/
namespace Go.Proofs.YtdncppempgpooaaDoor
open Go.RowKit

/-- A die that asks no more: each of its blades is one of the other's, and is off by no more. -/
structure Soft (d' d : Dye) (φ : Nat → Nat) : Prop where
  lt : ∀ k, k < d'.bl.length → φ k < d.bl.length
  bound : d.bound ≤ d'.bound
  f : ∀ k, k < d'.bl.length → (bladeAt d' k).f.2 ≤ (bladeAt d (φ k)).f.2
  w0 : ∀ k, k < d'.bl.length → 0 ≤ (bladeAt d' k).w.2
  w : ∀ k, k < d'.bl.length → (bladeAt d' k).w.2 ≤ (bladeAt d (φ k)).w.2
def SoftS (s' s : Int × Int) : Prop := 0 ≤ s'.1 ∧ s'.1 ≤ s.1 ∧ s.2 ≤ s'.2
def SoftL : List (Int × Int) → List (Int × Int) → Prop
  | [], [] => True
  | s' :: ss', s :: ss => SoftS s' s ∧ SoftL ss' ss
  | _, _ => False
def SoftR (d' : Dye) (φ : Nat → Nat) (r' r : Nat → Int) : Prop := ∀ k, k < d'.bl.length → 0 ≤ r' k ∧ r' k ≤ r (φ k)
section
variable {d' d : Dye} {φ : Nat → Nat} {r' r : Nat → Int} {s' s : Int × Int}
theorem soft_fails (h : Soft d' d φ) (hs : SoftS s' s) (hr : SoftR d' φ r' r) {k : Nat} (hk : k < d'.bl.length) (hf : failsB d' r' k s' = true) : failsB d r (φ k) s = true := by
  unfold failsB mostV at hf ⊢
  have h1 := of_decide_eq_true hf
  obtain ⟨a1, a2⟩ := hr k hk
  obtain ⟨b1, b2, b3⟩ := hs
  have c1 := Int.mul_le_mul_of_nonneg_right (show r' k + s'.1 ≤ r (φ k) + s.1 by omega) (h.w0 k hk)
  have c2 := Int.mul_le_mul_of_nonneg_left (h.w k hk) (show 0 ≤ r (φ k) + s.1 by omega)
  have := h.f k hk
  have := h.bound
  exact decide_eq_true (by omega)
theorem soft_failing (h : Soft d' d φ) (hs : SoftS s' s) (hr : SoftR d' φ r' r) (hf : failing d r s = none) : failing d' r' s' = none := by
  rw [failing_iff] at hf ⊢
  intro k hk
  cases hc : failsB d' r' k s' with
  | false => rfl
  | true =>
    have := soft_fails h hs hr hk hc
    rw [hf _ (h.lt k hk)] at this
    cases this
theorem SoftR.run (h : Soft d' d φ) (hs : SoftS s' s) (hr : SoftR d' φ r' r) : SoftR d' φ (runR d' r' s') (runR d r s) := fun k hk => by
  obtain ⟨a1, a2⟩ := hr k hk
  obtain ⟨b1, b2, b3⟩ := hs
  have := h.lt k hk
  simp only [runR, hk, this, if_true]
  omega
theorem SoftR.bent {x' x : Nat} (hr : SoftR d' φ r' r) (hx : ∀ k, k < d'.bl.length → x'.testBit k = x.testBit (φ k)) : SoftR d' φ (bentR r' x') (bentR r x) := fun k hk => by
  obtain ⟨a1, a2⟩ := hr k hk
  unfold bentR
  rw [hx k hk]
  split <;> omega
theorem SoftR.all (h : Soft d' d φ) (hr : ∀ k, k < d.bl.length → 0 ≤ r k) : SoftR d' φ (bentR r' (allS d')) r := fun k hk => by
  have := hr _ (h.lt k hk)
  simp only [bentR, allS_bit hk, if_true]
  omega
theorem run_pos (hs : SoftS s' s) (hr : ∀ k, k < d.bl.length → 0 ≤ r k) : ∀ k, k < d.bl.length → 0 ≤ runR d r s k := fun k hk => by
  have := hr k hk
  obtain ⟨b1, b2, b3⟩ := hs
  simp only [runR, hk, if_true]
  omega
theorem bent_pos {x : Nat} (hr : ∀ k, k < d.bl.length → 0 ≤ r k) : ∀ k, k < d.bl.length → 0 ≤ bentR r x k := fun k hk => by
  have := hr k hk
  unfold bentR
  split <;> omega
end
/-- The rows grow no more. -/
theorem rows_soft {d' d : Dye} {φ : Nat → Nat} (h : Soft d' d φ) : ∀ (ss' ss : List (Int × Int)), SoftL ss' ss → ∀ (fr' fr i' i : Nat) (r' r : Nat → Int) (g : Nat), (∀ k, k < d.bl.length → 0 ≤ r k) → (g = 0 → SoftR d' φ r' r) → (rowsR d' fr' i' r' ss').length ≤ (rowsR d fr i r ss).length + g := by
  intro ss'
  induction ss' with
  | nil => intro ss _ _ _ _ _ _ _ _ _ _; simp [rowsR]
  | cons s' ss' ih =>
    intro ss hss fr' fr i' i r' r g hr hg
    cases ss with
    | nil => cases hss
    | cons s ss =>
      obtain ⟨hs, hss⟩ := hss
      simp only [rowsR]
      cases hf' : failing d' r' s' with
      | none =>
        cases hf : failing d r s with
        | none => exact ih ss hss _ _ _ _ _ _ g (run_pos hs hr) (fun e => (hg e).run h hs)
        | some b =>
          have := ih ss hss fr' i (i' + 1) (i + 1) (runR d' r' s') (runR d (bentR r (allS d)) s) (g + 1) (run_pos hs (bent_pos hr)) (fun e => by omega)
          simp only [List.length_cons]
          omega
      | some b' =>
        cases hf : failing d r s with
        | none =>
          cases g with
          | zero => rw [soft_failing h hs (hg rfl) hf] at hf'; cases hf'
          | succ g =>
            have := ih ss hss i' fr (i' + 1) (i + 1) (runR d' (bentR r' (allS d')) s') (runR d r s) g (run_pos hs hr) (fun _ => (SoftR.all h hr).run h hs)
            simp only [List.length_cons]
            omega
        | some b =>
          have := ih ss hss i' i (i' + 1) (i + 1) (runR d' (bentR r' (allS d')) s') (runR d (bentR r (allS d)) s) g (run_pos hs (bent_pos hr)) (fun _ => (SoftR.all h (bent_pos hr)).run h hs)
          simp only [List.length_cons]
          omega
/-- What is good stays good. -/
theorem good_soft {d' d : Dye} {φ ψ : Nat → Nat} (h : Soft d' d φ) (hψ : ∀ x k, x < 2 ^ d.bl.length → k < d'.bl.length → (ψ x).testBit k = x.testBit (φ k)) : ∀ (ss' ss : List (Int × Int)) (r' r : Nat → Int) (Q : List Nat), SoftL ss' ss → SoftR d' φ r' r → (∀ x ∈ Q, x < 2 ^ d.bl.length) → Good d r ss Q → Good d' r' ss' (Q.map ψ) := by
  intro ss'
  induction ss' with
  | nil => intro ss r' r Q _ _ _ _; trivial
  | cons s' ss' ih =>
    intro ss r' r Q hss hr hQ hg
    cases ss with
    | nil => cases hss
    | cons s ss =>
      obtain ⟨hs, hss⟩ := hss
      have hb : SoftR d' φ (bentR r' ((Q.map ψ).headD 0)) (bentR r (Q.headD 0)) := hr.bent fun k hk => by
        cases Q with
        | nil => simp
        | cons x Q => exact hψ x k (hQ x (by simp)) hk
      refine ⟨soft_failing h hs hb hg.1, ?_⟩
      rw [← List.map_drop]
      exact ih ss _ _ _ hss (hb.run h hs) (fun x hx => hQ x (List.mem_of_mem_drop hx)) hg.2
theorem soft_refl {d : Dye} (hw : ∀ b ∈ d.bl, 0 ≤ b.w.2) : Soft d d id :=
  ⟨fun _ h => h, Int.le_refl _, fun _ _ => Int.le_refl _, fun k h => hw _ (List.mem_of_getElem? (bladeAt_some h)), fun _ _ => Int.le_refl _⟩
theorem softL_refl : ∀ {l : List (Int × Int)}, (∀ s ∈ l, 0 ≤ s.1) → SoftL l l := by
  intro l
  induction l with
  | nil => intro _; trivial
  | cons s ss ih => intro h; exact ⟨⟨h s (by simp), Int.le_refl _, Int.le_refl _⟩, ih fun s hs => h s (by simp [hs])⟩
theorem sumP_soft {d' d : Dye} {ψ : Nat → Nat} : ∀ (Q : List Nat), (∀ x ∈ Q, priceR d' (ψ x) ≤ priceR d x) → sumP d' (Q.map ψ) ≤ sumP d Q := by
  intro Q
  induction Q with
  | nil => intro _; exact Int.le_refl _
  | cons x Q ih =>
    intro h
    rw [List.map_cons, sumP_cons, sumP_cons]
    have := h x (by simp)
    have := ih fun y hy => h y (by simp [hy])
    omega
/-- The best costs no more. -/
theorem best_soft {d' d : Dye} {φ ψ : Nat → Nat} (h : Soft d' d φ) (hψ : ∀ x k, x < 2 ^ d.bl.length → k < d'.bl.length → (ψ x).testBit k = x.testBit (φ k)) (hψb : ∀ x, x < 2 ^ d.bl.length → ψ x < 2 ^ d'.bl.length) (hp : ∀ x, x < 2 ^ d.bl.length → priceR d' (ψ x) ≤ priceR d x) {ss' ss : List (Int × Int)} {r' r : Nat → Int} (hss : SoftL ss' ss) (hl : ss'.length = ss.length) (hr : SoftR d' φ r' r) (hb : ∀ s ∈ ss, failing d zeroR s = none) :
    (bestR d' ss' r').1 ≤ (bestR d ss r).1 := by
  obtain ⟨a1, a2, a3, a4⟩ := best_good ss r hb
  have hg := good_soft h hψ ss' ss r' r _ hss hr a2 a3
  obtain ⟨b1, _⟩ := best_min ss' r' _ (by rw [List.length_map, a1, hl]) (fun x hx => by
    obtain ⟨y, hy, rfl⟩ := List.mem_map.1 hx
    exact hψb y (a2 y hy)) hg
  have := sumP_soft (d' := d') (d := d) (ψ := ψ) (bestR d ss r).2 (fun x hx => hp x (a2 x hx))
  omega

/-! ### one blade less -/
/-- A set, if a blade is taken out of the die. -/
def outS (w x : Nat) : Nat := x % 2 ^ w + x / 2 ^ (w + 1) * 2 ^ w
def skipB (w k : Nat) : Nat := if k < w then k else k + 1
theorem outS_all : ∀ w : Fin 5, ∀ x : Fin 32, (∀ k : Fin 5, (outS w.1 x.1).testBit k.1 = x.1.testBit (skipB w.1 k.1)) ∧ (bitsL (outS w.1 x.1)).length ≤ (bitsL x.1).length ∧ (∀ n : Fin 5, w.1 ≤ n.1 → x.1 < 2 ^ (n.1 + 1) → outS w.1 x.1 < 2 ^ n.1) ∧ (x.1 = 0 → outS w.1 x.1 = 0) := by decide +kernel
theorem price_out {d' d : Dye} {w x : Nat} (hw : w < 5) (hx : x < 32) (h1 : d'.stop = d.stop) (h2 : d'.bend = d.bend) (h3 : 0 ≤ d.stop) (h4 : 0 ≤ d.bend) : priceR d' (outS w x) ≤ priceR d x := by
  obtain ⟨_, a2, _, a4⟩ := outS_all ⟨w, hw⟩ ⟨x, hx⟩
  simp only at a2 a4
  unfold priceR
  rw [h1, h2]
  by_cases hx0 : x = 0
  · rw [if_pos (a4 hx0), if_pos hx0]; exact Int.le_refl _
  · rw [if_neg hx0]
    have c1 : ((bitsL (outS w x)).length : Int) * d.bend ≤ ((bitsL x).length : Int) * d.bend := Int.mul_le_mul_of_nonneg_right (by omega) h4
    have c2 : 0 ≤ ((bitsL x).length : Int) * d.bend := Int.mul_nonneg (Int.natCast_nonneg _) h4
    split <;> omega

/-! ### a stint less at the end -/
theorem rows_init {d : Dye} : ∀ (ss : List (Int × Int)) (s : Int × Int) (fr i : Nat) (r : Nat → Int), ∃ e : List Row, rowsR d fr i r (ss ++ [s]) = rowsR d fr i r ss ++ e ∧ e.length ≤ 1 := by
  intro ss
  induction ss with
  | nil =>
    intro s fr i r
    simp only [List.nil_append, rowsR]
    cases failing d r s with
    | none => exact ⟨[], rfl, by simp⟩
    | some b => exact ⟨_, rfl, by simp⟩
  | cons a ss ih =>
    intro s fr i r
    simp only [List.cons_append, rowsR]
    cases failing d r a with
    | none => exact ih s fr (i + 1) _
    | some b =>
      obtain ⟨e, h1, h2⟩ := ih s i (i + 1) (runR d (bentR r (allS d)) a)
      exact ⟨e, by rw [h1]; rfl, h2⟩
theorem good_init {d : Dye} : ∀ (ss : List (Int × Int)) (s : Int × Int) (r : Nat → Int) (Q : List Nat), Good d r (ss ++ [s]) Q → Good d r ss Q := by
  intro ss
  induction ss with
  | nil => intro s r Q _; trivial
  | cons a ss ih => intro s r Q h; exact ⟨h.1, ih s _ _ h.2⟩
theorem good_take {d : Dye} : ∀ (ss : List (Int × Int)) (r : Nat → Int) (Q : List Nat) (n : Nat), ss.length ≤ n → Good d r ss Q → Good d r ss (Q.take n) := by
  intro ss
  induction ss with
  | nil => intro r Q n _ _; trivial
  | cons a ss ih =>
    intro r Q n hn h
    cases n with
    | zero => simp at hn
    | succ n =>
      cases Q with
      | nil => rw [List.take_nil]; exact h
      | cons x Q => exact ⟨h.1, ih _ _ _ (by simpa using hn) h.2⟩
theorem price_nonneg {d : Dye} (h3 : 0 ≤ d.stop) (h4 : 0 ≤ d.bend) (x : Nat) : 0 ≤ priceR d x := by
  unfold priceR
  have c2 : 0 ≤ ((bitsL x).length : Int) * d.bend := Int.mul_nonneg (Int.natCast_nonneg _) h4
  split <;> omega
theorem sumP_take {d : Dye} (h3 : 0 ≤ d.stop) (h4 : 0 ≤ d.bend) : ∀ (Q : List Nat) (n : Nat), sumP d (Q.take n) ≤ sumP d Q := by
  intro Q
  induction Q with
  | nil => intro n; rw [List.take_nil]; exact Int.le_refl _
  | cons x Q ih =>
    intro n
    have h0 := price_nonneg h3 h4 x
    cases n with
    | zero =>
      have := ih 0
      rw [List.take_zero] at this ⊢
      rw [sumP_cons]
      omega
    | succ n =>
      have := ih n
      rw [List.take_succ_cons, sumP_cons, sumP_cons]
      omega
/-- A stint less at the end: the best costs no more. -/
theorem best_init {d : Dye} (h3 : 0 ≤ d.stop) (h4 : 0 ≤ d.bend) {ss : List (Int × Int)} {s : Int × Int} {r : Nat → Int} (hb : ∀ x ∈ ss ++ [s], failing d zeroR x = none) : (bestR d ss r).1 ≤ (bestR d (ss ++ [s]) r).1 := by
  obtain ⟨a1, a2, a3, a4⟩ := best_good (ss ++ [s]) r hb
  have hg := good_take ss r _ ss.length (Nat.le_refl _) (good_init ss s r _ a3)
  obtain ⟨b1, _⟩ := best_min ss r _ (by rw [List.length_take, a1]; simp) (fun x hx => a2 x (List.mem_of_mem_take hx)) hg
  have := sumP_take h3 h4 (bestR d (ss ++ [s]) r).2 ss.length
  omega
end Go.Proofs.YtdncppempgpooaaDoor

/- RuleMore, RuleLess: what Plan, Proof and Follow yield, of dies and stints that ask no more. -/
namespace Go.Proofs.YtdncppempgpooaaDoor
open Go.RowKit

/-- What the best costs. -/
def bestC (d : Dye) : List (Int × Int) → Int
  | [] => 0
  | s :: ss => (bestR d ss (runR d zeroR s)).1
def bestP (d : Dye) : List (Int × Int) → List Nat
  | [] => []
  | s :: ss => (bestR d ss (runR d zeroR s)).2
theorem bears_of {d : Dye} {l : List (Int × Int)} (hb : ∀ s ∈ l, failing d zeroR s = none) : bearsB d l = true := by
  unfold bearsB
  rw [List.all_eq_true]
  intro s h; rw [hb s h]; rfl
theorem plan_ok {d : Dye} {l : List (Int × Int)} (hd : dieB d = true) (hs : stintsB l = true) (hb : ∀ s ∈ l, failing d zeroR s = none) : planE d l = ((bestP d l).map Int.ofNat, bestC d l, 0) := by
  unfold planE
  rw [hd, hs, bears_of hb]
  cases l <;> rfl
theorem plan_no {d : Dye} {l : List (Int × Int)} (hd : dieB d = true) (hs : stintsB l = true) (hb : ∃ k, k < l.length ∧ stuckR d (segL l k k) ≠ none) : planE d l = ([], 0, 4) := by
  obtain ⟨k, hk, hn⟩ := hb
  have hbb : bearsB d l = false := by
    unfold bearsB
    rw [List.all_eq_false]
    refine ⟨l[k], List.getElem_mem hk, fun h => hn ?_⟩
    rw [seg_one (List.getElem?_eq_getElem hk)]
    simpa using h
  simp [planE, hd, hs, hbb]
theorem proof_ok {d : Dye} {l : List (Int × Int)} (hd : dieB d = true) (hs : stintsB l = true) (hb : ∀ s ∈ l, failing d zeroR s = none) : proofE d l = ((rowsR d 0 0 zeroR l).map rowP, (rowsR d 0 0 zeroR l).map rowK, 0) := by
  simp [proofE, hd, hs, bears_of hb]

section
variable {d' d : Dye} {φ ψ : Nat → Nat} {l' l : List (Int × Int)}
theorem softR_zero : SoftR d' φ zeroR zeroR := fun _ _ => ⟨Int.le_refl _, Int.le_refl _⟩
theorem soft_bears (h : Soft d' d φ) : ∀ {l' l : List (Int × Int)}, SoftL l' l → (∀ s ∈ l, failing d zeroR s = none) → ∀ s ∈ l', failing d' zeroR s = none := by
  intro l'
  induction l' with
  | nil => intro l _ _ s hs; cases hs
  | cons a l' ih =>
    intro l hss hb s hs
    cases l with
    | nil => cases hss
    | cons b l =>
      obtain ⟨h1, h2⟩ := hss
      rcases List.mem_cons.1 hs with rfl | hs
      · exact soft_failing h h1 softR_zero (hb b (by simp))
      · exact ih h2 (fun s hs => hb s (by simp [hs])) s hs
theorem softL_len : ∀ {l' l : List (Int × Int)}, SoftL l' l → l'.length = l.length := by
  intro l'
  induction l' with
  | nil => intro l h; cases l with | nil => rfl | cons _ _ => cases h
  | cons a l' ih => intro l h; cases l with | nil => cases h | cons b l => simp [ih h.2]
theorem soft_rows0 (h : Soft d' d φ) (hss : SoftL l' l) : (rowsR d' 0 0 zeroR l').length ≤ (rowsR d 0 0 zeroR l).length :=
  rows_soft h l' l hss 0 0 0 0 zeroR zeroR 0 (fun _ _ => Int.le_refl _) (fun _ => softR_zero)
theorem soft_bestC (h : Soft d' d φ) (hψ : ∀ x k, x < 2 ^ d.bl.length → k < d'.bl.length → (ψ x).testBit k = x.testBit (φ k)) (hψb : ∀ x, x < 2 ^ d.bl.length → ψ x < 2 ^ d'.bl.length) (hp : ∀ x, x < 2 ^ d.bl.length → priceR d' (ψ x) ≤ priceR d x) (hss : SoftL l' l) (hb : ∀ s ∈ l, failing d zeroR s = none) : bestC d' l' ≤ bestC d l := by
  cases l' with
  | nil =>
    cases l with
    | nil => exact Int.le_refl _
    | cons _ _ => cases hss
  | cons a l' =>
    cases l with
    | nil => cases hss
    | cons b l =>
      obtain ⟨h1, h2⟩ := hss
      exact best_soft h hψ hψb hp h2 (softL_len h2) (softR_zero.run h h1) (fun s hs => hb s (by simp [hs]))
end

/-! ### RuleMore: the same blades, off by no more -/
structure More (d' d : Dye) (l' l : List (Int × Int)) : Prop where
  soft : Soft d' d id
  len : d'.bl.length = d.bl.length
  stop : d'.stop = d.stop
  bend : d'.bend = d.bend
  st : SoftL l' l
theorem More.price {d' d : Dye} {l' l : List (Int × Int)} (h : More d' d l' l) (x : Nat) : priceR d' x = priceR d x := by
  unfold priceR; rw [h.stop, h.bend]
theorem more_plan {d' d : Dye} {l' l : List (Int × Int)} (h : More d' d l' l) (hb : ∀ s ∈ l, failing d zeroR s = none) : bestC d' l' ≤ bestC d l ∧ (rowsR d' 0 0 zeroR l').length ≤ (rowsR d 0 0 zeroR l).length :=
  ⟨soft_bestC (ψ := id) h.soft (fun _ _ _ _ => rfl) (fun x hx => by rw [h.len]; exact hx) (fun x _ => by rw [h.price]; exact Int.le_refl _) h.st hb, soft_rows0 h.soft h.st⟩
theorem best_cost {d : Dye} {l : List (Int × Int)} (hb : ∀ s ∈ l, failing d zeroR s = none) : (bestP d l).length = l.length - 1 ∧ (∀ x ∈ bestP d l, x < 2 ^ d.bl.length) ∧ Good d zeroR l (0 :: bestP d l) ∧ bestC d l = sumP d (bestP d l) := by
  cases l with
  | nil => exact ⟨rfl, fun _ h => (by cases h), trivial, rfl⟩
  | cons s ss =>
    obtain ⟨a1, a2, a3, a4⟩ := best_good ss (runR d zeroR s) (fun x h => hb x (by simp [h]))
    refine ⟨by show (bestR d ss (runR d zeroR s)).2.length = (s :: ss).length - 1; rw [a1]; simp, a2, ⟨?_, ?_⟩, a4⟩
    · have e : bentR zeroR ((0 :: bestP d (s :: ss)).headD 0) = zeroR := bent_zero _
      rw [e]; exact hb s (by simp)
    · have e : bentR zeroR ((0 :: bestP d (s :: ss)).headD 0) = zeroR := bent_zero _
      rw [e]; exact a3
theorem more_follow {d' d : Dye} {l' l : List (Int × Int)} (h : More d' d l' l) (hd : dieB d' = true) (hs : stintsB l' = true) (hb : ∀ s ∈ l, failing d zeroR s = none) : followE d' l' ((bestP d l).map Int.ofNat) = (bestC d l, (l'.length : Int), 0, 0) := by
  obtain ⟨a1, a2, a3, a4⟩ := best_cost hb
  have hl := softL_len h.st
  have hnat : natsOf ((bestP d l).map Int.ofNat) = bestP d l := by
    unfold natsOf
    rw [List.map_map]
    conv => rhs; rw [← List.map_id (bestP d l)]
    exact List.map_congr_left fun x _ => rfl
  have hq : ((bestP d l).map Int.ofNat).length = l'.length - 1 := by rw [List.length_map, a1, hl]
  have hx : ∀ x ∈ (bestP d l).map Int.ofNat, 0 ≤ x ∧ x < (2 ^ d'.bl.length : Nat) := fun x hx => by
    obtain ⟨y, hy, rfl⟩ := List.mem_map.1 hx
    have := a2 y hy
    rw [h.len]
    exact ⟨Int.natCast_nonneg _, Int.ofNat_lt.2 this⟩
  have hg : Good d' zeroR l' (0 :: bestP d l) := by
    have := good_soft (ψ := id) h.soft (fun _ _ _ _ => rfl) l' l zeroR zeroR _ h.st softR_zero (fun x hx => by
      rcases List.mem_cons.1 hx with rfl | hx
      · exact Nat.two_pow_pos _
      · exact a2 x hx) a3
    rwa [List.map_id] at this
  have hpb := plan_is hq hx
  have hE : followE d' l' ((bestP d l).map Int.ofNat) = goR d' 0 zeroR 0 l' (0 :: natsOf ((bestP d l).map Int.ofNat)) := by simp [followE, hd, hs, hpb]
  rw [follow_is d' l' _ (by rw [hq]; omega), hnat, (good_iff _ _ _ _).2 hg] at hE
  rw [hE]
  have hc : costR d' ((bestP d l).map Int.ofNat) = sumP d' (bestP d l) := by
    unfold costR sumP
    rw [List.map_map]
    congr 1
  have hcs : sumP d' (bestP d l) = sumP d (bestP d l) := by
    unfold sumP
    congr 1
    exact List.map_congr_left fun x _ => h.price x
  rw [hc, hcs, ← a4]

/-! ### RuleLess -/
theorem less_stint {d : Dye} {l : List (Int × Int)} {s : Int × Int} (hd : dieB d = true) (hb : ∀ x ∈ l ++ [s], failing d zeroR x = none) : bestC d l ≤ bestC d (l ++ [s]) ∧ ∃ e : List Row, rowsR d 0 0 zeroR (l ++ [s]) = rowsR d 0 0 zeroR l ++ e ∧ e.length ≤ 1 := by
  obtain ⟨_, _, _, ⟨s1, _⟩, ⟨b1, _⟩⟩ := dieB_parts hd
  refine ⟨?_, rows_init l s 0 0 zeroR⟩
  cases l with
  | nil => 
    show 0 ≤ (bestR d [] _).1
    simp [bestR]
  | cons a ss => exact best_init s1 b1 (fun x hx => hb x (by simp only [List.cons_append, List.mem_cons]; exact .inr hx))
/-- A die without one of its blades. -/
@[reducible] def fewD (d : Dye) (w : Nat) : Dye := { d with bl := d.bl.take w ++ d.bl.drop (w + 1) }
theorem few_at {d : Dye} {w : Nat} (hw : w < d.bl.length) (k : Nat) : bladeAt (fewD d w) k = bladeAt d (skipB w k) := by
  unfold bladeAt fewD skipB
  congr 1
  by_cases h : k < w
  · rw [if_pos h, List.getElem?_append_left (by rw [List.length_take]; omega), List.getElem?_take_of_lt h]
  · rw [if_neg h, List.getElem?_append_right (by rw [List.length_take]; omega), List.length_take, Nat.min_eq_left (by omega), List.getElem?_drop]
    congr 1
    omega
theorem few_len {d : Dye} {w : Nat} (hw : w < d.bl.length) : (fewD d w).bl.length + 1 = d.bl.length := by
  simp; omega
theorem few_soft {d : Dye} {w : Nat} (hd : dieB d = true) (hw : w < d.bl.length) : Soft (fewD d w) d (skipB w) := by
  obtain ⟨_, hbs, _⟩ := dieB_parts hd
  have hl := few_len hw
  have hsk : ∀ k, k < (fewD d w).bl.length → skipB w k < d.bl.length := fun k hk => by unfold skipB; split <;> omega
  exact ⟨hsk, Int.le_refl _, fun k _ => by rw [few_at hw]; exact Int.le_refl _, fun k hk => by
    rw [few_at hw]
    have := hbs _ (List.mem_of_getElem? (bladeAt_some (hsk k hk)))
    omega, fun k _ => by rw [few_at hw]; exact Int.le_refl _⟩
theorem few_die {d : Dye} {w : Nat} (hd : dieB d = true) (hw : w < d.bl.length) (h2 : 2 ≤ d.bl.length) : dieB (fewD d w) = true := by
  have hl := few_len hw
  simp only [dieB, fromB, Bool.and_eq_true, decide_eq_true_eq, List.all_eq_true] at hd ⊢
  obtain ⟨⟨⟨⟨h1, h3⟩, h4⟩, h5⟩, h6⟩ := hd
  have hlI : ((fewD d w).bl.length : Int) + 1 = d.bl.length := by omega
  refine ⟨⟨⟨⟨⟨by show 1 ≤ ((fewD d w).bl.length : Int); omega, by show ((fewD d w).bl.length : Int) ≤ 5; omega⟩, fun b hb => h3 b ?_⟩, h4⟩, h5⟩, h6⟩
  rcases List.mem_append.1 hb with hb | hb
  · exact List.mem_of_mem_take hb
  · exact List.mem_of_mem_drop hb
theorem less_blade {d : Dye} {l : List (Int × Int)} {w : Nat} (hd : dieB d = true) (hs : stintsB l = true) (hw : w < d.bl.length) (hb : ∀ s ∈ l, failing d zeroR s = none) : (∀ s ∈ l, failing (fewD d w) zeroR s = none) ∧ bestC (fewD d w) l ≤ bestC d l ∧ (rowsR (fewD d w) 0 0 zeroR l).length ≤ (rowsR d 0 0 zeroR l).length := by
  obtain ⟨⟨_, l5⟩, _, _, ⟨s1, _⟩, ⟨b1, _⟩⟩ := dieB_parts hd
  have hS := few_soft hd hw
  have hl := few_len hw
  have hss : SoftL l l := softL_refl fun s h => by
    simp only [stintsB, Bool.and_eq_true, List.all_eq_true] at hs
    have := hs.2 s h
    simp only [stintB, fromB, Bool.and_eq_true, decide_eq_true_eq] at this
    omega
  have hx5 : ∀ x, x < 2 ^ d.bl.length → x < 32 := fun x hx => Nat.lt_of_lt_of_le hx (by
    have : (2 : Nat) ^ d.bl.length ≤ 2 ^ 5 := Nat.pow_le_pow_right (by omega) l5
    simpa using this)
  refine ⟨soft_bears hS hss hb, soft_bestC (ψ := outS w) hS (fun x k hx hk => ?_) (fun x hx => ?_) (fun x hx => ?_) hss hb, soft_rows0 hS hss⟩
  · exact (outS_all ⟨w, by omega⟩ ⟨x, hx5 x hx⟩).1 ⟨k, by omega⟩
  · have := (outS_all ⟨w, by omega⟩ ⟨x, hx5 x hx⟩).2.2.1 ⟨(fewD d w).bl.length, by omega⟩ (by show w ≤ (fewD d w).bl.length; omega)
    refine this ?_
    show x < 2 ^ ((fewD d w).bl.length + 1)
    rw [hl]; exact hx
  · exact price_out (by omega) (hx5 x hx) rfl rfl s1 b1
end Go.Proofs.YtdncppempgpooaaDoor

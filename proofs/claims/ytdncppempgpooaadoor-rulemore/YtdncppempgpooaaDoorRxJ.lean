/- Several texts in one (a claim holds at most 60 files): each has its own words ahead of it. -/
import Derived.Test.YtdncppempgpooaaDoorRxE
import Derived.Test.YtdncppempgpooaaDoorRxB
import Derived.Deep.DeepCutAuto
import Derived.Deep.CutRange
import Derived.Test.YtdncppempgpooaaDoorRvT
import Derived.Test.YtdncppempgpooaaDoorRvK
set_option linter.unusedSimpArgs false
set_option linter.unusedVariables false

/- Several texts in one (a claim holds at most 60 files): each has its own words ahead of it. -/

/- Dies and stints that ask no more: what is good stays good, the best costs no more, the rows grow no more. -/
namespace Go.Proofs.YtdncppempgpooaaDoor
open Go.RowKit

/-- A die that asks no more: each of its blades is one of the other's, and is off by no more. -/
structure Soft (d' d : Dye) (φ : Nat → Nat) : Prop where
  lt : ∀ k, k < d'.bl.length → φ k < d.bl.length
  bound : d.bound ≤ d'.bound
  f : ∀ k, k < d'.bl.length → (bladeAt d' k).f.2 ≤ (bladeAt d (φ k)).f.2
  w0 : ∀ k, k < d'.bl.length → 0 ≤ (bladeAt d' k).w.2
  w : ∀ k, k < d'.bl.length → (bladeAt d' k).w.2 ≤ (bladeAt d (φ k)).w.2
def SoftS (s' s : Int × Int) : Prop := 0 ≤ s'.1 ∧ s'.1 ≤ s.1 ∧ s.2 ≤ s'.2
def SoftL : List (Int × Int) → List (Int × Int) → Prop
  | [], [] => True
  | s' :: ss', s :: ss => SoftS s' s ∧ SoftL ss' ss
  | _, _ => False
def SoftR (d' : Dye) (φ : Nat → Nat) (r' r : Nat → Int) : Prop := ∀ k, k < d'.bl.length → 0 ≤ r' k ∧ r' k ≤ r (φ k)
section
variable {d' d : Dye} {φ : Nat → Nat} {r' r : Nat → Int} {s' s : Int × Int}
theorem soft_fails (h : Soft d' d φ) (hs : SoftS s' s) (hr : SoftR d' φ r' r) {k : Nat} (hk : k < d'.bl.length) (hf : failsB d' r' k s' = true) : failsB d r (φ k) s = true := by
  unfold failsB mostV at hf ⊢
  have h1 := of_decide_eq_true hf
  obtain ⟨a1, a2⟩ := hr k hk
  obtain ⟨b1, b2, b3⟩ := hs
  have c1 := Int.mul_le_mul_of_nonneg_right (show r' k + s'.1 ≤ r (φ k) + s.1 by omega) (h.w0 k hk)
  have c2 := Int.mul_le_mul_of_nonneg_left (h.w k hk) (show 0 ≤ r (φ k) + s.1 by omega)
  have := h.f k hk
  have := h.bound
  exact decide_eq_true (by omega)
theorem soft_failing (h : Soft d' d φ) (hs : SoftS s' s) (hr : SoftR d' φ r' r) (hf : failing d r s = none) : failing d' r' s' = none := by
  rw [failing_iff] at hf ⊢
  intro k hk
  cases hc : failsB d' r' k s' with
  | false => rfl
  | true =>
    have := soft_fails h hs hr hk hc
    rw [hf _ (h.lt k hk)] at this
    cases this
theorem SoftR.run (h : Soft d' d φ) (hs : SoftS s' s) (hr : SoftR d' φ r' r) : SoftR d' φ (runR d' r' s') (runR d r s) := fun k hk => by
  obtain ⟨a1, a2⟩ := hr k hk
  obtain ⟨b1, b2, b3⟩ := hs
  have := h.lt k hk
  simp only [runR, hk, this, if_true]
  omega
theorem SoftR.bent {x' x : Nat} (hr : SoftR d' φ r' r) (hx : ∀ k, k < d'.bl.length → x'.testBit k = x.testBit (φ k)) : SoftR d' φ (bentR r' x') (bentR r x) := fun k hk => by
  obtain ⟨a1, a2⟩ := hr k hk
  unfold bentR
  rw [hx k hk]
  split <;> omega
theorem SoftR.all (h : Soft d' d φ) (hr : ∀ k, k < d.bl.length → 0 ≤ r k) : SoftR d' φ (bentR r' (allS d')) r := fun k hk => by
  have := hr _ (h.lt k hk)
  simp only [bentR, allS_bit hk, if_true]
  omega
theorem run_pos (hs : SoftS s' s) (hr : ∀ k, k < d.bl.length → 0 ≤ r k) : ∀ k, k < d.bl.length → 0 ≤ runR d r s k := fun k hk => by
  have := hr k hk
  obtain ⟨b1, b2, b3⟩ := hs
  simp only [runR, hk, if_true]
  omega
theorem bent_pos {x : Nat} (hr : ∀ k, k < d.bl.length → 0 ≤ r k) : ∀ k, k < d.bl.length → 0 ≤ bentR r x k := fun k hk => by
  have := hr k hk
  unfold bentR
  split <;> omega
end
/-- The rows grow no more. -/
theorem rows_soft {d' d : Dye} {φ : Nat → Nat} (h : Soft d' d φ) : ∀ (ss' ss : List (Int × Int)), SoftL ss' ss → ∀ (fr' fr i' i : Nat) (r' r : Nat → Int) (g : Nat), (∀ k, k < d.bl.length → 0 ≤ r k) → (g = 0 → SoftR d' φ r' r) → (rowsR d' fr' i' r' ss').length ≤ (rowsR d fr i r ss).length + g := by
  intro ss'
  induction ss' with
  | nil => intro ss _ _ _ _ _ _ _ _ _ _; simp [rowsR]
  | cons s' ss' ih =>
    intro ss hss fr' fr i' i r' r g hr hg
    cases ss with
    | nil => cases hss
    | cons s ss =>
      obtain ⟨hs, hss⟩ := hss
      simp only [rowsR]
      cases hf' : failing d' r' s' with
      | none =>
        cases hf : failing d r s with
        | none => exact ih ss hss _ _ _ _ _ _ g (run_pos hs hr) (fun e => (hg e).run h hs)
        | some b =>
          have := ih ss hss fr' i (i' + 1) (i + 1) (runR d' r' s') (runR d (bentR r (allS d)) s) (g + 1) (run_pos hs (bent_pos hr)) (fun e => by omega)
          simp only [List.length_cons]
          omega
      | some b' =>
        cases hf : failing d r s with
        | none =>
          cases g with
          | zero => rw [soft_failing h hs (hg rfl) hf] at hf'; cases hf'
          | succ g =>
            have := ih ss hss i' fr (i' + 1) (i + 1) (runR d' (bentR r' (allS d')) s') (runR d r s) g (run_pos hs hr) (fun _ => (SoftR.all h hr).run h hs)
            simp only [List.length_cons]
            omega
        | some b =>
          have := ih ss hss i' i (i' + 1) (i + 1) (runR d' (bentR r' (allS d')) s') (runR d (bentR r (allS d)) s) g (run_pos hs (bent_pos hr)) (fun _ => (SoftR.all h (bent_pos hr)).run h hs)
          simp only [List.length_cons]
          omega
/-- What is good stays good. -/
theorem good_soft {d' d : Dye} {φ ψ : Nat → Nat} (h : Soft d' d φ) (hψ : ∀ x k, x < 2 ^ d.bl.length → k < d'.bl.length → (ψ x).testBit k = x.testBit (φ k)) : ∀ (ss' ss : List (Int × Int)) (r' r : Nat → Int) (Q : List Nat), SoftL ss' ss → SoftR d' φ r' r → (∀ x ∈ Q, x < 2 ^ d.bl.length) → Good d r ss Q → Good d' r' ss' (Q.map ψ) := by
  intro ss'
  induction ss' with
  | nil => intro ss r' r Q _ _ _ _; trivial
  | cons s' ss' ih =>
    intro ss r' r Q hss hr hQ hg
    cases ss with
    | nil => cases hss
    | cons s ss =>
      obtain ⟨hs, hss⟩ := hss
      have hb : SoftR d' φ (bentR r' ((Q.map ψ).headD 0)) (bentR r (Q.headD 0)) := hr.bent fun k hk => by
        cases Q with
        | nil => simp
        | cons x Q => exact hψ x k (hQ x (by simp)) hk
      refine ⟨soft_failing h hs hb hg.1, ?_⟩
      rw [← List.map_drop]
      exact ih ss _ _ _ hss (hb.run h hs) (fun x hx => hQ x (List.mem_of_mem_drop hx)) hg.2
theorem soft_refl {d : Dye} (hw : ∀ b ∈ d.bl, 0 ≤ b.w.2) : Soft d d id :=
  ⟨fun _ h => h, Int.le_refl _, fun _ _ => Int.le_refl _, fun k h => hw _ (List.mem_of_getElem? (bladeAt_some h)), fun _ _ => Int.le_refl _⟩
theorem softL_refl : ∀ {l : List (Int × Int)}, (∀ s ∈ l, 0 ≤ s.1) → SoftL l l := by
  intro l
  induction l with
  | nil => intro _; trivial
  | cons s ss ih => intro h; exact ⟨⟨h s (by simp), Int.le_refl _, Int.le_refl _⟩, ih fun s hs => h s (by simp [hs])⟩
theorem sumP_soft {d' d : Dye} {ψ : Nat → Nat} : ∀ (Q : List Nat), (∀ x ∈ Q, priceR d' (ψ x) ≤ priceR d x) → sumP d' (Q.map ψ) ≤ sumP d Q := by
  intro Q
  induction Q with
  | nil => intro _; exact Int.le_refl _
  | cons x Q ih =>
    intro h
    rw [List.map_cons, sumP_cons, sumP_cons]
    have := h x (by simp)
    have := ih fun y hy => h y (by simp [hy])
    omega
/-- The best costs no more. -/
theorem best_soft {d' d : Dye} {φ ψ : Nat → Nat} (h : Soft d' d φ) (hψ : ∀ x k, x < 2 ^ d.bl.length → k < d'.bl.length → (ψ x).testBit k = x.testBit (φ k)) (hψb : ∀ x, x < 2 ^ d.bl.length → ψ x < 2 ^ d'.bl.length) (hp : ∀ x, x < 2 ^ d.bl.length → priceR d' (ψ x) ≤ priceR d x) {ss' ss : List (Int × Int)} {r' r : Nat → Int} (hss : SoftL ss' ss) (hl : ss'.length = ss.length) (hr : SoftR d' φ r' r) (hb : ∀ s ∈ ss, failing d zeroR s = none) :
    (bestR d' ss' r').1 ≤ (bestR d ss r).1 := by
  obtain ⟨a1, a2, a3, a4⟩ := best_good ss r hb
  have hg := good_soft h hψ ss' ss r' r _ hss hr a2 a3
  obtain ⟨b1, _⟩ := best_min ss' r' _ (by rw [List.length_map, a1, hl]) (fun x hx => by
    obtain ⟨y, hy, rfl⟩ := List.mem_map.1 hx
    exact hψb y (a2 y hy)) hg
  have := sumP_soft (d' := d') (d := d) (ψ := ψ) (bestR d ss r).2 (fun x hx => hp x (a2 x hx))
  omega

/-! ### one blade less -/
/-- A set, if a blade is taken out of the die. -/
def outS (w x : Nat) : Nat := x % 2 ^ w + x / 2 ^ (w + 1) * 2 ^ w
def skipB (w k : Nat) : Nat := if k < w then k else k + 1
theorem outS_all : ∀ w : Fin 5, ∀ x : Fin 32, (∀ k : Fin 5, (outS w.1 x.1).testBit k.1 = x.1.testBit (skipB w.1 k.1)) ∧ (bitsL (outS w.1 x.1)).length ≤ (bitsL x.1).length ∧ (∀ n : Fin 5, w.1 ≤ n.1 → x.1 < 2 ^ (n.1 + 1) → outS w.1 x.1 < 2 ^ n.1) ∧ (x.1 = 0 → outS w.1 x.1 = 0) := by decide +kernel
theorem price_out {d' d : Dye} {w x : Nat} (hw : w < 5) (hx : x < 32) (h1 : d'.stop = d.stop) (h2 : d'.bend = d.bend) (h3 : 0 ≤ d.stop) (h4 : 0 ≤ d.bend) : priceR d' (outS w x) ≤ priceR d x := by
  obtain ⟨_, a2, _, a4⟩ := outS_all ⟨w, hw⟩ ⟨x, hx⟩
  simp only at a2 a4
  unfold priceR
  rw [h1, h2]
  by_cases hx0 : x = 0
  · rw [if_pos (a4 hx0), if_pos hx0]; exact Int.le_refl _
  · rw [if_neg hx0]
    have c1 : ((bitsL (outS w x)).length : Int) * d.bend ≤ ((bitsL x).length : Int) * d.bend := Int.mul_le_mul_of_nonneg_right (by omega) h4
    have c2 : 0 ≤ ((bitsL x).length : Int) * d.bend := Int.mul_nonneg (Int.natCast_nonneg _) h4
    split <;> omega

/-! ### a stint less at the end -/
theorem rows_init {d : Dye} : ∀ (ss : List (Int × Int)) (s : Int × Int) (fr i : Nat) (r : Nat → Int), ∃ e : List Row, rowsR d fr i r (ss ++ [s]) = rowsR d fr i r ss ++ e ∧ e.length ≤ 1 := by
  intro ss
  induction ss with
  | nil =>
    intro s fr i r
    simp only [List.nil_append, rowsR]
    cases failing d r s with
    | none => exact ⟨[], rfl, by simp⟩
    | some b => exact ⟨_, rfl, by simp⟩
  | cons a ss ih =>
    intro s fr i r
    simp only [List.cons_append, rowsR]
    cases failing d r a with
    | none => exact ih s fr (i + 1) _
    | some b =>
      obtain ⟨e, h1, h2⟩ := ih s i (i + 1) (runR d (bentR r (allS d)) a)
      exact ⟨e, by rw [h1]; rfl, h2⟩
theorem good_init {d : Dye} : ∀ (ss : List (Int × Int)) (s : Int × Int) (r : Nat → Int) (Q : List Nat), Good d r (ss ++ [s]) Q → Good d r ss Q := by
  intro ss
  induction ss with
  | nil => intro s r Q _; trivial
  | cons a ss ih => intro s r Q h; exact ⟨h.1, ih s _ _ h.2⟩
theorem good_take {d : Dye} : ∀ (ss : List (Int × Int)) (r : Nat → Int) (Q : List Nat) (n : Nat), ss.length ≤ n → Good d r ss Q → Good d r ss (Q.take n) := by
  intro ss
  induction ss with
  | nil => intro r Q n _ _; trivial
  | cons a ss ih =>
    intro r Q n hn h
    cases n with
    | zero => simp at hn
    | succ n =>
      cases Q with
      | nil => rw [List.take_nil]; exact h
      | cons x Q => exact ⟨h.1, ih _ _ _ (by simpa using hn) h.2⟩
theorem price_nonneg {d : Dye} (h3 : 0 ≤ d.stop) (h4 : 0 ≤ d.bend) (x : Nat) : 0 ≤ priceR d x := by
  unfold priceR
  have c2 : 0 ≤ ((bitsL x).length : Int) * d.bend := Int.mul_nonneg (Int.natCast_nonneg _) h4
  split <;> omega
theorem sumP_take {d : Dye} (h3 : 0 ≤ d.stop) (h4 : 0 ≤ d.bend) : ∀ (Q : List Nat) (n : Nat), sumP d (Q.take n) ≤ sumP d Q := by
  intro Q
  induction Q with
  | nil => intro n; rw [List.take_nil]; exact Int.le_refl _
  | cons x Q ih =>
    intro n
    have h0 := price_nonneg h3 h4 x
    cases n with
    | zero =>
      have := ih 0
      rw [List.take_zero] at this ⊢
      rw [sumP_cons]
      omega
    | succ n =>
      have := ih n
      rw [List.take_succ_cons, sumP_cons, sumP_cons]
      omega
/-- A stint less at the end: the best costs no more. -/
theorem best_init {d : Dye} (h3 : 0 ≤ d.stop) (h4 : 0 ≤ d.bend) {ss : List (Int × Int)} {s : Int × Int} {r : Nat → Int} (hb : ∀ x ∈ ss ++ [s], failing d zeroR x = none) : (bestR d ss r).1 ≤ (bestR d (ss ++ [s]) r).1 := by
  obtain ⟨a1, a2, a3, a4⟩ := best_good (ss ++ [s]) r hb
  have hg := good_take ss r _ ss.length (Nat.le_refl _) (good_init ss s r _ a3)
  obtain ⟨b1, _⟩ := best_min ss r _ (by rw [List.length_take, a1]; simp) (fun x hx => a2 x (List.mem_of_mem_take hx)) hg
  have := sumP_take h3 h4 (bestR d (ss ++ [s]) r).2 ss.length
  omega
end Go.Proofs.YtdncppempgpooaaDoor

/- RuleMore, RuleLess: what Plan, Proof and Follow yield, of dies and stints that ask no more. -/
namespace Go.Proofs.YtdncppempgpooaaDoor
open Go.RowKit

/-- What the best costs. -/
def bestC (d : Dye) : List (Int × Int) → Int
  | [] => 0
  | s :: ss => (bestR d ss (runR d zeroR s)).1
def bestP (d : Dye) : List (Int × Int) → List Nat
  | [] => []
  | s :: ss => (bestR d ss (runR d zeroR s)).2
theorem bears_of {d : Dye} {l : List (Int × Int)} (hb : ∀ s ∈ l, failing d zeroR s = none) : bearsB d l = true := by
  unfold bearsB
  rw [List.all_eq_true]
  intro s h; rw [hb s h]; rfl
theorem plan_ok {d : Dye} {l : List (Int × Int)} (hd : dieB d = true) (hs : stintsB l = true) (hb : ∀ s ∈ l, failing d zeroR s = none) : planE d l = ((bestP d l).map Int.ofNat, bestC d l, 0) := by
  unfold planE
  rw [hd, hs, bears_of hb]
  cases l <;> rfl
theorem plan_no {d : Dye} {l : List (Int × Int)} (hd : dieB d = true) (hs : stintsB l = true) (hb : ∃ k, k < l.length ∧ stuckR d (segL l k k) ≠ none) : planE d l = ([], 0, 4) := by
  obtain ⟨k, hk, hn⟩ := hb
  have hbb : bearsB d l = false := by
    unfold bearsB
    rw [List.all_eq_false]
    refine ⟨l[k], List.getElem_mem hk, fun h => hn ?_⟩
    rw [seg_one (List.getElem?_eq_getElem hk)]
    simpa using h
  simp [planE, hd, hs, hbb]
theorem proof_ok {d : Dye} {l : List (Int × Int)} (hd : dieB d = true) (hs : stintsB l = true) (hb : ∀ s ∈ l, failing d zeroR s = none) : proofE d l = ((rowsR d 0 0 zeroR l).map rowP, (rowsR d 0 0 zeroR l).map rowK, 0) := by
  simp [proofE, hd, hs, bears_of hb]

section
variable {d' d : Dye} {φ ψ : Nat → Nat} {l' l : List (Int × Int)}
theorem softR_zero : SoftR d' φ zeroR zeroR := fun _ _ => ⟨Int.le_refl _, Int.le_refl _⟩
theorem soft_bears (h : Soft d' d φ) : ∀ {l' l : List (Int × Int)}, SoftL l' l → (∀ s ∈ l, failing d zeroR s = none) → ∀ s ∈ l', failing d' zeroR s = none := by
  intro l'
  induction l' with
  | nil => intro l _ _ s hs; cases hs
  | cons a l' ih =>
    intro l hss hb s hs
    cases l with
    | nil => cases hss
    | cons b l =>
      obtain ⟨h1, h2⟩ := hss
      rcases List.mem_cons.1 hs with rfl | hs
      · exact soft_failing h h1 softR_zero (hb b (by simp))
      · exact ih h2 (fun s hs => hb s (by simp [hs])) s hs
theorem softL_len : ∀ {l' l : List (Int × Int)}, SoftL l' l → l'.length = l.length := by
  intro l'
  induction l' with
  | nil => intro l h; cases l with | nil => rfl | cons _ _ => cases h
  | cons a l' ih => intro l h; cases l with | nil => cases h | cons b l => simp [ih h.2]
theorem soft_rows0 (h : Soft d' d φ) (hss : SoftL l' l) : (rowsR d' 0 0 zeroR l').length ≤ (rowsR d 0 0 zeroR l).length :=
  rows_soft h l' l hss 0 0 0 0 zeroR zeroR 0 (fun _ _ => Int.le_refl _) (fun _ => softR_zero)
theorem soft_bestC (h : Soft d' d φ) (hψ : ∀ x k, x < 2 ^ d.bl.length → k < d'.bl.length → (ψ x).testBit k = x.testBit (φ k)) (hψb : ∀ x, x < 2 ^ d.bl.length → ψ x < 2 ^ d'.bl.length) (hp : ∀ x, x < 2 ^ d.bl.length → priceR d' (ψ x) ≤ priceR d x) (hss : SoftL l' l) (hb : ∀ s ∈ l, failing d zeroR s = none) : bestC d' l' ≤ bestC d l := by
  cases l' with
  | nil =>
    cases l with
    | nil => exact Int.le_refl _
    | cons _ _ => cases hss
  | cons a l' =>
    cases l with
    | nil => cases hss
    | cons b l =>
      obtain ⟨h1, h2⟩ := hss
      exact best_soft h hψ hψb hp h2 (softL_len h2) (softR_zero.run h h1) (fun s hs => hb s (by simp [hs]))
end

/-! ### RuleMore: the same blades, off by no more -/
structure More (d' d : Dye) (l' l : List (Int × Int)) : Prop where
  soft : Soft d' d id
  len : d'.bl.length = d.bl.length
  stop : d'.stop = d.stop
  bend : d'.bend = d.bend
  st : SoftL l' l
theorem More.price {d' d : Dye} {l' l : List (Int × Int)} (h : More d' d l' l) (x : Nat) : priceR d' x = priceR d x := by
  unfold priceR; rw [h.stop, h.bend]
theorem more_plan {d' d : Dye} {l' l : List (Int × Int)} (h : More d' d l' l) (hb : ∀ s ∈ l, failing d zeroR s = none) : bestC d' l' ≤ bestC d l ∧ (rowsR d' 0 0 zeroR l').length ≤ (rowsR d 0 0 zeroR l).length :=
  ⟨soft_bestC (ψ := id) h.soft (fun _ _ _ _ => rfl) (fun x hx => by rw [h.len]; exact hx) (fun x _ => by rw [h.price]; exact Int.le_refl _) h.st hb, soft_rows0 h.soft h.st⟩
theorem best_cost {d : Dye} {l : List (Int × Int)} (hb : ∀ s ∈ l, failing d zeroR s = none) : (bestP d l).length = l.length - 1 ∧ (∀ x ∈ bestP d l, x < 2 ^ d.bl.length) ∧ Good d zeroR l (0 :: bestP d l) ∧ bestC d l = sumP d (bestP d l) := by
  cases l with
  | nil => exact ⟨rfl, fun _ h => (by cases h), trivial, rfl⟩
  | cons s ss =>
    obtain ⟨a1, a2, a3, a4⟩ := best_good ss (runR d zeroR s) (fun x h => hb x (by simp [h]))
    refine ⟨by show (bestR d ss (runR d zeroR s)).2.length = (s :: ss).length - 1; rw [a1]; simp, a2, ⟨?_, ?_⟩, a4⟩
    · have e : bentR zeroR ((0 :: bestP d (s :: ss)).headD 0) = zeroR := bent_zero _
      rw [e]; exact hb s (by simp)
    · have e : bentR zeroR ((0 :: bestP d (s :: ss)).headD 0) = zeroR := bent_zero _
      rw [e]; exact a3
theorem more_follow {d' d : Dye} {l' l : List (Int × Int)} (h : More d' d l' l) (hd : dieB d' = true) (hs : stintsB l' = true) (hb : ∀ s ∈ l, failing d zeroR s = none) : followE d' l' ((bestP d l).map Int.ofNat) = (bestC d l, (l'.length : Int), 0, 0) := by
  obtain ⟨a1, a2, a3, a4⟩ := best_cost hb
  have hl := softL_len h.st
  have hnat : natsOf ((bestP d l).map Int.ofNat) = bestP d l := by
    unfold natsOf
    rw [List.map_map]
    conv => rhs; rw [← List.map_id (bestP d l)]
    exact List.map_congr_left fun x _ => rfl
  have hq : ((bestP d l).map Int.ofNat).length = l'.length - 1 := by rw [List.length_map, a1, hl]
  have hx : ∀ x ∈ (bestP d l).map Int.ofNat, 0 ≤ x ∧ x < (2 ^ d'.bl.length : Nat) := fun x hx => by
    obtain ⟨y, hy, rfl⟩ := List.mem_map.1 hx
    have := a2 y hy
    rw [h.len]
    exact ⟨Int.natCast_nonneg _, Int.ofNat_lt.2 this⟩
  have hg : Good d' zeroR l' (0 :: bestP d l) := by
    have := good_soft (ψ := id) h.soft (fun _ _ _ _ => rfl) l' l zeroR zeroR _ h.st softR_zero (fun x hx => by
      rcases List.mem_cons.1 hx with rfl | hx
      · exact Nat.two_pow_pos _
      · exact a2 x hx) a3
    rwa [List.map_id] at this
  have hpb := plan_is hq hx
  have hE : followE d' l' ((bestP d l).map Int.ofNat) = goR d' 0 zeroR 0 l' (0 :: natsOf ((bestP d l).map Int.ofNat)) := by simp [followE, hd, hs, hpb]
  rw [follow_is d' l' _ (by rw [hq]; omega), hnat, (good_iff _ _ _ _).2 hg] at hE
  rw [hE]
  have hc : costR d' ((bestP d l).map Int.ofNat) = sumP d' (bestP d l) := by
    unfold costR sumP
    rw [List.map_map]
    congr 1
  have hcs : sumP d' (bestP d l) = sumP d (bestP d l) := by
    unfold sumP
    congr 1
    exact List.map_congr_left fun x _ => h.price x
  rw [hc, hcs, ← a4]

/-! ### RuleLess -/
theorem less_stint {d : Dye} {l : List (Int × Int)} {s : Int × Int} (hd : dieB d = true) (hb : ∀ x ∈ l ++ [s], failing d zeroR x = none) : bestC d l ≤ bestC d (l ++ [s]) ∧ ∃ e : List Row, rowsR d 0 0 zeroR (l ++ [s]) = rowsR d 0 0 zeroR l ++ e ∧ e.length ≤ 1 := by
  obtain ⟨_, _, _, ⟨s1, _⟩, ⟨b1, _⟩⟩ := dieB_parts hd
  refine ⟨?_, rows_init l s 0 0 zeroR⟩
  cases l with
  | nil => 
    show 0 ≤ (bestR d [] _).1
    simp [bestR]
  | cons a ss => exact best_init s1 b1 (fun x hx => hb x (by simp only [List.cons_append, List.mem_cons]; exact .inr hx))
/-- A die without one of its blades. -/
@[reducible] def fewD (d : Dye) (w : Nat) : Dye := { d with bl := d.bl.take w ++ d.bl.drop (w + 1) }
theorem few_at {d : Dye} {w : Nat} (hw : w < d.bl.length) (k : Nat) : bladeAt (fewD d w) k = bladeAt d (skipB w k) := by
  unfold bladeAt fewD skipB
  congr 1
  by_cases h : k < w
  · rw [if_pos h, List.getElem?_append_left (by rw [List.length_take]; omega), List.getElem?_take_of_lt h]
  · rw [if_neg h, List.getElem?_append_right (by rw [List.length_take]; omega), List.length_take, Nat.min_eq_left (by omega), List.getElem?_drop]
    congr 1
    omega
theorem few_len {d : Dye} {w : Nat} (hw : w < d.bl.length) : (fewD d w).bl.length + 1 = d.bl.length := by
  simp; omega
theorem few_soft {d : Dye} {w : Nat} (hd : dieB d = true) (hw : w < d.bl.length) : Soft (fewD d w) d (skipB w) := by
  obtain ⟨_, hbs, _⟩ := dieB_parts hd
  have hl := few_len hw
  have hsk : ∀ k, k < (fewD d w).bl.length → skipB w k < d.bl.length := fun k hk => by unfold skipB; split <;> omega
  exact ⟨hsk, Int.le_refl _, fun k _ => by rw [few_at hw]; exact Int.le_refl _, fun k hk => by
    rw [few_at hw]
    have := hbs _ (List.mem_of_getElem? (bladeAt_some (hsk k hk)))
    omega, fun k _ => by rw [few_at hw]; exact Int.le_refl _⟩
theorem few_die {d : Dye} {w : Nat} (hd : dieB d = true) (hw : w < d.bl.length) (h2 : 2 ≤ d.bl.length) : dieB (fewD d w) = true := by
  have hl := few_len hw
  simp only [dieB, fromB, Bool.and_eq_true, decide_eq_true_eq, List.all_eq_true] at hd ⊢
  obtain ⟨⟨⟨⟨h1, h3⟩, h4⟩, h5⟩, h6⟩ := hd
  have hlI : ((fewD d w).bl.length : Int) + 1 = d.bl.length := by omega
  refine ⟨⟨⟨⟨⟨by show 1 ≤ ((fewD d w).bl.length : Int); omega, by show ((fewD d w).bl.length : Int) ≤ 5; omega⟩, fun b hb => h3 b ?_⟩, h4⟩, h5⟩, h6⟩
  rcases List.mem_append.1 hb with hb | hb
  · exact List.mem_of_mem_take hb
  · exact List.mem_of_mem_drop hb
theorem less_blade {d : Dye} {l : List (Int × Int)} {w : Nat} (hd : dieB d = true) (hs : stintsB l = true) (hw : w < d.bl.length) (hb : ∀ s ∈ l, failing d zeroR s = none) : (∀ s ∈ l, failing (fewD d w) zeroR s = none) ∧ bestC (fewD d w) l ≤ bestC d l ∧ (rowsR (fewD d w) 0 0 zeroR l).length ≤ (rowsR d 0 0 zeroR l).length := by
  obtain ⟨⟨_, l5⟩, _, _, ⟨s1, _⟩, ⟨b1, _⟩⟩ := dieB_parts hd
  have hS := few_soft hd hw
  have hl := few_len hw
  have hss : SoftL l l := softL_refl fun s h => by
    simp only [stintsB, Bool.and_eq_true, List.all_eq_true] at hs
    have := hs.2 s h
    simp only [stintB, fromB, Bool.and_eq_true, decide_eq_true_eq] at this
    omega
  have hx5 : ∀ x, x < 2 ^ d.bl.length → x < 32 := fun x hx => Nat.lt_of_lt_of_le hx (by
    have : (2 : Nat) ^ d.bl.length ≤ 2 ^ 5 := Nat.pow_le_pow_right (by omega) l5
    simpa using this)
  refine ⟨soft_bears hS hss hb, soft_bestC (ψ := outS w) hS (fun x k hx hk => ?_) (fun x hx => ?_) (fun x hx => ?_) hss hb, soft_rows0 hS hss⟩
  · exact (outS_all ⟨w, by omega⟩ ⟨x, hx5 x hx⟩).1 ⟨k, by omega⟩
  · have := (outS_all ⟨w, by omega⟩ ⟨x, hx5 x hx⟩).2.2.1 ⟨(fewD d w).bl.length, by omega⟩ (by show w ≤ (fewD d w).bl.length; omega)
    refine this ?_
    show x < 2 ^ ((fewD d w).bl.length + 1)
    rw [hl]; exact hx
  · exact price_out (by omega) (hx5 x hx) rfl rfl s1 b1
end Go.Proofs.YtdncppempgpooaaDoor

/- Several texts in one (a claim holds at most 60 files): each has its own words ahead of it. -/

/- RuleBests: all plans in order, and the first one of the least cost among them. -/
namespace Go.Proofs.YtdncppempgpooaaDoor
open Go.RowKit

/-- All lists of so many sets more, that go on from some, in order. -/
def plansL (S : Nat) : Nat → List Int → List (List Int)
  | 0, pre => [pre]
  | m + 1, pre => (List.range S).flatMap fun s : Nat => plansL S m (pre ++ [(s : Int)])
/-- The same, as far as the next set is less than k. -/
def plansK (S m : Nat) (pre : List Int) (k : Nat) : List (List Int) := (List.range k).flatMap fun s : Nat => plansL S m (pre ++ [(s : Int)])
theorem plansK_zero (S m : Nat) (pre : List Int) : plansK S m pre 0 = [] := rfl
theorem plansK_succ (S m : Nat) (pre : List Int) (k : Nat) : plansK S m pre (k + 1) = plansK S m pre k ++ plansL S m (pre ++ [(k : Int)]) := by
  unfold plansK
  rw [List.range_succ, List.flatMap_append]
  simp
theorem plansK_all (S m : Nat) (pre : List Int) : plansK S m pre S = plansL S (m + 1) pre := rfl
theorem plansL_len (S : Nat) : ∀ (m : Nat) (pre : List Int), (plansL S m pre).length = S ^ m := by
  intro m
  induction m with
  | zero => intro pre; rfl
  | succ m ih =>
    intro pre
    have : ∀ k, (plansK S m pre k).length = k * S ^ m := by
      intro k
      induction k with
      | zero => simp [plansK_zero]
      | succ k ik => rw [plansK_succ, List.length_append, ik, ih, Nat.succ_mul]
    rw [← plansK_all, this, Nat.pow_succ, Nat.mul_comm]
theorem plansK_len (S m : Nat) (pre : List Int) (k : Nat) : (plansK S m pre k).length = k * S ^ m := by
  induction k with
  | zero => simp [plansK_zero]
  | succ k ik => rw [plansK_succ, List.length_append, ik, plansL_len, Nat.succ_mul]
theorem plansL_mem (S : Nat) : ∀ (m : Nat) (pre q : List Int), q ∈ plansL S m pre ↔ ∃ t, q = pre ++ t ∧ t.length = m ∧ ∀ x ∈ t, 0 ≤ x ∧ x < (S : Int) := by
  intro m
  induction m with
  | zero =>
    intro pre q
    simp only [plansL, List.mem_singleton]
    constructor
    · rintro rfl; exact ⟨[], by simp, rfl, fun x h => by cases h⟩
    · rintro ⟨t, rfl, ht, _⟩
      rw [List.length_eq_zero_iff.1 ht, List.append_nil]
  | succ m ih =>
    intro pre q
    simp only [plansL, List.mem_flatMap, List.mem_range]
    constructor
    · rintro ⟨s, hs, hq⟩
      obtain ⟨t, rfl, ht, hx⟩ := (ih _ _).1 hq
      refine ⟨(s : Int) :: t, by simp, by simp [ht], fun x h => ?_⟩
      rcases List.mem_cons.1 h with rfl | h
      · omega
      · exact hx x h
    · rintro ⟨t, rfl, ht, hx⟩
      cases t with
      | nil => simp at ht
      | cons y t =>
        have hy := hx y (by simp)
        refine ⟨y.toNat, by omega, (ih _ _).2 ⟨t, ?_, by simpa using ht, fun x h => hx x (by simp [h])⟩⟩
        rw [Int.toNat_of_nonneg hy.1]; simp
/-- One list comes before another one. -/
def Before (p q : List Int) : Prop := ∃ (j : Nat) (x y : Int), (∀ i : Nat, i < j → p[i]? = q[i]?) ∧ p[j]? = some x ∧ q[j]? = some y ∧ x < y
theorem plansL_sorted (S : Nat) : ∀ (m : Nat) (pre : List Int), (plansL S m pre).Pairwise Before := by
  intro m
  induction m with
  | zero => intro pre; simp [plansL]
  | succ m ih =>
    intro pre
    simp only [plansL]
    rw [List.pairwise_flatMap]
    refine ⟨fun s _ => ih _, ?_⟩
    refine (List.pairwise_lt_range).imp fun {a b} hab x hx y hy => ?_
    obtain ⟨t, rfl, _, _⟩ := (plansL_mem S m _ _).1 hx
    obtain ⟨u, rfl, _, _⟩ := (plansL_mem S m _ _).1 hy
    refine ⟨pre.length, (a : Int), (b : Int), fun i hi => ?_, ?_, ?_, by omega⟩
    · rw [List.append_assoc, List.append_assoc, List.getElem?_append_left hi, List.getElem?_append_left hi]
    · simp
    · simp
theorem plansL_before {S m : Nat} {pre : List Int} {i j : Nat} {p q : List Int} (hp : (plansL S m pre)[i]? = some p) (hq : (plansL S m pre)[j]? = some q) (h : i < j) : Before p q := by
  have := (List.pairwise_iff_getElem.1 (plansL_sorted S m pre)) i j (List.getElem?_eq_some_iff.1 hp).1 (List.getElem?_eq_some_iff.1 hq).1 h
  rw [(List.getElem?_eq_some_iff.1 hp).2, (List.getElem?_eq_some_iff.1 hq).2] at this
  exact this

abbrev goodP (d : Dye) (l : List (Int × Int)) (p : List Int) : Prop := badR d 0 zeroR l (0 :: natsOf p) = none
abbrev allP (d : Dye) (l : List (Int × Int)) : List (List Int) := plansL (2 ^ d.bl.length) (l.length - 1) []
theorem allP_is {d : Dye} {l : List (Int × Int)} {i : Nat} {p : List Int} (h : (allP d l)[i]? = some p) : p.length = l.length - 1 ∧ ∀ x ∈ p, 0 ≤ x ∧ x < (2 ^ d.bl.length : Nat) := by
  obtain ⟨t, rfl, h1, h2⟩ := (plansL_mem _ _ _ _).1 (List.mem_of_getElem? h)
  exact ⟨by simpa using h1, fun x hx => h2 x (by simpa using hx)⟩
theorem bears_good {d : Dye} {l : List (Int × Int)} {p : List Int} (hd : dieB d = true) (hs : stintsB l = true) (hg : goodP d l p) : ∀ s ∈ l, failing d zeroR s = none := by
  have hw : ∀ b ∈ d.bl, 0 ≤ b.w.2 := fun b hb => by obtain ⟨_, hbs, _⟩ := dieB_parts hd; have := hbs b hb; omega
  have hss : ∀ s ∈ l, 0 ≤ s.1 := fun s h => by
    simp only [stintsB, Bool.and_eq_true, List.all_eq_true] at hs
    have := hs.2 s h
    simp [stintB, fromB] at this; omega
  exact good_bears hw l zeroR _ (fun k _ => Int.le_refl _) hss ((good_iff l 0 zeroR _).1 hg)
theorem nats_ofNat (q : List Nat) : natsOf (q.map Int.ofNat) = q := by
  unfold natsOf
  rw [List.map_map]
  conv => rhs; rw [← List.map_id q]
  exact List.map_congr_left fun x _ => rfl
/-- The best plan is one of all plans, and good. -/
theorem best_in {d : Dye} {l : List (Int × Int)} (hd : dieB d = true) (hs : stintsB l = true) (hb : ∀ s ∈ l, failing d zeroR s = none) :
    ∃ i : Nat, (allP d l)[i]? = some ((bestP d l).map Int.ofNat) ∧ goodP d l ((bestP d l).map Int.ofNat) ∧ costR d ((bestP d l).map Int.ofNat) = bestC d l := by
  obtain ⟨a1, a2, a3, a4⟩ := best_cost hb
  have hm : (bestP d l).map Int.ofNat ∈ allP d l := (plansL_mem _ _ _ _).2 ⟨_, rfl, by rw [List.length_map, a1], fun x hx => by
    obtain ⟨y, hy, rfl⟩ := List.mem_map.1 hx
    have := a2 y hy
    exact ⟨Int.natCast_nonneg _, Int.ofNat_lt.2 this⟩⟩
  obtain ⟨i, hi⟩ := List.getElem?_of_mem hm
  refine ⟨i, hi, (good_iff _ _ _ _).2 (by rw [nats_ofNat]; exact a3), ?_⟩
  rw [a4]
  unfold costR sumP
  rw [List.map_map]
  congr 1
theorem plan_none {d : Dye} {l : List (Int × Int)} (hd : dieB d = true) (hs : stintsB l = true) (hn : ∀ (j : Nat) (q : List Int), (allP d l)[j]? = some q → ¬ goodP d l q) : planE d l = ([], 0, 4) := by
  by_cases hb : ∀ s ∈ l, failing d zeroR s = none
  · obtain ⟨i, h1, h2, _⟩ := best_in hd hs hb
    exact absurd h2 (hn i _ h1)
  · have hbb : bearsB d l = false := by
      cases h : bearsB d l with
      | false => rfl
      | true =>
        refine absurd (fun s hs => ?_) hb
        unfold bearsB at h
        have := List.all_eq_true.1 h s hs
        simpa using this
    simp [planE, hd, hs, hbb]
theorem plan_first {d : Dye} {l : List (Int × Int)} {i : Nat} {p : List Int} (hd : dieB d = true) (hs : stintsB l = true) (hi : (allP d l)[i]? = some p) (hg : goodP d l p)
    (hmin : ∀ (j : Nat) (q : List Int), (allP d l)[j]? = some q → goodP d l q → costR d p ≤ costR d q ∧ (j < i → costR d p < costR d q)) : planE d l = (p, costR d p, 0) := by
  obtain ⟨hl, hx⟩ := allP_is hi
  have hb := bears_good hd hs hg
  obtain ⟨i0, h1, h2, h3⟩ := best_in hd hs hb
  obtain ⟨m1, m2⟩ := hmin i0 _ h1 h2
  obtain ⟨_, hf⟩ := best_fact hd hs hl hx
  obtain ⟨_, _, f3, f4⟩ := hf hg
  have hpl := plan_ok hd hs hb
  rw [hpl] at f3 f4 ⊢
  simp only at f3 f4
  have he : bestC d l = costR d p := by omega
  have hii : ¬ i0 < i := fun h => by have := m2 h; omega
  rcases Nat.lt_or_ge i i0 with hlt | hge
  · obtain ⟨j, x, y, b1, b2, b3, b4⟩ := plansL_before hi h1 hlt
    have := f4 he j (fun k hk => (b1 k hk).symm) y x b3 b2
    omega
  · obtain rfl : i = i0 := by omega
    rw [hi] at h1
    rw [← Option.some.inj h1, he]
end Go.Proofs.YtdncppempgpooaaDoor

/- RuleBests: lists of lists of numbers in memory; the document's plans. -/
namespace Go.Proofs.YtdncppempgpooaaDoor
open Go Go.RowKit Go.Shelf

theorem info34 : (Tryd.prog.info? 34).map (fun i => (i.zero, i.size, i.bytes)) = some (some (.slice none 0 0), 1, 24) := by kernel_rfl
theorem info3p : (Tryd.prog.info? 3).map (fun i => (i.zero, i.size, i.bytes)) = some (some (.int .i64 0), 1, 8) := by kernel_rfl
/-- A block from B on whose cells are slices of integers. -/
def Row34 (B : Nat) (w : World) (i : Nat) : Prop := B ≤ i ∧ ∃ cs, w.heap[i]? = some (.cells cs 34)
theorem Mod.t34 {B : Nat} {w w1 w2 : World} (h : Mod (Row34 B w) w w1) (k : Mod (Row34 B w1) w1 w2) : Mod (Row34 B w) w w2 :=
  h.then k fun i hi hr => by
    by_cases hn : Row34 B w i
    · exact hn
    · have hb := h.block i hi hn
      obtain ⟨h1, cs, h2⟩ := hr
      rw [hb] at h2
      exact ⟨h1, cs, h2⟩
theorem Mod.to34 {B : Nat} {w w1 : World} (h : Mod noB w w1) : Mod (Row34 B w) w w1 := h.wider fun i _ h => absurd h id
theorem Mod.all34 {B : Nat} {w w1 : World} (h : Mod (Row34 B w) w w1) (hB : w.heap.size ≤ B) : Mod noB w w1 := h.wider fun i hi h => absurd h.1 (by omega)

/-- A slice of integers, wherever it lies. -/
def IntV (w : World) (u : Value) (l : List Int) : Prop := w.ownsRow 0 3 1 u l.length (l.map (Value.int .i64))
theorem IntV.t34 {B : Nat} {w w1 : World} {u : Value} {l : List Int} (h : IntV w u l) (k : Mod (Row34 B w) w w1) : IntV w1 u l := by
  obtain ⟨h1, h2 | ⟨g, cap, cur, hv, hb, hg, hr⟩⟩ := h
  · exact ⟨h1, .inl h2⟩
  · refine ⟨h1, .inr ⟨g, cap, cur, hv, hb, ?_, hr⟩⟩
    rw [k.block g (Array.getElem?_eq_some_iff.1 hg).1 fun hh => ?_]
    · exact hg
    · obtain ⟨_, cs, hc⟩ := hh
      rw [hg] at hc
      cases hc
theorem IntV.mod {w w1 : World} {u : Value} {l : List Int} (h : IntV w u l) (k : Mod noB w w1) : IntV w1 u l := h.t34 (B := 0) (Mod.to34 k)
theorem IntV.ints {w : World} {u : Value} {l : List Int} (h : IntV w u l) (hs : l.length ≤ 1000000) : ∃ ao cap, u = .slice ao l.length cap ∧ IntsAt w ao l := by
  obtain ⟨ao, cap, h1, h2, _⟩ := ints_of_owns h rfl hs
  exact ⟨ao, cap, h1, h2⟩
theorem intV_nil (w : World) : IntV w (.slice none 0 0) [] := World.ownsRow_nil _ _ _ _

/-- A slice of slices of integers, of the call's own. -/
def RowsV (w : World) (B : Nat) (v : Value) (LL : List (List Int)) : Prop := ∃ vs : List Value, w.ownsRow B 34 1 v LL.length vs ∧ ∀ (i : Nat) (l : List Int), LL[i]? = some l → ∃ u, vs[i]? = some u ∧ IntV w u l
theorem rowsV_nil (w : World) (B : Nat) : RowsV w B (.slice none 0 0) [] := ⟨[], World.ownsRow_nil _ _ _ _, fun i l h => by cases h⟩
theorem RowsV.mod {w w1 : World} {B : Nat} {v : Value} {LL : List (List Int)} (h : RowsV w B v LL) (k : Mod noB w w1) : RowsV w1 B v LL := by
  obtain ⟨vs, h1, h2⟩ := h
  exact ⟨vs, own_mod h1 k, fun i l hl => by obtain ⟨u, hu, hi⟩ := h2 i l hl; exact ⟨u, hu, hi.mod k⟩⟩

theorem grown34 {B : Nat} {w w1 : World} {v : Value} {n : Nat} {xs : List Value} (h : w.ownsRow B 34 1 v n xs) (hg : w.grownBy w1 v.ownBlock) : Mod (Row34 B w) w w1 := by
  refine Mod.of_grownBy hg fun r hr _ => ?_
  obtain ⟨_, ⟨rfl, _⟩ | ⟨g, cap, cur, rfl, hb, hh, _⟩⟩ := h
  · cases hr
  · obtain rfl : g = r := by simpa [Value.ownBlock] using hr
    exact ⟨hb, cur, hh⟩
theorem rows_add {B : Nat} {w w1 : World} {LL : List (List Int)} {vs : List Value} {v1 u : Value} {l : List Int} (h2 : ∀ (i : Nat) (l : List Int), LL[i]? = some l → ∃ u, vs[i]? = some u ∧ IntV w u l)
    (hl : vs.length = LL.length) (h1 : w1.ownsRow B 34 1 v1 (LL.length + 1) (vs ++ [u])) (hu : IntV w u l) (hm : Mod (Row34 B w) w w1) : RowsV w1 B v1 (LL ++ [l]) := by
  refine ⟨vs ++ [u], by rw [List.length_append, List.length_singleton]; exact h1, fun i l' hi => ?_⟩
  rcases Nat.lt_or_ge i LL.length with hlt | hge
  · rw [List.getElem?_append_left hlt] at hi
    obtain ⟨u', e1, e2⟩ := h2 i l' hi
    exact ⟨u', by rw [List.getElem?_append_left (by omega)]; exact e1, e2.t34 hm⟩
  · rw [List.getElem?_append_right hge] at hi
    have : i - LL.length = 0 := by
      rcases Nat.eq_zero_or_pos (i - LL.length) with h | h
      · exact h
      · rw [List.getElem?_eq_none (by simp; omega)] at hi; cases hi
    rw [this] at hi
    obtain rfl : l = l' := by simpa using hi
    exact ⟨u, by rw [List.getElem?_append_right (by omega), hl, this]; rfl, hu.t34 hm⟩
theorem slice_cell (w : World) (s : Value) : ∀ (j : Nat) (u : Value), [s][j]? = some u → (w.alloc (.cells #[s] 34)).cell? (Addr.add ⟨w.heap.size, 0, none⟩ j) = some u := fun j u hj => by
  cases j with
  | succ j => cases hj
  | zero =>
    obtain rfl : s = u := by simpa using hj
    show (w.alloc (.cells #[s] 34)).cell? ⟨w.heap.size, 0, none⟩ = some s
    rw [cellsAt (World.alloc_heap_new w _) 0]
    rfl
theorem rows_slice {w : World} {B : Nat} {v : Value} {LL : List (List Int)} (h : RowsV w B v LL) : (LL = [] → ∃ ao cap, v = .slice ao 0 cap) ∧ (LL ≠ [] → ∃ g cap, v = .slice (some ⟨g, 0, none⟩) LL.length cap ∧ g < w.heap.size ∧ B ≤ g ∧ ∀ (i : Nat) (l : List Int), LL[i]? = some l → ∃ u, w.cell? ⟨g, i, none⟩ = some u ∧ IntV w u l) := by
  obtain ⟨vs, ⟨hl, ⟨rfl, h0⟩ | ⟨g, cap, cur, rfl, hb, hg, h1, _, h2, h3⟩⟩, hvs⟩ := h
  · exact ⟨fun _ => ⟨_, _, rfl⟩, fun hne => absurd (List.length_eq_zero_iff.1 h0) hne⟩
  · refine ⟨fun e => ⟨some ⟨g, 0, none⟩, cap, by rw [e]; rfl⟩, fun _ => ⟨g, cap, rfl, (Array.getElem?_eq_some_iff.1 hg).1, hb, fun i l hi => ?_⟩⟩
    obtain ⟨u, e1, e2⟩ := hvs i l hi
    refine ⟨u, ?_, e2⟩
    rw [cellsAt hg i, ← Array.getElem?_toList, ← e1, ← h3, List.getElem?_take_of_lt]
    have := (List.getElem?_eq_some_iff.1 hi).1
    omega

set_option maxRecDepth 100000 in
set_option maxHeartbeats 4000000 in
theorem plans_end (n S : Nat) (B : Nat) (pre : List Int) (u v : Value) (OUT : List (List Int)) (w : World) (hlen : pre.length = n) (hn : n ≤ 1000) (hB : B ≤ w.heap.size) (hu : IntV w u pre) (hv : RowsV w B v OUT) (hsm : OUT.length ≤ 100000000000) :
    Calls Tryd.prog 57 #[.int .i64 n, .int .i64 S, u, v] w fun e w' => ∃ v', e = .returned v' ∧ RowsV w' B v' (OUT ++ [pre]) ∧ Mod (Row34 B w) w w' := by
  obtain ⟨bo, cb, rfl, _⟩ := hu.ints (by omega)
  obtain ⟨vs, hO, hvs⟩ := hv
  have hvl : vs.length = OUT.length := by have := hO.1; omega
  obtain ⟨i0, hi, hz0, hz1, hz2⟩ := info_parts info34
  have heq : ((pre.length : Int) == (n : Int)) = true := by simp [hlen]
  have HO := Hold.mk hO
  have HV := Hold.mk (And.intro hvs (And.intro hvl hu))
  have HSC : Hold (∀ (j : Nat) (u : Value), [Value.slice bo pre.length cb][j]? = some u → (w.alloc (.cells #[.slice bo pre.length cb] 34)).cell? (Addr.add ⟨w.heap.size, 0, none⟩ j) = some u) := ⟨slice_cell w (.slice bo pre.length cb)⟩
  clear hO hvs hvl hu hlen
  go_enter Tryd.func57, Tryd.ntmps57
  go_wp2_with (at_builtin; refine wpList_append_own _ rfl (.tmp 14) (.tmp 16) 99 rfl B 34 i0 (.slice none 0 0) 1 24 Tryd.underlying99 hi hz0 hz1 hz2 rfl (by decide) _ _ _ rfl (HO.out.alloc _) ⟨w.heap.size, 0, none⟩ 1 1 [.slice bo pre.length cb] rfl rfl HSC.out (by simp [Value.oneCell']) (by unfold maxLen; omega) (by omega) (by simp; omega) ?_; intro v' wa hown' hgr _; have HW := Hold.mk (And.intro hown' hgr); clear hown' hgr)
  go_ret
  have hm0 : Mod noB w (w.alloc (.cells #[.slice bo pre.length cb] 34)) := (Mod.refl noB w).alloc _
  have hm1 := grown34 (HO.out.alloc _) HW.out.2
  have hm : Mod (Row34 B w) w wa := (Mod.to34 hm0).t34 hm1
  exact ⟨v', rfl, rows_add (fun i l hi => by obtain ⟨u', e1, e2⟩ := HV.out.1 i l hi; exact ⟨u', e1, e2⟩) HV.out.2.1 HW.out.1 HV.out.2.2 hm, hm⟩

set_option maxHeartbeats 1000000 in
/-- To a new list, which is empty, the numbers of another one are appended. -/
theorem app_begin {ops : Array Oper} {rest : List Oper} {o : Oper} {ρ : Act} {Q : Exit → Act → World → Prop} {W : World} {s x : Operand} {base g : Nat} {u : Value} {pre : List Int} (hgd : o.guard = none)
    (hop : o.op = Op.call { callee := Callee.builtin Builtin.append, args := #[s, x], argTypes := #[34, 34] }) (hs : ρ.eval s = .slice (some ⟨g, 0, none⟩) 0 0) (hg : W.heap[g]? = some (.cells #[] 3)) (hbg : base ≤ g) (hx : ρ.eval x = u) (hu : IntV W u pre) (hpl : pre.length ≤ 1000) (hb : base ≤ W.heap.size)
    (h : ∀ v' w', w'.ownsRow base 3 1 v' pre.length (pre.map (Value.int .i64)) → Mod (fun j => base ≤ j) W w' → wpList Tryd.prog ops Q rest (ρ.put o.dst v') w') : wpList Tryd.prog ops Q (o :: rest) ρ W := by
  obtain ⟨i3, hi3, hz30, hz31, hz32⟩ := info_parts info3p
  have hown : W.ownsRow base 3 1 (.slice (some ⟨g, 0, none⟩) 0 0) 0 [] := ⟨by rfl, .inr ⟨g, 0, #[], rfl, hbg, hg, Nat.le_refl _, Nat.zero_le _, rfl, rfl⟩⟩
  obtain ⟨hl, ⟨rfl, h0⟩ | ⟨g', cap, cur, rfl, hgb, hg2, h1, hcm, h2, h3⟩⟩ := hu
  · have hp0 : pre = [] := List.length_eq_zero_iff.1 h0
    subst hp0
    exact wpList_append_own_none hgd s x 34 hop base 3 i3 1 Tryd.underlying34 hi3 _ 0 [] hs hown hx (h _ _ hown (Mod.refl _ _))
  · have hc : ∀ j y, (pre.map (Value.int .i64))[j]? = some y → W.cell? (Addr.add ⟨g', 0, none⟩ j) = some y := fun j y hj => by
      have hlt : j < pre.length := by have := (List.getElem?_eq_some_iff.1 hj).1; simpa using this
      rw [Addr.add_lit, Nat.zero_add, cellsAt hg2]
      rw [← h3, List.getElem?_take_of_lt (by omega)] at hj
      simpa using hj
    refine wpList_append_own W hgd s x 34 hop base 3 i3 (.int .i64 0) 1 8 Tryd.underlying34 hi3 hz30 hz31 hz32 rfl (by decide) _ 0 [] hs hown ⟨g', 0, none⟩ pre.length cap (pre.map (Value.int .i64)) hx (by simp) hc (ints_one pre) (by unfold maxLen; omega) (by omega) hb ?_
    intro v' w2 hown' hgr _
    rw [List.nil_append, Nat.zero_add] at hown'
    exact h _ _ hown' (Mod.of_grownBy hgr (fun r hr _ => own_ge hown hr))

set_option maxRecDepth 100000 in
set_option maxHeartbeats 16000000 in
theorem plans_step (n S : Nat) (B : Nat) (m : Nat) (pre : List Int) (u v : Value) (OUT : List (List Int)) (w : World) (hlen : pre.length + (m + 1) = n) (hn : n ≤ 1000) (hS : S ≤ 1000)
    (IH : ∀ (h : Int) (u v : Value) (OUT : List (List Int)) (w : World), B ≤ w.heap.size → IntV w u (pre ++ [h]) → RowsV w B v OUT → (OUT ++ plansL S m (pre ++ [h])).length ≤ 100000000000 →
      Calls Tryd.prog 57 #[.int .i64 n, .int .i64 S, u, v] w fun e w' => ∃ v', e = .returned v' ∧ RowsV w' B v' (OUT ++ plansL S m (pre ++ [h])) ∧ Mod (Row34 B w) w w')
    (hB : B ≤ w.heap.size) (hu : IntV w u pre) (hv : RowsV w B v OUT) (hsm : (OUT ++ plansL S (m + 1) pre).length ≤ 100000000000) :
    Calls Tryd.prog 57 #[.int .i64 n, .int .i64 S, u, v] w fun e w' => ∃ v', e = .returned v' ∧ RowsV w' B v' (OUT ++ plansL S (m + 1) pre) ∧ Mod (Row34 B w) w w' := by
  obtain ⟨bo, cb, rfl, _⟩ := hu.ints (by omega)
  have heq : ((pre.length : Int) == (n : Int)) = false := by simp; omega
  obtain ⟨i3, hi3, hz30, hz31, hz32⟩ := info_parts info3p
  rw [← plansK_all] at hsm ⊢
  have HSM := Hold.mk hsm
  have HU0 := Hold.mk hu
  have HV0 := Hold.mk hv
  have HIH := Hold.mk IH
  have hpn : pre.length ≤ 999 := by omega
  clear hu hv hsm IH hlen
  go_enter Tryd.func57, Tryd.ntmps57
  go_wp2_with fail
  go_loopw [3, 9] (fun o i wr => ∃ k : Nat, k ≤ S ∧ i = .int .i64 k ∧ Hold (RowsV wr B o (OUT ++ plansK S m pre k)) ∧ Hold (Mod (Row34 B w) w wr)) (fun _ i _ => S - (intOf i).toNat)
  case atStart => exact ⟨0, Nat.zero_le _, rfl, ⟨by rw [plansK_zero, List.append_nil]; exact HV0.out⟩, ⟨Mod.refl _ _⟩⟩
  case round =>
    clear HV0
    obtain ⟨k, hk, rfl, HV, HM⟩ := hrel
    by_cases hlt : k < S
    · have HU := Hold.mk (HU0.out.t34 HM.out)
      have hbz := Nat.le_trans hB HM.out.size
      have HSU : Hold ((OUT ++ plansK S m pre k ++ plansL S m (pre ++ [(k : Int)])).length ≤ 100000000000) := ⟨by
        have := HSM.out
        rw [List.length_append, plansK_len] at this
        rw [List.append_assoc, ← plansK_succ, List.length_append, plansK_len]
        have := Nat.mul_le_mul_right (S ^ m) (show k + 1 ≤ S from hlt)
        omega⟩
      go_wp2_with (first
        | (at_builtin; refine app_begin (s := .tmp 25) (x := .tmp 26) (base := wr.heap.size) (g := wr.heap.size) (u := .slice bo pre.length cb) (pre := pre) rfl rfl rfl (World.alloc_heap_new wr _) (Nat.le_refl _) rfl (HU.out.mod ((Mod.refl noB wr).alloc _)) (by omega) (by simp) ?_; intro v1 wa hown1 hm1; have H1 := Hold.mk (And.intro hown1 hm1); clear hown1 hm1)
        | (at_builtin; refine wpList_append_own _ rfl (.tmp 27) (.tmp 29) 34 rfl wr.heap.size 3 i3 (.int .i64 0) 1 8 Tryd.underlying34 hi3 hz30 hz31 hz32 rfl (by decide) _ _ _ rfl (H1.out.1.alloc _) ⟨wa.heap.size, 0, none⟩ 1 1 [.int .i64 k] rfl rfl (one_cell _ _) (by simp [Value.oneCell']) (by unfold maxLen; omega) (by omega) (by have := H1.out.2.size; rw [World.size_alloc] at this ⊢; omega) ?_; intro v2 wb hown2 hgr _; have H2 := Hold.mk (And.intro hown2 hgr); clear hown2 hgr)
        | (have HMb : Hold (Mod noB wr wb) := ⟨by
            have a1 := ((Mod.refl noB wr).alloc (.cells #[] 3)).then H1.out.2 (fun i hi e => by omega)
            exact (a1.alloc (.cells #[.int .i64 k] 3)).then (Mod.of_grownBy (T := fun j => wr.heap.size ≤ j) H2.out.2 (fun r hr _ => own_ge H1.out.1 hr)) (fun i hi e => by omega)⟩
           have HUb : Hold (IntV wb v2 (pre ++ [(k : Int)])) := ⟨by
            have := own_mono H2.out.1 (Nat.zero_le _)
            show wb.ownsRow 0 3 1 v2 (pre ++ [(k : Int)]).length ((pre ++ [(k : Int)]).map (Value.int .i64))
            rw [List.length_append, List.length_singleton, List.map_append]
            exact this⟩
           go_at_call 57
           refine (HIH.out (k : Int) v2 u3 (OUT ++ plansK S m pre k) wb (Nat.le_trans hbz HMb.out.size) HUb.out (HV.out.mod HMb.out) HSU.out).mono ?_
           rintro e wc ⟨v3, rfl, hR, hMc⟩
           have HR := Hold.mk (And.intro hR hMc)
           clear hR hMc))
      go_roundw
      case rel => exact ⟨k + 1, by omega, by go_num, ⟨by rw [plansK_succ, ← List.append_assoc]; exact HR.out.1⟩, ⟨(HM.out.t34 (Mod.to34 HMb.out)).t34 HR.out.2⟩⟩
      case measure => simp [intOf]; omega
    · obtain rfl : k = S := by omega
      go_wp2_with fail
      go_ret
      exact ⟨_, rfl, HV.out, HM.out⟩

theorem refPlans_any (n S : Nat) (B : Nat) (hn : n ≤ 1000) (hS : S ≤ 1000) : ∀ (m : Nat) (pre : List Int) (u v : Value) (OUT : List (List Int)) (w : World), pre.length + m = n → B ≤ w.heap.size → IntV w u pre → RowsV w B v OUT → (OUT ++ plansL S m pre).length ≤ 100000000000 →
      Calls Tryd.prog 57 #[.int .i64 n, .int .i64 S, u, v] w fun e w' => ∃ v', e = .returned v' ∧ RowsV w' B v' (OUT ++ plansL S m pre) ∧ Mod (Row34 B w) w w' := by
  intro m
  induction m with
  | zero =>
    intro pre u v OUT w hlen hB hu hv hsm
    exact plans_end n S B pre u v OUT w (by omega) hn hB hu hv (by rw [List.length_append] at hsm; omega)
  | succ m ih =>
    intro pre u v OUT w hlen hB hu hv hsm
    exact plans_step n S B m pre u v OUT w hlen hn hS (fun h u v OUT w hB hu hv hs => ih (pre ++ [h]) u v OUT w (by rw [List.length_append, List.length_singleton]; omega) hB hu hv hs) hB hu hv hsm
end Go.Proofs.YtdncppempgpooaaDoor

/- RuleBests: the document's Plan tries all plans. -/
namespace Go.Proofs.YtdncppempgpooaaDoor
open Go Go.RowKit Go.Shelf

/-- What has been found when so many plans have been looked at. -/
def Best (d : Dye) (l : List (Int × Int)) (k : Nat) (x : Value) : Prop :=
  (x = .int .i64 (-1) ∧ ∀ (j : Nat) (q : List Int), j < k → (allP d l)[j]? = some q → ¬ goodP d l q) ∨
  (∃ (i : Nat) (p : List Int), x = .int .i64 i ∧ i < k ∧ (allP d l)[i]? = some p ∧ goodP d l p ∧ ∀ (j : Nat) (q : List Int), j < k → (allP d l)[j]? = some q → goodP d l q → costR d p ≤ costR d q ∧ (j < i → costR d p < costR d q))
theorem best_zero (d : Dye) (l : List (Int × Int)) : Best d l 0 (.int .i64 (-1)) := .inl ⟨rfl, fun j q h => absurd h (Nat.not_lt_zero _)⟩
theorem Best.bad {d : Dye} {l : List (Int × Int)} {k : Nat} {x : Value} {p : List Int} (h : Best d l k x) (hp : (allP d l)[k]? = some p) (hb : ¬ goodP d l p) : Best d l (k + 1) x := by
  have e : ∀ j q, j < k + 1 → (allP d l)[j]? = some q → goodP d l q → j < k := fun j q hj hq hg => by
    rcases Nat.lt_succ_iff_lt_or_eq.1 hj with h | rfl
    · exact h
    · rw [hp] at hq; cases hq; exact absurd hg hb
  rcases h with ⟨h1, h2⟩ | ⟨i, q, h1, h2, h3, h4, h5⟩
  · exact .inl ⟨h1, fun j q hj hq hg => h2 j q (e j q hj hq hg) hq hg⟩
  · exact .inr ⟨i, q, h1, by omega, h3, h4, fun j q' hj hq hg => h5 j q' (e j q' hj hq hg) hq hg⟩
theorem Best.none {d : Dye} {l : List (Int × Int)} {k : Nat} {p : List Int} (h : ∀ (j : Nat) (q : List Int), j < k → (allP d l)[j]? = some q → ¬ goodP d l q) (hp : (allP d l)[k]? = some p) (hg : goodP d l p) : Best d l (k + 1) (.int .i64 k) :=
  .inr ⟨k, p, rfl, by omega, hp, hg, fun j q hj hq hgq => by
    rcases Nat.lt_succ_iff_lt_or_eq.1 hj with h' | rfl
    · exact absurd hgq (h j q h' hq)
    · rw [hp] at hq; cases hq; exact ⟨Int.le_refl _, fun h => absurd h (Nat.lt_irrefl _)⟩⟩
theorem Best.less {d : Dye} {l : List (Int × Int)} {k i : Nat} {p q : List Int} (h : ∀ (j : Nat) (q : List Int), j < k → (allP d l)[j]? = some q → goodP d l q → costR d p ≤ costR d q) (hp : (allP d l)[k]? = some q) (hg : goodP d l q) (hc : costR d q < costR d p) : Best d l (k + 1) (.int .i64 k) :=
  .inr ⟨k, q, rfl, by omega, hp, hg, fun j q' hj hq hgq => by
    rcases Nat.lt_succ_iff_lt_or_eq.1 hj with h' | rfl
    · have := h j q' h' hq hgq; exact ⟨by omega, fun _ => by omega⟩
    · rw [hp] at hq; cases hq; exact ⟨Int.le_refl _, fun h => absurd h (Nat.lt_irrefl _)⟩⟩
theorem Best.more {d : Dye} {l : List (Int × Int)} {k i : Nat} {p q : List Int} (hi : i < k) (hpi : (allP d l)[i]? = some p) (hgi : goodP d l p) (h : ∀ (j : Nat) (q : List Int), j < k → (allP d l)[j]? = some q → goodP d l q → costR d p ≤ costR d q ∧ (j < i → costR d p < costR d q)) (hp : (allP d l)[k]? = some q) (hc : ¬ costR d q < costR d p) : Best d l (k + 1) (.int .i64 i) :=
  .inr ⟨i, p, rfl, by omega, hpi, hgi, fun j q' hj hq hgq => by
    rcases Nat.lt_succ_iff_lt_or_eq.1 hj with h' | rfl
    · exact h j q' h' hq hgq
    · rw [hp] at hq; cases hq; exact ⟨by omega, fun h => by omega⟩⟩
theorem best_end {d : Dye} {l : List (Int × Int)} {x : Value} (hd : dieB d = true) (hs : stintsB l = true) (h : Best d l (allP d l).length x) :
    (x = .int .i64 (-1) ∧ planE d l = ([], 0, 4)) ∨ ∃ (i : Nat) (p : List Int), x = .int .i64 i ∧ (allP d l)[i]? = some p ∧ planE d l = (p, costR d p, 0) := by
  rcases h with ⟨h1, h2⟩ | ⟨i, p, h1, h2, h3, h4, h5⟩
  · exact .inl ⟨h1, plan_none hd hs fun j q hq => h2 j q (List.getElem?_eq_some_iff.1 hq).1 hq⟩
  · exact .inr ⟨i, p, h1, h3, plan_first hd hs h3 h4 fun j q hq hg => h5 j q (List.getElem?_eq_some_iff.1 hq).1 hq hg⟩

/-- A list of numbers, wherever it lies, a number and an error. -/
def PlanV (v : List Int × Int × Int) (w : World) (e : Ending) (w' : World) : Prop := ∃ u, e = .returned (.tuple #[u, .int .i64 v.2.1, .int .i64 v.2.2]) ∧ IntV w' u v.1 ∧ Mod noB w w'

set_option maxRecDepth 100000 in
set_option maxHeartbeats 4000000 in
theorem refPlan_no (B : Nat) (ao : Option Addr) (cap : Nat) (d : Dye) (lo : Option Addr) (lcap : Nat) (l : List (Int × Int)) (w : World) (hI : InB B w ao d lo l) (er : Int) (h0 : er ≠ 0) (he : checkE d l = er) :
    Calls Tryd.prog 26 #[dyV ao d.bl.length cap d, .slice lo l.length lcap] w (PlanV ([], 0, er) w) := by
  have HF := Hold.mk (lawd0 (cap := cap) hI)
  have H53 : Hold (∀ W, InB B W ao d lo l → Calls Tryd.prog 53 #[dyV ao d.bl.length cap d, .slice lo l.length lcap] W fun e w' => e = .returned (.int .i64 er) ∧ Mod noB W w') := ⟨fun W h => by rw [← he]; exact check_any B ao cap d lo lcap l W h⟩
  have hb : (er != 0) = true := by simpa using h0
  clear hI he h0
  go_enter Tryd.func26, Tryd.ntmps26
  go_wp2_with (first
    | (refine wpList_load_row rfl 24 (.tmp 2) rfl w.heap.size rfl 24 _ (0, 0) _ HF.out.now.1 Tryd.underlying24 rfl info24 ?_)
    | (go_at_call 53; refine (H53.out _ HF.out.now.2.1).mono ?_; rintro e w1 ⟨rfl, hM⟩; have HF := Hold.mk (HF.out.later hM); clear hM))
  exact bodyPost_ret (v := .tuple #[.slice none 0 0, .int .i64 0, .int .i64 er]) (by simp [results, Tryd.results26, go_sem]) rfl ⟨_, rfl, intV_nil _, HF.out.now.2.2⟩
end Go.Proofs.YtdncppempgpooaaDoor

/- RuleBests: the document's Plan, of dies and stints that are valid. -/
namespace Go.Proofs.YtdncppempgpooaaDoor
open Go Go.RowKit Go.Shelf

set_option maxRecDepth 100000 in
set_option maxHeartbeats 16000000 in
theorem refPlan_yes (B : Nat) (ao : Option Addr) (cap : Nat) (d : Dye) (lo : Option Addr) (lcap : Nat) (l : List (Int × Int)) (w : World) (hI : InB B w ao d lo l) (hd : dieB d = true) (hs : stintsB l = true) :
    Calls Tryd.prog 26 #[dyV ao d.bl.length cap d, .slice lo l.length lcap] w (PlanV (planE d l) w) := by
  obtain ⟨⟨l1, l5⟩, _⟩ := dieB_parts hd
  have hl7 : l.length ≤ 7 := by simp [stintsB] at hs; omega
  have HF := Hold.mk (lawd0 (cap := cap) hI)
  have H53 : Hold (∀ W, InB B W ao d lo l → Calls Tryd.prog 53 #[dyV ao d.bl.length cap d, .slice lo l.length lcap] W fun e w' => e = .returned (.int .i64 0) ∧ Mod noB W w') := ⟨fun W h => by rw [← show checkE d l = 0 by simp [checkE, hd, hs]]; exact check_any B ao cap d lo lcap l W h⟩
  have H58 : Hold (∀ W, Calls Tryd.prog 58 #[.int .i64 d.bl.length] W fun e w' => e = .returned (.int .i64 ((2 ^ d.bl.length : Nat) : Int)) ∧ Mod noB W w') := ⟨fun W => power_any _ W l5⟩
  have hpw := pow_bd l5
  have H57 : Hold (∀ W, Calls Tryd.prog 57 #[.int .i64 ((l.length - 1 : Nat) : Int), .int .i64 ((2 ^ d.bl.length : Nat) : Int), .slice none 0 0, .slice none 0 0] W fun e w' => ∃ v', e = .returned v' ∧ RowsV w' W.heap.size v' (allP d l) ∧ Mod noB W w') := ⟨fun W => by
    have hlen : (allP d l).length ≤ 100000000000 := by
      rw [plansL_len]
      have h1 : (2 ^ d.bl.length) ^ (l.length - 1) ≤ 32 ^ (l.length - 1) := Nat.pow_le_pow_left (by omega) _
      have h2 : 32 ^ (l.length - 1) ≤ 32 ^ 6 := Nat.pow_le_pow_right (by omega) (by omega)
      have h3 : (32 : Nat) ^ 6 ≤ 100000000000 := by decide
      omega
    refine (refPlans_any (l.length - 1) (2 ^ d.bl.length) W.heap.size (by omega) (by omega) (l.length - 1) [] (.slice none 0 0) (.slice none 0 0) [] W (by simp) (Nat.le_refl _) (intV_nil _) (rowsV_nil _ _) (by rw [List.nil_append]; exact hlen)).mono fun e w' hh => ?_
    obtain ⟨v', e1, e2, e3⟩ := hh
    exact ⟨v', e1, e2, e3.all34 (Nat.le_refl _)⟩⟩
  have HDS := Hold.mk (And.intro hd hs)
  have HA0 : Hold (allP d l ≠ []) := ⟨fun e => by
    have := plansL_len (2 ^ d.bl.length) (l.length - 1) []
    rw [show plansL (2 ^ d.bl.length) (l.length - 1) [] = [] from e] at this
    have h2 : 0 < (2 ^ d.bl.length) ^ (l.length - 1) := Nat.pow_pos (Nat.two_pow_pos _)
    simp at this; omega⟩
  have HPL : Hold (∀ p ∈ allP d l, planB d l p = true ∧ p.length ≤ 6 ∧ ∀ x ∈ p, 0 ≤ x ∧ x ≤ 31) := ⟨fun p hp => by
    obtain ⟨i, hi⟩ := List.getElem?_of_mem hp
    obtain ⟨h1, h2⟩ := allP_is hi
    refine ⟨plan_is h1 h2, by omega, fun x hx => by have := h2 x hx; omega⟩⟩
  have hAL : (allP d l).length ≤ 1073741824 := by
    rw [plansL_len]
    have h1 : (2 ^ d.bl.length) ^ (l.length - 1) ≤ 32 ^ (l.length - 1) := Nat.pow_le_pow_left (by omega) _
    have h2 : 32 ^ (l.length - 1) ≤ 32 ^ 6 := Nat.pow_le_pow_right (by omega) (by omega)
    have h3 : (32 : Nat) ^ 6 ≤ 1073741824 := by decide
    omega
  clear hI hd hs
  generalize hP2 : ((2 ^ d.bl.length : Nat) : Int) = P2 at *
  clear hP2 hpw
  obtain ⟨n, hn⟩ : ∃ n, n = l.length - 1 := ⟨_, rfl⟩
  rw [← hn] at H57
  have HN := Hold.mk hn
  have hnn : ((n : Nat) : Int) = max 0 ((l.length : Int) - 1) := by omega
  have HNN := Hold.mk hnn
  clear hn hnn
  go_enter Tryd.func26, Tryd.ntmps26
  go_upto_region 4 with (first
    | (refine wpList_load_row rfl 24 (.tmp 2) rfl w.heap.size rfl 24 _ (0, 0) _ HF.out.now.1 Tryd.underlying24 rfl info24 ?_)
    | (go_at_call 53; refine (H53.out _ HF.out.now.2.1).mono ?_; rintro e w1 ⟨rfl, hM⟩; have HF := Hold.mk (HF.out.later hM); have hg := HF.out.now.1; have g0 := cellsAt hg 0; clear hM hg))
  go_cut [8] from 20 to 28 (fun s8 wx => Hold (RowsV wx 0 s8 (allP d l)) ∧ Hold (Kept wx (Lawd w B ao cap d lo l)))
  case first =>
    rcases (by have := HN.out; omega : ((l.length : Int) ≤ 1 ∧ n = 0) ∨ (1 < (l.length : Int) ∧ (n : Int) = (l.length : Int) - 1)) with ⟨hz, hz2⟩ | ⟨hz, hz2⟩
    all_goals
      first
        | subst hz2
        | rw [hz2] at H57
      go_wp2_with (first
        | (go_at_call 58; refine (H58.out _).mono ?_; rintro e w2 ⟨rfl, hM⟩; have HF := Hold.mk (HF.out.later hM); clear hM)
        | (go_at_call 57; refine (H57.out _).mono ?_; rintro e w3 ⟨v3, rfl, hR, hM⟩; have HF := Hold.mk (HF.out.later hM); have HR := Hold.mk hR; clear hM hR))
      go_meet
      obtain ⟨vs, e1, e2⟩ := HR.out
      exact ⟨⟨vs, own_mono e1 (Nat.zero_le _), e2⟩, HF⟩
  case rest =>
  obtain ⟨HR, HK⟩ := hcut
  clear HF H53 H58 H57 g0 HN HNN
  obtain ⟨g, gc, rfl, _, _, _⟩ := (rows_slice HR.out).2 HA0.out
  go_wp2_with fail
  go_loopw [9, 10] (fun b i wr => ∃ k : Nat, k ≤ (allP d l).length ∧ i = .int .i64 k ∧ Hold (Best d l k b) ∧ Hold (Mod noB wc wr)) (fun _ i _ => (allP d l).length - (intOf i).toNat)
  case atStart => exact ⟨0, Nat.zero_le _, rfl, ⟨best_zero d l⟩, ⟨Mod.refl _ _⟩⟩
  case round =>
    obtain ⟨k, hk, rfl, HB, HM⟩ := hrel
    have HKr := Hold.mk (HK.out.later HM.out)
    have HRr := Hold.mk (HR.out.mod HM.out)
    obtain ⟨g', gc', hgg, hgl, _, hgc⟩ := (rows_slice HRr.out).2 HA0.out
    obtain ⟨rfl, rfl⟩ : g = g' ∧ gc = gc' := by simpa using hgg
    have HGC := Hold.mk hgc
    clear hgc hgg HR HK
    by_cases hlt : k < (allP d l).length
    · obtain ⟨p, hp⟩ : ∃ p, (allP d l)[k]? = some p := ⟨_, List.getElem?_eq_getElem hlt⟩
      obtain ⟨hpb, hp6, hpx⟩ := HPL.out p (List.mem_of_getElem? hp)
      obtain ⟨u, hu, hui⟩ := HGC.out k p hp
      obtain ⟨qa, qc, rfl, hqi⟩ := hui.ints (by omega)
      have H29 : Hold (∀ W, InB B W ao d lo l → IntsAt W qa p → Calls Tryd.prog 29 #[dyV ao d.bl.length cap d, .slice lo l.length lcap, .slice qa p.length qc] W fun e w' => e = .returned (badV (badR d 0 zeroR l (0 :: natsOf p))) ∧ Mod noB W w') := ⟨fun W h1 h2 => bad_any B ao cap d lo lcap l qa qc p W HDS.out.1 HDS.out.2 hpb h1 h2⟩
      have H31 : Hold (∀ W, IntsAt W qa p → Calls Tryd.prog 31 #[dyV ao d.bl.length cap d, .slice qa p.length qc] W fun e w' => e = .returned (.int .i64 (costR d p)) ∧ Mod noB W w') := ⟨fun W h => refCost_any B ao cap d qa qc p W HDS.out.1 h (by omega) hpx⟩
      have HP := Hold.mk hp
      have HQI := Hold.mk (And.intro hu hqi)
      have hkI : (k : Int) < ((allP d l).length : Int) := by omega
      clear hp hpb hpx hu hui hqi
      rcases HB.out with ⟨rfl, hnone⟩ | ⟨i, pi, rfl, hik, hpi, hgi, hmin⟩
      · have HNONE := Hold.mk hnone
        have FIN : Hold (∀ W', Mod noB wr W' → W'.heap[w.heap.size]? = some (.cells (dyC ao d.bl.length cap d) 24) ∧ InB B W' ao d lo l ∧ W'.cell? ⟨g, k, none⟩ = some (.slice qa p.length qc) ∧ IntsAt W' qa p ∧ W'.cell? ⟨g, k, none⟩ = some (.slice qa p.length qc) ∧ IntsAt W' qa p) := ⟨fun W' h => ⟨(HKr.out.later h).now.1, (HKr.out.later h).now.2.1, (cell_same (h.block g hgl id) _).trans HQI.out.1, HQI.out.2.mod h, (cell_same (h.block g hgl id) _).trans HQI.out.1, HQI.out.2.mod h⟩⟩
        have HI31 := H31
        clear hnone
        obtain ⟨bd, hbd⟩ : ∃ bd, badR d 0 zeroR l (0 :: natsOf p) = bd := ⟨_, rfl⟩
        rw [hbd] at H29
        have HBD := Hold.mk hbd
        clear hbd
        match bd with
        | some (j, b) =>
          simp only [badV] at H29
          go_wp2
          refine region_quietP (by kernel_rfl) (by kernel_rfl) (fun W' => Mod noB wr W') ((Mod.refl _ _).drew) ?_
          repeat
            (first
              | go_big_quiet_skip
              | (go_big_quiet_want
                 go_simp
                 first
                   | go_big_quiet_on
                   | (apply Exists.intro
                      refine ⟨fun W' hC => ?_, ?_⟩
                      · obtain ⟨gd, gI, gk, gK, gi, gM⟩ := FIN.out W' hC
                        have c0 := cellsAt gd 0; have c1 := cellsAt gd 1; have c2 := cellsAt gd 2; have c3 := cellsAt gd 3
                        first
                          | (go_at_call 29; (with_reducible refine (H29.out _ gI gK).mono ?_); exact fun e w'' he => ⟨he.1, hC.trans he.2⟩)
                          | with_reducible rfl
                          | (clear gd gI gK gM; go_simp; first | rfl | exact ⟨rfl, rfl⟩)
                      go_big_quiet_on)
                   | (refine ⟨⟨_, fun _ _ => rfl⟩, ?_⟩; go_big_quiet_on)))
          refine wpQuiet_nil ?_
          intro W9 hq9
          have HM9 := Hold.mk hq9
          have FIN9 := Hold.mk (fun W' (h : Mod noB W9 W') => FIN.out W' (HM9.out.trans h))
          clear hq9
          go_wp2
          refine region_quietP (by kernel_rfl) (by kernel_rfl) (fun W' => Mod noB W9 W') ((Mod.refl _ _).drew) ?_
          repeat
            (first
              | go_big_quiet_skip
              | (go_big_quiet_want
                 go_simp
                 first
                   | go_big_quiet_on
                   | (apply Exists.intro
                      refine ⟨fun W' hC => ?_, ?_⟩
                      · obtain ⟨gd, gI, gk, gK, gi, gM⟩ := FIN9.out W' hC
                        have c0 := cellsAt gd 0; have c1 := cellsAt gd 1; have c2 := cellsAt gd 2; have c3 := cellsAt gd 3
                        first
                          | (go_at_call 31; (with_reducible refine (H31.out _ gK).mono ?_); exact fun e w'' he => ⟨he.1, hC.trans he.2⟩)
                          | (go_at_call 31; (with_reducible refine (HI31.out _ gM).mono ?_); exact fun e w'' he => ⟨he.1, hC.trans he.2⟩)
                          | with_reducible rfl
                          | (clear gd gI gK gM; go_simp; first | rfl | exact ⟨rfl, rfl⟩)
                      go_big_quiet_on)
                   | (refine ⟨⟨_, fun _ _ => rfl⟩, ?_⟩; go_big_quiet_on)))
          refine wpQuiet_nil ?_
          intro W10 hq10
          have HM10 := Hold.mk (HM.out.trans (HM9.out.trans hq10))
          clear hq10
          go_wp2
          go_roundw
          case rel => exact ⟨k + 1, by omega, by go_num, ⟨HB.out.bad HP.out (by rw [goodP, HBD.out]; simp)⟩, HM10⟩
          case measure => simp [intOf]; omega
        | none =>
          simp only [badV] at H29
          have HG : Hold (goodP d l p) := ⟨HBD.out⟩
          go_wp2
          refine region_quietP (by kernel_rfl) (by kernel_rfl) (fun W' => Mod noB wr W') ((Mod.refl _ _).drew) ?_
          repeat
            (first
              | go_big_quiet_skip
              | (go_big_quiet_want
                 go_simp
                 first
                   | go_big_quiet_on
                   | (apply Exists.intro
                      refine ⟨fun W' hC => ?_, ?_⟩
                      · obtain ⟨gd, gI, gk, gK, gi, gM⟩ := FIN.out W' hC
                        have c0 := cellsAt gd 0; have c1 := cellsAt gd 1; have c2 := cellsAt gd 2; have c3 := cellsAt gd 3
                        first
                          | (go_at_call 29; (with_reducible refine (H29.out _ gI gK).mono ?_); exact fun e w'' he => ⟨he.1, hC.trans he.2⟩)
                          | with_reducible rfl
                          | (clear gd gI gK gM; go_simp; first | rfl | exact ⟨rfl, rfl⟩)
                      go_big_quiet_on)
                   | (refine ⟨⟨_, fun _ _ => rfl⟩, ?_⟩; go_big_quiet_on)))
          refine wpQuiet_nil ?_
          intro W9 hq9
          have HM9 := Hold.mk hq9
          have FIN9 := Hold.mk (fun W' (h : Mod noB W9 W') => FIN.out W' (HM9.out.trans h))
          clear hq9
          go_wp2
          refine region_quietP (by kernel_rfl) (by kernel_rfl) (fun W' => Mod noB W9 W') ((Mod.refl _ _).drew) ?_
          repeat
            (first
              | go_big_quiet_skip
              | (go_big_quiet_want
                 go_simp
                 first
                   | go_big_quiet_on
                   | (apply Exists.intro
                      refine ⟨fun W' hC => ?_, ?_⟩
                      · obtain ⟨gd, gI, gk, gK, gi, gM⟩ := FIN9.out W' hC
                        have c0 := cellsAt gd 0; have c1 := cellsAt gd 1; have c2 := cellsAt gd 2; have c3 := cellsAt gd 3
                        first
                          | (go_at_call 31; (with_reducible refine (H31.out _ gK).mono ?_); exact fun e w'' he => ⟨he.1, hC.trans he.2⟩)
                          | (go_at_call 31; (with_reducible refine (HI31.out _ gM).mono ?_); exact fun e w'' he => ⟨he.1, hC.trans he.2⟩)
                          | with_reducible rfl
                          | (clear gd gI gK gM; go_simp; first | rfl | exact ⟨rfl, rfl⟩)
                      go_big_quiet_on)
                   | (refine ⟨⟨_, fun _ _ => rfl⟩, ?_⟩; go_big_quiet_on)))
          refine wpQuiet_nil ?_
          intro W10 hq10
          have HM10 := Hold.mk (HM.out.trans (HM9.out.trans hq10))
          clear hq10
          go_wp2
          go_roundw
          case rel => exact ⟨k + 1, by omega, by go_num, ⟨Best.none HNONE.out HP.out HG.out⟩, HM10⟩
          case measure => simp [intOf]; omega
      · have HBI := Hold.mk (And.intro hik (And.intro hpi (And.intro hgi hmin)))
        obtain ⟨hib, hi6, hix⟩ := HPL.out pi (List.mem_of_getElem? hpi)
        obtain ⟨ui, hui, huii⟩ := HGC.out i pi hpi
        obtain ⟨ia, ic, rfl, hii⟩ := huii.ints (by omega)
        have HI31 : Hold (∀ W, IntsAt W ia pi → Calls Tryd.prog 31 #[dyV ao d.bl.length cap d, .slice ia pi.length ic] W fun e w' => e = .returned (.int .i64 (costR d pi)) ∧ Mod noB W w') := ⟨fun W h => refCost_any B ao cap d ia ic pi W HDS.out.1 h (by omega) hix⟩
        have HII := Hold.mk (And.intro hui hii)
        have FIN : Hold (∀ W', Mod noB wr W' → W'.heap[w.heap.size]? = some (.cells (dyC ao d.bl.length cap d) 24) ∧ InB B W' ao d lo l ∧ W'.cell? ⟨g, k, none⟩ = some (.slice qa p.length qc) ∧ IntsAt W' qa p ∧ W'.cell? ⟨g, i, none⟩ = some (.slice ia pi.length ic) ∧ IntsAt W' ia pi) := ⟨fun W' h => ⟨(HKr.out.later h).now.1, (HKr.out.later h).now.2.1, (cell_same (h.block g hgl id) _).trans HQI.out.1, HQI.out.2.mod h, (cell_same (h.block g hgl id) _).trans HII.out.1, HII.out.2.mod h⟩⟩
        have hiI : (i : Int) < ((allP d l).length : Int) := by omega
        have HDI : Hold (decide ((i : Int) < 0) = false) := ⟨decide_eq_false (by omega)⟩
        clear hpi hgi hmin hib hix hui huii hii hik
        obtain ⟨bd, hbd⟩ : ∃ bd, badR d 0 zeroR l (0 :: natsOf p) = bd := ⟨_, rfl⟩
        rw [hbd] at H29
        have HBD := Hold.mk hbd
        clear hbd
        match bd with
        | some (j, b) =>
          simp only [badV] at H29
          go_wp2
          refine region_quietP (by kernel_rfl) (by kernel_rfl) (fun W' => Mod noB wr W') ((Mod.refl _ _).drew) ?_
          repeat
            (first
              | go_big_quiet_skip
              | (go_big_quiet_want
                 go_simp
                 first
                   | go_big_quiet_on
                   | (apply Exists.intro
                      refine ⟨fun W' hC => ?_, ?_⟩
                      · obtain ⟨gd, gI, gk, gK, gi, gM⟩ := FIN.out W' hC
                        have c0 := cellsAt gd 0; have c1 := cellsAt gd 1; have c2 := cellsAt gd 2; have c3 := cellsAt gd 3
                        first
                          | (go_at_call 29; (with_reducible refine (H29.out _ gI gK).mono ?_); exact fun e w'' he => ⟨he.1, hC.trans he.2⟩)
                          | with_reducible rfl
                          | (clear gd gI gK gM; go_simp; first | rfl | exact ⟨rfl, rfl⟩)
                      go_big_quiet_on)
                   | (refine ⟨⟨_, fun _ _ => rfl⟩, ?_⟩; go_big_quiet_on)))
          refine wpQuiet_nil ?_
          intro W9 hq9
          have HM9 := Hold.mk hq9
          have FIN9 := Hold.mk (fun W' (h : Mod noB W9 W') => FIN.out W' (HM9.out.trans h))
          clear hq9
          go_wp2
          refine region_quietP (by kernel_rfl) (by kernel_rfl) (fun W' => Mod noB W9 W') ((Mod.refl _ _).drew) ?_
          repeat
            (first
              | go_big_quiet_skip
              | (go_big_quiet_want
                 go_simp
                 first
                   | go_big_quiet_on
                   | (apply Exists.intro
                      refine ⟨fun W' hC => ?_, ?_⟩
                      · obtain ⟨gd, gI, gk, gK, gi, gM⟩ := FIN9.out W' hC
                        have c0 := cellsAt gd 0; have c1 := cellsAt gd 1; have c2 := cellsAt gd 2; have c3 := cellsAt gd 3
                        first
                          | (go_at_call 31; (with_reducible refine (H31.out _ gK).mono ?_); exact fun e w'' he => ⟨he.1, hC.trans he.2⟩)
                          | (go_at_call 31; (with_reducible refine (HI31.out _ gM).mono ?_); exact fun e w'' he => ⟨he.1, hC.trans he.2⟩)
                          | with_reducible rfl
                          | (clear gd gI gK gM; go_simp; first | rfl | exact ⟨rfl, rfl⟩)
                      go_big_quiet_on)
                   | (refine ⟨⟨_, fun _ _ => rfl⟩, ?_⟩; go_big_quiet_on)))
          refine wpQuiet_nil ?_
          intro W10 hq10
          have HM10 := Hold.mk (HM.out.trans (HM9.out.trans hq10))
          clear hq10
          go_wp2
          go_roundw
          case rel => exact ⟨k + 1, by omega, by go_num, ⟨HB.out.bad HP.out (by rw [goodP, HBD.out]; simp)⟩, HM10⟩
          case measure => simp [intOf]; omega
        | none =>
          simp only [badV] at H29
          have HG : Hold (goodP d l p) := ⟨HBD.out⟩
          obtain ⟨cp, hcp⟩ : ∃ c, costR d p = c := ⟨_, rfl⟩
          obtain ⟨ci, hci⟩ : ∃ c, costR d pi = c := ⟨_, rfl⟩
          rw [hcp] at H31
          rw [hci] at HI31
          have HCC := Hold.mk (And.intro hcp hci)
          clear hcp hci
          go_wp2
          refine region_quietP (by kernel_rfl) (by kernel_rfl) (fun W' => Mod noB wr W') ((Mod.refl _ _).drew) ?_
          repeat
            (first
              | go_big_quiet_skip
              | (go_big_quiet_want
                 go_simp
                 first
                   | go_big_quiet_on
                   | (apply Exists.intro
                      refine ⟨fun W' hC => ?_, ?_⟩
                      · obtain ⟨gd, gI, gk, gK, gi, gM⟩ := FIN.out W' hC
                        have c0 := cellsAt gd 0; have c1 := cellsAt gd 1; have c2 := cellsAt gd 2; have c3 := cellsAt gd 3
                        first
                          | (go_at_call 29; (with_reducible refine (H29.out _ gI gK).mono ?_); exact fun e w'' he => ⟨he.1, hC.trans he.2⟩)
                          | with_reducible rfl
                          | (clear gd gI gK gM; go_simp; first | rfl | exact ⟨rfl, rfl⟩)
                      go_big_quiet_on)
                   | (refine ⟨⟨_, fun _ _ => rfl⟩, ?_⟩; go_big_quiet_on)))
          refine wpQuiet_nil ?_
          intro W9 hq9
          have HM9 := Hold.mk hq9
          have FIN9 := Hold.mk (fun W' (h : Mod noB W9 W') => FIN.out W' (HM9.out.trans h))
          clear hq9
          by_cases hcc : cp < ci
          · go_wp2
            refine region_quietP (by kernel_rfl) (by kernel_rfl) (fun W' => Mod noB W9 W') ((Mod.refl _ _).drew) ?_
            repeat
              (first
                | go_big_quiet_skip
                | (go_big_quiet_want
                   go_simp
                   try rw [HDI.out]
                   first
                     | go_big_quiet_on
                     | (apply Exists.intro
                        refine ⟨fun W' hC => ?_, ?_⟩
                        · obtain ⟨gd, gI, gk, gK, gi, gM⟩ := FIN9.out W' hC
                          have c0 := cellsAt gd 0; have c1 := cellsAt gd 1; have c2 := cellsAt gd 2; have c3 := cellsAt gd 3
                          first
                            | (go_at_call 31; (with_reducible refine (H31.out _ gK).mono ?_); exact fun e w'' he => ⟨he.1, hC.trans he.2⟩)
                            | (go_at_call 31; (with_reducible refine (HI31.out _ gM).mono ?_); exact fun e w'' he => ⟨he.1, hC.trans he.2⟩)
                            | with_reducible rfl
                            | (clear gd gI gK gM; go_simp; first | rfl | exact ⟨rfl, rfl⟩)
                        go_big_quiet_on)
                     | (refine ⟨⟨_, fun _ _ => rfl⟩, ?_⟩; go_big_quiet_on)))
            refine wpQuiet_nil ?_
            intro W10 hq10
            have HM10 := Hold.mk (HM.out.trans (HM9.out.trans hq10))
            clear hq10
            go_wp2
            go_roundw
            case rel => exact ⟨k + 1, by omega, by go_num, ⟨Best.less (i := i) (fun j q h1 h2 h3 => (HBI.out.2.2.2 j q h1 h2 h3).1) HP.out HG.out (by rw [HCC.out.1, HCC.out.2]; exact hcc)⟩, HM10⟩
            case measure => simp [intOf]; omega
          · go_wp2
            refine region_quietP (by kernel_rfl) (by kernel_rfl) (fun W' => Mod noB W9 W') ((Mod.refl _ _).drew) ?_
            repeat
              (first
                | go_big_quiet_skip
                | (go_big_quiet_want
                   go_simp
                   try rw [HDI.out]
                   first
                     | go_big_quiet_on
                     | (apply Exists.intro
                        refine ⟨fun W' hC => ?_, ?_⟩
                        · obtain ⟨gd, gI, gk, gK, gi, gM⟩ := FIN9.out W' hC
                          have c0 := cellsAt gd 0; have c1 := cellsAt gd 1; have c2 := cellsAt gd 2; have c3 := cellsAt gd 3
                          first
                            | (go_at_call 31; (with_reducible refine (H31.out _ gK).mono ?_); exact fun e w'' he => ⟨he.1, hC.trans he.2⟩)
                            | (go_at_call 31; (with_reducible refine (HI31.out _ gM).mono ?_); exact fun e w'' he => ⟨he.1, hC.trans he.2⟩)
                            | with_reducible rfl
                            | (clear gd gI gK gM; go_simp; first | rfl | exact ⟨rfl, rfl⟩)
                        go_big_quiet_on)
                     | (refine ⟨⟨_, fun _ _ => rfl⟩, ?_⟩; go_big_quiet_on)))
            refine wpQuiet_nil ?_
            intro W10 hq10
            have HM10 := Hold.mk (HM.out.trans (HM9.out.trans hq10))
            clear hq10
            go_wp2
            go_roundw
            case rel => exact ⟨k + 1, by omega, by go_num, ⟨Best.more HBI.out.1 HBI.out.2.1 HBI.out.2.2.1 HBI.out.2.2.2 HP.out (by rw [HCC.out.1, HCC.out.2]; omega)⟩, HM10⟩
            case measure => simp [intOf]; omega
    · obtain rfl : k = (allP d l).length := by omega
      rcases best_end HDS.out.1 HDS.out.2 HB.out with ⟨rfl, hE⟩ | ⟨i, pi, rfl, hpi, hE⟩
      · have HE := Hold.mk hE
        clear hE
        go_wp2
        exact bodyPost_ret (v := .tuple #[.slice none 0 0, .int .i64 0, .int .i64 4]) (by simp [results, Tryd.results26, go_sem]) rfl (by rw [HE.out]; exact ⟨_, rfl, intV_nil _, HKr.out.now.2.2⟩)
      · have HE := Hold.mk hE
        obtain ⟨hib, hi6, hix⟩ := HPL.out pi (List.mem_of_getElem? hpi)
        obtain ⟨ui, hui, huii⟩ := HGC.out i pi hpi
        obtain ⟨ia, ic, rfl, hii⟩ := huii.ints (by omega)
        have HUI := Hold.mk huii
        have HI31 : Hold (∀ W, IntsAt W ia pi → Calls Tryd.prog 31 #[dyV ao d.bl.length cap d, .slice ia pi.length ic] W fun e w' => e = .returned (.int .i64 (costR d pi)) ∧ Mod noB W w') := ⟨fun W h => refCost_any B ao cap d ia ic pi W HDS.out.1 h (by omega) hix⟩
        have HII := Hold.mk (And.intro hui hii)
        have hi1 := (List.getElem?_eq_some_iff.1 hpi).1
        have FIN : Hold (∀ W', Mod noB wr W' → W'.heap[w.heap.size]? = some (.cells (dyC ao d.bl.length cap d) 24) ∧ InB B W' ao d lo l ∧ W'.cell? ⟨g, i, none⟩ = some (.slice ia pi.length ic) ∧ IntsAt W' ia pi ∧ W'.cell? ⟨g, i, none⟩ = some (.slice ia pi.length ic) ∧ IntsAt W' ia pi) := ⟨fun W' h => ⟨(HKr.out.later h).now.1, (HKr.out.later h).now.2.1, (cell_same (h.block g hgl id) _).trans HII.out.1, HII.out.2.mod h, (cell_same (h.block g hgl id) _).trans HII.out.1, HII.out.2.mod h⟩⟩
        have hiI : (i : Int) < ((allP d l).length : Int) := by omega
        have hi0 : ¬ (i : Int) < 0 := by omega
        obtain ⟨ci, hci⟩ : ∃ c, costR d pi = c := ⟨_, rfl⟩
        rw [hci] at HI31
        have HCI := Hold.mk hci
        clear hE hib hix hui huii hii hpi hci hi1
        go_wp2
        refine region_quietP (by kernel_rfl) (by kernel_rfl) (fun W' => Mod noB wr W') ((Mod.refl _ _).drew) ?_
        repeat
          (first
            | go_big_quiet_skip
            | (go_big_quiet_want
               go_simp
               first
                 | go_big_quiet_on
                 | (apply Exists.intro
                    refine ⟨fun W' hC => ?_, ?_⟩
                    · obtain ⟨gd, gI, gk, gK, gi, gM⟩ := FIN.out W' hC
                      have c0 := cellsAt gd 0; have c1 := cellsAt gd 1; have c2 := cellsAt gd 2; have c3 := cellsAt gd 3
                      first
                        | (go_at_call 31; (with_reducible refine (HI31.out _ gM).mono ?_); exact fun e w'' he => ⟨he.1, hC.trans he.2⟩)
                        | with_reducible rfl
                        | (clear gd gI gK gM; go_simp; first | rfl | exact ⟨rfl, rfl⟩)
                    go_big_quiet_on)
                 | (refine ⟨⟨_, fun _ _ => rfl⟩, ?_⟩; go_big_quiet_on)))
        refine wpQuiet_nil ?_
        intro Wq hq
        have HKq := Hold.mk (HKr.out.later hq)
        have HUq := Hold.mk (HUI.out.mod hq)
        clear hq
        go_wp2
        exact bodyPost_ret (v := .tuple #[.slice ia pi.length ic, .int .i64 ci, .int .i64 0]) (by simp [results, Tryd.results26, go_sem]) rfl (by rw [HE.out, HCI.out]; exact ⟨_, rfl, HUq.out, HKq.out.now.2.2⟩)

theorem refPlan_any (B : Nat) (ao : Option Addr) (cap : Nat) (d : Dye) (lo : Option Addr) (lcap : Nat) (l : List (Int × Int)) (w : World) (hI : InB B w ao d lo l) :
    Calls Tryd.prog 26 #[dyV ao d.bl.length cap d, .slice lo l.length lcap] w (PlanV (planE d l) w) := by
  cases hd : dieB d with
  | false =>
    rw [show planE d l = ([], 0, 1) by simp [planE, hd]]
    exact refPlan_no B ao cap d lo lcap l w hI 1 (by omega) (by simp [checkE, hd])
  | true =>
    cases hs : stintsB l with
    | false =>
      rw [show planE d l = ([], 0, 2) by simp [planE, hd, hs]]
      exact refPlan_no B ao cap d lo lcap l w hI 2 (by omega) (by simp [checkE, hd, hs])
    | true => exact refPlan_yes B ao cap d lo lcap l w hI hd hs
end Go.Proofs.YtdncppempgpooaaDoor

/- RuleBests: the law's walk. -/
namespace Go.Proofs.YtdncppempgpooaaDoor
open Go Go.RowKit Go.Shelf

theorem plan_len {d : Dye} {l : List (Int × Int)} {P : List Int} {pc pe : Int} (h : planE d l = (P, pc, pe)) : P.length ≤ 1000000 := by
  unfold planE at h
  cases hd : dieB d with
  | false => rw [hd] at h; simp at h; rw [h.1]; simp
  | true =>
  cases hs : stintsB l with
  | false => rw [hd, hs] at h; simp at h; rw [h.1]; simp
  | true =>
  have hl7 : l.length ≤ 7 := by simp [stintsB] at hs; omega
  cases hb : bearsB d l with
  | false => rw [hd, hs, hb] at h; simp at h; rw [h.1]; simp
  | true =>
    rw [hd, hs, hb] at h
    cases l with
    | nil => simp at h; rw [h.1]; simp
    | cons s ss =>
      simp at h
      have hbe : ∀ x ∈ s :: ss, failing d zeroR x = none := fun x hx => by
        unfold bearsB at hb
        have := List.all_eq_true.1 hb x hx
        simpa using this
      obtain ⟨a1, _⟩ := best_cost hbe
      have e : bestP d (s :: ss) = (bestR d ss (runR d zeroR s)).2 := rfl
      rw [← h.1, List.length_map, ← e, a1]
      simp at hl7 ⊢; omega

set_option maxRecDepth 100000 in
set_option maxHeartbeats 4000000 in
theorem law5_far (ao lo : Option Addr) (cap n lcap ln : Nat) (x y z : Int) (w : World) (hn : n ≤ 9223372036854775807) (hl : ln ≤ 9223372036854775807) (hf : (10 < (n : Int)) ∨ (12 < (ln : Int))) (hT : Tab w) :
    Calls Tryd.prog 5 #[.agg #[.slice ao n cap, .int .i64 x, .int .i64 y, .int .i64 z], .slice lo ln lcap] w fun e w' => e = .returned (.bool true) ∧ Mod noB w w' := by
  have hw1 : 1 < w.heap.size := World.block_lt_of_cell? _ _ (hT.at_ 0 (by omega))
  have HF := Hold.mk (show Kept (w.alloc (.cells #[.slice ao n cap, .int .i64 x, .int .i64 y, .int .i64 z] 24)) (fun W => Tab W ∧ Mod noB w W) from fun W h => by
    have hm := ((Mod.refl noB w).alloc _).trans h
    exact ⟨hT.same (hm.block 1 hw1 id), hm⟩)
  have H12 : Hold (∀ W, Calls Tryd.prog 12 #[.agg #[.slice ao n cap, .int .i64 x, .int .i64 y, .int .i64 z], .slice lo ln lcap, .slice none 0 0] W fun e w' => e = .returned (.bool true) ∧ Mod noB W w') := ⟨fun W => (far_more ao lo none cap n ln 0 lcap 0 x y z W hn hl (by omega)).mono fun e w' h => ⟨by rw [h.1]; congr 2; simp; omega, h.2⟩⟩
  clear hT hw1 hf
  go_enter Tryd.func5, Tryd.ntmps5
  go_wp2_with (first
    | (go_at_call 12; refine (H12.out _).mono ?_; rintro e w1 ⟨rfl, hM⟩; have HF1 := Hold.mk (HF.out.later hM); clear hM)
    | (go_at_call 13; refine (awake_any _ HF1.out.now.1).mono ?_; rintro e w2 ⟨rfl, hM⟩; have HF2 := Hold.mk (HF1.out.later hM); clear hM))
  go_ret
  exact ⟨rfl, HF2.out.now.2⟩

set_option maxRecDepth 100000 in
set_option maxHeartbeats 8000000 in
theorem law5_near (B : Nat) (ao : Option Addr) (cap : Nat) (d : Dye) (lo : Option Addr) (lcap : Nat) (l : List (Int × Int)) (w : World) (hI : InB B w ao d lo l) (h1 : ¬ 10 < (d.bl.length : Int)) (h2 : ¬ 12 < (l.length : Int)) :
    Calls Tryd.prog 5 #[dyV ao d.bl.length cap d, .slice lo l.length lcap] w fun e w' => e = .returned (.bool true) ∧ Mod noB w w' := by
  have hsm := hI.bl.small
  have HF := Hold.mk (lawd0 (cap := cap) hI)
  have H12 : Hold (∀ W, Calls Tryd.prog 12 #[dyV ao d.bl.length cap d, .slice lo l.length lcap, .slice none 0 0] W fun e w' => e = .returned (.bool false) ∧ Mod noB W w') := ⟨fun W => (far_more ao lo none cap d.bl.length l.length 0 lcap 0 d.bound d.stop d.bend W (by omega) (by omega) (by omega)).mono fun e w' h => ⟨by rw [h.1]; congr 2; simp; omega, h.2⟩⟩
  have H24 : Hold (∀ W, Calls Tryd.prog 24 #[dyV ao d.bl.length cap d, .slice lo l.length lcap, .int .i64 1024] W fun e w' => SomeB e ∧ Mod noB W w') := ⟨fun W => heavy_any ao cap d.bl.length d.bound d.stop d.bend lo l.length lcap 1024 W (by omega) (by omega)⟩
  obtain ⟨⟨P, pc, pe⟩, hpl⟩ : ∃ v, planE d l = v := ⟨_, rfl⟩
  have hpn := plan_len hpl
  have H25 : Hold (∀ W, InB B W ao d lo l → Calls Tryd.prog 25 #[dyV ao d.bl.length cap d, .slice lo l.length lcap] W fun e w' => ∃ a1 k1, e = .returned (.tuple #[.slice a1 P.length k1, .int .i64 pc, .int .i64 pe]) ∧ IntsAt w' a1 P ∧ Mod noB W w') := ⟨fun W h => (plan_any B ao cap d lo lcap l W h).mono fun e w' h => by
    rw [hpl] at h
    obtain ⟨a1, k1, he, hi, _, _, hm⟩ := h
    exact ⟨a1, k1, he, hi, hm⟩⟩
  have H26 : Hold (∀ W, InB B W ao d lo l → Calls Tryd.prog 26 #[dyV ao d.bl.length cap d, .slice lo l.length lcap] W fun e w' => ∃ a1 k1, e = .returned (.tuple #[.slice a1 P.length k1, .int .i64 pc, .int .i64 pe]) ∧ IntsAt w' a1 P ∧ Mod noB W w') := ⟨fun W h => (refPlan_any B ao cap d lo lcap l W h).mono fun e w' h => by
    rw [hpl] at h
    obtain ⟨u, he, hiv, hm⟩ := h
    obtain ⟨a1, k1, rfl, hi⟩ := hiv.ints hpn
    exact ⟨a1, k1, he, hi, hm⟩⟩
  clear hI h1 h2 hpl
  go_enter Tryd.func5, Tryd.ntmps5
  go_wp2_with (first
    | (refine wpList_load_row rfl 24 (.tmp 2) rfl w.heap.size rfl 24 _ (0, 0) _ HF.out.now.1 Tryd.underlying24 rfl info24 ?_)
    | (go_at_call 12; refine (H12.out _).mono ?_; rintro e w1 ⟨rfl, hM⟩; have HF := Hold.mk (HF.out.later hM); have hg := HF.out.now.1; have g0 := cellsAt hg 0; have g1 := cellsAt hg 1; have g2 := cellsAt hg 2; have g3 := cellsAt hg 3; clear hM hg)
    | (go_at_call 24; refine (H24.out _).mono ?_; rintro e w2 ⟨⟨b, rfl⟩, hM⟩; have HF := Hold.mk (HF.out.later hM); clear hM; cases b)
    | (go_at_call 25; refine (H25.out _ HF.out.now.2.1).mono ?_; rintro e w6 ⟨a1, k1, rfl, i1, hM⟩; have HF := Hold.mk (HF.out.later hM); have HP := Hold.mk (kept_ints i1); clear hM i1)
    | (go_at_call 26; refine (H26.out _ HF.out.now.2.1).mono ?_; rintro e w7 ⟨a2, k2, rfl, i2, hM⟩; have HF := Hold.mk (HF.out.later hM); have HP := Hold.mk (HP.out.later hM); have HQ := Hold.mk (kept_ints i2); clear hM i2)
    | (go_at_call 23; refine (callInts (L := P) rfl rfl HP.out.now HQ.out.now).mono ?_; rintro e w8 ⟨rfl, hM⟩; have HF := Hold.mk (HF.out.later hM); clear hM)
    | (go_at_call 13; refine (awake_any _ HF.out.now.2.1.tab).mono ?_; rintro e w9 ⟨rfl, hM⟩; have HF := Hold.mk (HF.out.later hM); clear hM))
  all_goals
    go_ret
    exact ⟨rfl, HF.out.now.2.2⟩
end Go.Proofs.YtdncppempgpooaaDoor

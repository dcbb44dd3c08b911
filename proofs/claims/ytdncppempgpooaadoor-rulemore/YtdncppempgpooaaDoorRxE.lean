/- Several texts in one (a claim holds at most 60 files): each has its own words ahead of it. -/
import Derived.Test.YtdncppempgpooaaDoorRwP
import Derived.Test.YtdncppempgpooaaDoorRxD
import Derived.Test.YtdncppempgpooaaDoorRwT
import Derived.Test.YtdncppempgpooaaDoorRwI
import Derived.Test.YtdncppempgpooaaDoorRwU
set_option linter.unusedSimpArgs false
set_option linter.unusedVariables false

/- The rows of the proof: none can be run through, the plan that bends all blades before each last stint is good, and each good plan stops in each row. -/
namespace Go.Proofs.YtdncppempgpooaaDoor
open Go.RowKit

abbrev Row := (Nat × Nat) × Nat
/-- A row, from a stint to another one, and the blade that is named. -/
structure RowOk (d : Dye) (l : List (Int × Int)) (f t b : Nat) : Prop where
  ft : f < t
  tl : t < l.length
  bl : b < d.bl.length
  stuck : stuckR d (segA l f t) = none
  fails : ∀ s, l[t]? = some s → d.bound + s.2 < mostV (bladeAt d b) (sumS (segA l f (t + 1)))
def RowsOk (d : Dye) (l : List (Int × Int)) : Nat → List Row → Prop
  | _, [] => True
  | fr, x :: rest => x.1.1 = fr ∧ RowOk d l x.1.1 x.1.2 x.2 ∧ RowsOk d l x.1.2 rest
theorem rows_ok {d : Dye} {l : List (Int × Int)} (hb : ∀ s ∈ l, failing d zeroR s = none) : ∀ (ss : List (Int × Int)) (i fr : Nat) (r : Nat → Int), l.drop i = ss → fr < i → (∀ k, k < d.bl.length → r k = sumS (segA l fr i)) → (∀ k, k < d.bl.length → stuckAt d k 0 (segA l fr i) = false) →
    RowsOk d l fr (rowsR d fr i r ss) := by
  intro ss
  induction ss with
  | nil => intro i fr r _ _ _ _; simp [rowsR, RowsOk]
  | cons s ss ih =>
    intro i fr r hd hfi h1 h2
    have hi : i < l.length := by
      rcases Nat.lt_or_ge i l.length with h | h
      · exact h
      · rw [List.drop_eq_nil_of_le h] at hd; cases hd
    have hs : l[i]? = some s := by
      have := List.getElem?_drop (xs := l) (i := i) (j := 0)
      rw [hd] at this; simpa using this.symm
    have hd2 : l.drop (i + 1) = ss := by
      have := drop_at hs
      rw [hd] at this
      exact (List.cons.inj this).2.symm
    have hnx := segA_succ hs (Nat.le_of_lt hfi)
    have hst := stuckR_next (s := s) h2 h1
    simp only [rowsR]
    cases hf : failing d r s with
    | some b =>
      obtain ⟨f1, f2, f3⟩ := failing_some hf
      have e1 : segA l i (i + 1) = [s] := by rw [segA_succ hs (Nat.le_refl _), segA_self]; rfl
      refine ⟨rfl, ⟨hfi, hi, f1, ?_, fun s' h => ?_⟩, ?_⟩
      · unfold stuckR
        rw [List.find?_eq_none]
        intro k hk
        simp [h2 k (List.mem_range.1 hk)]
      · rw [hs] at h
        obtain rfl := Option.some.inj h
        rw [hnx, sumS_snoc, ← h1 b f1]
        exact of_decide_eq_true f2
      · refine ih (i + 1) i _ hd2 (by omega) (fun k hk => ?_) (fun k hk => ?_)
        · rw [e1]; simp [runR, hk, bentR, allS_bit hk, sumS]
        · rw [e1]; exact stuck_none (by rw [← hb s (List.mem_of_getElem? hs)]; exact stuckR_next (a := []) (fun k _ => rfl) (fun k _ => rfl)) k hk
    | none =>
      refine ih (i + 1) fr _ hd2 (by omega) (fun k hk => ?_) (fun k hk => ?_)
      · rw [hnx, sumS_snoc, ← h1 k hk]; simp [runR, hk]
      · rw [hnx]; exact stuck_none (by rw [hst, hf]) k hk
theorem rows_ok0 {d : Dye} {l : List (Int × Int)} (hb : ∀ s ∈ l, failing d zeroR s = none) : RowsOk d l 0 (rowsR d 0 0 zeroR l) := by
  cases l with
  | nil => simp [rowsR, RowsOk]
  | cons s ss =>
    have hf := hb s (by simp)
    simp only [rowsR, hf]
    have e1 : segA (s :: ss) 0 1 = [s] := rfl
    refine rows_ok hb ss 1 0 _ rfl (by omega) (fun k hk => ?_) (fun k hk => ?_)
    · rw [e1]; simp [runR, hk, zeroR, sumS]
    · rw [e1]; exact stuck_none (by rw [← hf]; exact stuckR_next (a := []) (fun k _ => rfl) (fun k _ => rfl)) k hk
theorem RowsOk.at_ {d : Dye} {l : List (Int × Int)} : ∀ (rows : List Row) (fr m : Nat) (x : Row), RowsOk d l fr rows → rows[m]? = some x → x.1.1 = ((rows.take m).getLast?.map (·.1.2)).getD fr ∧ RowOk d l x.1.1 x.1.2 x.2 := by
  intro rows
  induction rows with
  | nil => intro fr m x _ h; simp at h
  | cons y rest ih =>
    intro fr m x h hx
    obtain ⟨h1, h2, h3⟩ := h
    cases m with
    | zero => simp at hx; subst hx; exact ⟨by simpa using h1, h2⟩
    | succ m =>
      obtain ⟨a, b⟩ := ih y.1.2 m x h3 (by simpa using hx)
      refine ⟨?_, b⟩
      rw [a, List.take_succ_cons, List.getLast?_cons]
      cases (rest.take m).getLast? <;> rfl
/-- The end of the last row so far. -/
def lastT (rows : List Row) (m : Nat) : Nat := ((rows.take m).getLast?.map (·.1.2)).getD 0
theorem lastT_succ {rows : List Row} {m : Nat} {x : Row} (h : rows[m]? = some x) : lastT rows (m + 1) = x.1.2 := by
  unfold lastT
  obtain ⟨hlt, he⟩ := List.getElem?_eq_some_iff.1 h
  rw [List.take_succ_eq_append_getElem hlt, he]
  simp

theorem stuckAt_prefix {d : Dye} {k : Nat} : ∀ (a c : List (Int × Int)) (r : Int), stuckAt d k r (a ++ c) = false → stuckAt d k r a = false := by
  intro a
  induction a with
  | nil => intro c r _; rfl
  | cons x a ih =>
    intro c r h
    simp only [List.cons_append, stuckAt, Bool.or_eq_false_iff] at h ⊢
    exact ⟨h.1, ih c _ h.2⟩
theorem segA_prefix {l : List (Int × Int)} {f i t : Nat} (h1 : f ≤ i) (h2 : i ≤ t) : ∃ c, segA l f t = segA l f i ++ c := by
  refine ⟨((l.drop f).take (t - f)).drop (i - f), ?_⟩
  unfold segA
  conv => lhs; rw [← List.take_append_drop (i - f) ((l.drop f).take (t - f))]
  rw [List.take_take, Nat.min_eq_left (by omega)]
/-- Before its last stint, a row can be run. -/
theorem RowOk.holds {d : Dye} {l : List (Int × Int)} {f t b i : Nat} {s : Int × Int} (h : RowOk d l f t b) (hf : f ≤ i) (hi : i < t) (hs : l[i]? = some s) : ¬ d.bound + s.2 < mostV (bladeAt d b) (sumS (segA l f (i + 1))) := by
  have h0 := stuck_none h.stuck b h.bl
  obtain ⟨c, hc⟩ := segA_prefix (l := l) (f := f) (i := i + 1) (t := t) (by omega) (by omega)
  rw [hc] at h0
  have h1 := stuckAt_prefix _ _ _ h0
  rw [segA_succ hs hf, stuckAt_snoc, Bool.or_eq_false_iff] at h1
  rw [segA_succ hs hf, sumS_snoc]
  have := of_decide_eq_false h1.2
  rw [Int.zero_add] at this
  exact this

/-- The sets that bend all blades before the last stint of each row. -/
def setsF (d : Dye) (rows : List Row) (j : Nat) : Int := if rows.any (fun x => x.1.2 == j + 1) then (allS d : Int) else 0
theorem setsF_snoc (d : Dye) (rows : List Row) (x : Row) (hx : 0 < x.1.2) (j : Nat) : (if j = x.1.2 - 1 then (allS d : Int) else setsF d rows j) = setsF d (rows ++ [x]) j := by
  unfold setsF
  have e : (rows ++ [x]).any (fun y => y.1.2 == j + 1) = (rows.any (fun y => y.1.2 == j + 1) || (x.1.2 == j + 1)) := by
    rw [List.any_append]; simp only [List.any_cons, List.any_nil, Bool.or_false]
  rw [e]
  by_cases h : j = x.1.2 - 1
  · have : (x.1.2 == j + 1) = true := by simp; omega
    rw [if_pos h, this, Bool.or_true, if_pos rfl]
  · have : (x.1.2 == j + 1) = false := by simp; omega
    rw [if_neg h, this, Bool.or_false]
theorem rows_ge {d : Dye} : ∀ (ss : List (Int × Int)) (fr i : Nat) (r : Nat → Int) (x : Row), x ∈ rowsR d fr i r ss → i ≤ x.1.2 := by
  intro ss
  induction ss with
  | nil => intro fr i r x h; simp [rowsR] at h
  | cons s ss ih =>
    intro fr i r x h
    simp only [rowsR] at h
    cases hf : failing d r s with
    | some b =>
      rw [hf] at h
      rcases List.mem_cons.1 h with rfl | h
      · exact Nat.le_refl _
      · have := ih _ _ _ _ h; omega
    | none =>
      rw [hf] at h
      have := ih _ _ _ _ h; omega
theorem good_sets {d : Dye} : ∀ (ss : List (Int × Int)) (i fr : Nat) (r : Nat → Int) (Q : List Nat), (∀ s ∈ ss, failing d zeroR s = none) → (∀ j, j < ss.length → (Q.drop j).headD 0 = if (rowsR d fr i r ss).any (fun x => x.1.2 == i + j) then allS d else 0) → Good d r ss Q := by
  intro ss
  induction ss with
  | nil => intro i fr r Q _ _; trivial
  | cons s ss ih =>
    intro i fr r Q hb hq
    have h0 := hq 0 (by simp)
    rw [List.drop_zero] at h0
    have hdd : ∀ j, ((Q.drop 1).drop j) = Q.drop (j + 1) := fun j => by rw [List.drop_drop, Nat.add_comm]
    have hq' : ∀ j, j < ss.length → (Q.drop (j + 1)).headD 0 = _ := fun j hj => hq (j + 1) (by simp; omega)
    simp only [rowsR] at h0 hq'
    cases hf : failing d r s with
    | some b =>
      simp only [hf] at h0 hq'
      have hall : Q.headD 0 = allS d := by rw [h0]; simp
      refine ⟨by rw [hall]; exact failing_all (hb s (by simp)), ?_⟩
      rw [hall]
      refine ih (i + 1) i _ _ (fun s h => hb s (by simp [h])) (fun j hj => ?_)
      rw [hdd, hq' j hj, List.any_cons]
      have e : (i == i + (j + 1)) = false := by simp
      rw [show ((fr, i), b).1.2 = i from rfl, e, Bool.false_or, show i + (j + 1) = i + 1 + j by omega]
    | none =>
      simp only [hf] at h0 hq'
      have hzero : Q.headD 0 = 0 := by
        rw [h0]
        have : (rowsR d fr (i + 1) (runR d r s) ss).any (fun x => x.1.2 == i + 0) = false := by
          rw [List.any_eq_false]
          intro x hx
          have := rows_ge _ _ _ _ _ hx
          simp; omega
        rw [this]; rfl
      have hbz : bentR r 0 = r := by funext k; simp [bentR]
      refine ⟨by rw [hzero, hbz]; exact hf, ?_⟩
      rw [hzero, hbz]
      refine ih (i + 1) fr _ _ (fun s h => hb s (by simp [h])) (fun j hj => ?_)
      rw [hdd, hq' j hj, show i + (j + 1) = i + 1 + j by omega]

/-- The plan of these sets, as a list. -/
def setsL (d : Dye) (rows : List Row) (m : Nat) : List Int := (List.range m).map (setsF d rows)
theorem sets_good {d : Dye} {l : List (Int × Int)} (hb : ∀ s ∈ l, failing d zeroR s = none) : Good d zeroR l (0 :: natsOf (setsL d (rowsR d 0 0 zeroR l) (l.length - 1))) := by
  refine good_sets l 0 0 zeroR _ hb (fun j hj => ?_)
  cases j with
  | zero =>
    show (0 : Nat) = _
    cases l with
    | nil => simp at hj
    | cons s ss =>
      have hf := hb s (by simp)
      have : (rowsR d 0 0 zeroR (s :: ss)).any (fun x => x.1.2 == 0 + 0) = false := by
        simp only [rowsR, hf]
        rw [List.any_eq_false]
        intro x hx
        have := rows_ge _ _ _ _ _ hx
        simp; omega
      rw [this]; rfl
  | succ j =>
    rw [List.drop_succ_cons, List.headD_eq_head?_getD, List.head?_drop]
    unfold natsOf setsL
    rw [List.getElem?_map, List.getElem?_map, List.getElem?_range (by omega)]
    simp only [Option.map_some, Option.getD_some, setsF, Nat.zero_add]
    split <;> simp
theorem setsL_plan {d : Dye} {rows : List Row} {n : Nat} : ∀ x ∈ setsL d rows n, 0 ≤ x ∧ x < (2 ^ d.bl.length : Nat) := by
  intro x hx
  obtain ⟨j, _, rfl⟩ := List.mem_map.1 hx
  have h1 := two_pow_all d
  unfold setsF
  split <;> omega

/-- Each good plan stops in each row. -/
theorem good_drop {d : Dye} : ∀ (l : List (Int × Int)) (i : Nat) (r : Nat → Int) (Q : List Nat), (∀ s ∈ l, 0 ≤ s.1) → (∀ k, k < d.bl.length → 0 ≤ r k) → Good d r l Q → ∃ r', (∀ k, k < d.bl.length → 0 ≤ r' k) ∧ Good d r' (l.drop i) (Q.drop i) := by
  intro l
  induction l with
  | nil => intro i r Q _ hr hg; exact ⟨r, hr, by simp [Good]⟩
  | cons s ss ih =>
    intro i r Q hs hr hg
    cases i with
    | zero => exact ⟨r, hr, hg⟩
    | succ i =>
      obtain ⟨r', h1, h2⟩ := ih i _ (Q.drop 1) (fun s h => hs s (by simp [h])) (fun k hk => by
        have := hr k hk
        have := hs s (by simp)
        unfold runR bentR
        rw [if_pos hk]; split <;> omega) hg.2
      exact ⟨r', h1, by rw [List.drop_succ_cons, show Q.drop (i + 1) = (Q.drop 1).drop i by rw [List.drop_drop, Nat.add_comm]]; exact h2⟩
theorem good_stops {d : Dye} (hw : ∀ b ∈ d.bl, 0 ≤ b.w.2) {l : List (Int × Int)} {Q : List Nat} (hs : ∀ s ∈ l, 0 ≤ s.1) (hg : Good d zeroR l Q) {f t b : Nat} (h : RowOk d l f t b) : ∃ i, f < i ∧ i ≤ t ∧ (Q.drop i).headD 0 ≠ 0 := by
  refine Classical.byContradiction fun hno => ?_
  have hz : ∀ i, f < i → i ≤ t → (Q.drop i).headD 0 = 0 := fun i h1 h2 => Classical.byContradiction fun hc => hno ⟨i, h1, h2, hc⟩
  have step : ∀ n i, f < i → i + n = t → ∀ r : Nat → Int, (∀ k, k < d.bl.length → sumS (segA l f i) ≤ r k) → Good d r (l.drop i) (Q.drop i) → False := by
    intro n
    induction n with
    | zero =>
      intro i hf hi r hr hg
      obtain rfl : i = t := by omega
      obtain ⟨s, hst⟩ : ∃ s, l[i]? = some s := ⟨_, List.getElem?_eq_getElem h.tl⟩
      rw [drop_at hst] at hg
      have h1 := hg.1
      rw [hz i hf (Nat.le_refl _)] at h1
      have hbz : bentR r 0 = r := by funext k; simp [bentR]
      rw [hbz, failing_iff] at h1
      have h2 := of_decide_eq_false (h1 b h.bl)
      have h3 := h.fails s hst
      rw [segA_succ hst (Nat.le_of_lt hf), sumS_snoc] at h3
      have hb : bladeAt d b ∈ d.bl := List.mem_of_getElem? (bladeAt_some h.bl)
      have := hr b h.bl
      have h4 : (sumS (segA l f i) + s.1) * (bladeAt d b).w.2 ≤ (r b + s.1) * (bladeAt d b).w.2 := Int.mul_le_mul_of_nonneg_right (by omega) (hw _ hb)
      exact h2 (Int.lt_of_lt_of_le h3 (Int.add_le_add_left h4 _))
    | succ n ih =>
      intro i hf hi r hr hg
      obtain ⟨s, hst⟩ : ∃ s, l[i]? = some s := ⟨_, List.getElem?_eq_getElem (by have := h.tl; omega)⟩
      rw [drop_at hst] at hg
      have h2 := hg.2
      rw [hz i hf (by omega)] at h2
      have hbz : bentR r 0 = r := by funext k; simp [bentR]
      rw [hbz, List.drop_drop] at h2
      refine ih (i + 1) (by omega) (by omega) _ (fun k hk => ?_) h2
      rw [segA_succ hst (Nat.le_of_lt hf), sumS_snoc]
      have := hr k hk
      simp only [runR, hk, if_true]; omega
  obtain ⟨r, hr, hgf⟩ := good_drop l f zeroR Q hs (fun k _ => Int.le_refl _) hg
  obtain ⟨s, hsf⟩ : ∃ s, l[f]? = some s := ⟨_, List.getElem?_eq_getElem (by have := h.tl; have := h.ft; omega)⟩
  rw [drop_at hsf] at hgf
  have h2 := hgf.2
  rw [List.drop_drop] at h2
  refine step (t - (f + 1)) (f + 1) (by omega) (by have := h.ft; omega) _ (fun k hk => ?_) h2
  rw [segA_succ hsf (Nat.le_refl _), segA_self]
  have := hr k hk
  have hb0 : 0 ≤ bentR r ((Q.drop f).headD 0) k := by unfold bentR; split <;> omega
  simp only [runR, hk, if_true, sumS, List.nil_append, List.map_cons, List.map_nil, List.sum_cons, List.sum_nil]
  omega
end Go.Proofs.YtdncppempgpooaaDoor

/- RuleProof: the region that asks by how much a blade is off; a plan's row. -/
namespace Go.Proofs.YtdncppempgpooaaDoor
open Go.RowKit Go.Shelf Go.Maps Go.WideMaps

@[reducible] def ob0 : Oper := { dst := some 171, op := Op.load 24 (Operand.tmp 3), type := 24, pos := "outright.go:164", after := #[], guard := none }
@[reducible] def ob1 : Oper := { dst := some 172, op := Op.move (Operand.tmp 8), type := 34, pos := "outright.go:164", after := #[], guard := none }
@[reducible] def ob2 : Oper := { dst := some 173, op := Op.move (Operand.tmp 16), type := 3, pos := "outright.go:164", after := #[], guard := none }
@[reducible] def ob3 : Oper := { dst := some 174, op := Op.indexAddr 34 (Operand.tmp 172) (Operand.tmp 173), type := 0, pos := "outright.go:164", after := #[{ on := 1, ground := Ground.data }, { on := 2, ground := Ground.data }], guard := none }
@[reducible] def ob4 : Oper := { dst := some 175, op := Op.load 3 (Operand.tmp 174), type := 3, pos := "outright.go:164", after := #[{ on := 3, ground := Ground.data }], guard := none }
@[reducible] def ob5 : Oper := { dst := some 176, op := Op.move (Operand.tmp 18), type := 3, pos := "outright.go:164", after := #[], guard := none }
@[reducible] def ob6 : Oper := { dst := some 177, op := Op.call { callee := Callee.value (Operand.func 14), args := #[Operand.tmp 171, Operand.tmp 175, Operand.tmp 176], argTypes := #[24, 3, 3] }, type := 30, pos := "outright.go:164", after := #[{ on := 0, ground := Ground.data }, { on := 4, ground := Ground.data }, { on := 5, ground := Ground.data }], guard := none }
@[reducible] def ob7 : Oper := { dst := some 170, op := Op.move (Operand.tmp 177), type := 30, pos := "outright.go:164", after := #[{ on := 6, ground := Ground.data }], guard := none }
@[reducible] def ob8 : Oper := { dst := some 178, op := Op.extract (Operand.tmp 170) 0, type := 28, pos := "outright.go:164", after := #[{ on := 7, ground := Ground.data }], guard := none }
@[reducible] def ob9 : Oper := { dst := some 179, op := Op.extract (Operand.tmp 170) 1, type := 29, pos := "outright.go:164", after := #[{ on := 7, ground := Ground.data }, { on := 11, ground := Ground.gcOnly Departure.lateStores }], guard := none }
@[reducible] def ob10 : Oper := { dst := some 20, op := Op.alloc 28, type := 0, pos := "outright.go:164", after := #[], guard := none }
@[reducible] def ob11 : Oper := { dst := none, op := Op.store 28 (Operand.tmp 20) (Operand.tmp 178), type := 0, pos := "outright.go:164", after := #[{ on := 10, ground := Ground.data }, { on := 8, ground := Ground.data }, { on := 6, ground := Ground.chain }, { on := 0, ground := Ground.phase }, { on := 1, ground := Ground.phase }, { on := 2, ground := Ground.phase }, { on := 3, ground := Ground.phase }, { on := 4, ground := Ground.phase }, { on := 5, ground := Ground.phase }, { on := 6, ground := Ground.phase }, { on := 7, ground := Ground.phase }, { on := 8, ground := Ground.phase }, { on := 9, ground := Ground.textOnly Departure.lateStores }, { on := 10, ground := Ground.phase }], guard := none }
@[reducible] def ob12 : Oper := { dst := some 21, op := Op.assign (Operand.tmp 179), type := 29, pos := "outright.go:164", after := #[{ on := 9, ground := Ground.data }, { on := 11, ground := Ground.chain }, { on := 0, ground := Ground.phase }, { on := 1, ground := Ground.phase }, { on := 2, ground := Ground.phase }, { on := 3, ground := Ground.phase }, { on := 4, ground := Ground.phase }, { on := 5, ground := Ground.phase }, { on := 6, ground := Ground.phase }, { on := 7, ground := Ground.phase }, { on := 8, ground := Ground.phase }, { on := 9, ground := Ground.phase }, { on := 10, ground := Ground.phase }, { on := 11, ground := Ground.phase }], guard := none }
@[reducible] def obOps : List Oper := [ob0, ob1, ob2, ob3, ob4, ob5, ob6, ob7, ob8, ob9, ob10, ob11, ob12]
@[reducible] def obDs : List (Nat × Nat) := [(0, 171), (1, 172), (2, 173), (3, 174), (4, 175), (5, 176), (6, 177), (7, 170), (8, 178), (9, 179), (10, 20), (12, 21)]
theorem obB : lowB obOps = true := by kernel_rfl
theorem obOk : okB obOps obDs 286 = true := by decide +kernel

section
variable {o : Oper} {a : Act} {w : World} {x y z : Operand}
theorem run_index34 (hop : o.op = .indexAddr 34 x y) {b off n cap i : Nat} (hx : a.eval x = .slice (some ⟨b, off, none⟩) n cap) (hy : a.eval y = .int .i64 i) (hi : i < n) : (execOp a.eval o).run Tryd.prog w = .ok (.value (.pointer (some ⟨b, off + i, none⟩))) w := by
  have h1 : (i : Int) < n := by omega
  have h0 : (0 : Int) ≤ i := by omega
  simp only [execOp, hop, hx, hy]
  go_simp
  done
theorem run_alloc28 (hop : o.op = .alloc 28) : (execOp a.eval o).run Tryd.prog w = .ok (.value (.pointer (some ⟨w.heap.size, 0, none⟩))) (w.alloc (.cells (spC (0, 0)) 28)) := by
  simp only [execOp, hop]
  go_simp
  done
end
theorem enter14 : ∀ args w, (callFunc 14 args).run Tryd.prog w = .ok (.enter 14 args) w := enters_of Tryd.func14 (by kernel_rfl) rfl
def obC (ao : Option Addr) (cap : Nat) (d : Dye) (ko : Option Addr) (kb koff kn kcap m b : Nat) (ran : Int) (s : Int × Int) : Nat → Value
  | 0 => dyV ao d.bl.length cap d
  | 1 => .slice ko kn kcap
  | 2 => .int .i64 m
  | 3 => .pointer (some ⟨kb, koff + m, none⟩)
  | 4 => .int .i64 b
  | 5 => .int .i64 ran
  | 6 => .tuple #[spV s, .int .i64 0]
  | 7 => .tuple #[spV s, .int .i64 0]
  | 8 => spV s
  | _ => .int .i64 0
structure ObW (C : Nat → Value) (s : Int × Int) (w : World) (D : Nat → Bool) (vs : Nat → Value) (w' : World) : Prop where
  c : ∀ j, j ≠ 10 → j ≠ 11 → D j = true → vs j = C j
  p : D 10 = true → ∃ pb, vs 10 = .pointer (some ⟨pb, 0, none⟩) ∧ w.heap.size ≤ pb ∧ (D 11 = false → w'.heap[pb]? = some (.cells (spC (0, 0)) 28)) ∧ (D 11 = true → w'.heap[pb]? = some (.cells (spC s) 28))
  m : Mod noB w w'
theorem ObW.read {C : Nat → Value} {s : Int × Int} {w : World} {D : Nat → Bool} {vs : Nat → Value} {w' w2 : World} (h : ObW C s w D vs w') (hm : Mod noB w' w2) {i : Nat} (h10 : i ≠ 10) (h11 : i ≠ 11) : ObW C s w (fun j => j == i || D j) (fun j => if j = i then C i else vs j) w2 := by
  have n10 : (10 == i) = false := by simp; omega
  have n11 : (11 == i) = false := by simp; omega
  refine ⟨fun j a b hd => ?_, fun h1 => ?_, h.m.trans hm⟩
  · by_cases e : j = i
    · subst e; simp
    · simp only [e, if_false]
      have e2 : (j == i) = false := by simpa using e
      simp only [e2, Bool.false_or] at hd
      exact h.c j a b hd
  · simp only [n10, n11, Bool.false_or] at h1 ⊢
    obtain ⟨pb, p1, p2, p3, p4⟩ := h.p h1
    exact ⟨pb, by rw [if_neg (by omega)]; exact p1, p2, fun h => hm.at (p3 h) id, fun h => hm.at (p4 h) id⟩

set_option maxRecDepth 100000 in
set_option maxHeartbeats 4000000 in
theorem region_offs {rid : Nat} {Q : Exit → Act → World → Prop} {a0 : Act} {w : World} {ao : Option Addr} {cap : Nat} {d : Dye} {ko : Option Addr} {kb koff kn kcap m b db : Nat} {ran : Int} {s : Int × Int} (hsz : a0.tmps.size = 286)
    (x3 : a0.eval (.tmp 3) = .pointer (some ⟨db, 0, none⟩)) (x8 : a0.eval (.tmp 8) = .slice ko kn kcap) (x16 : a0.eval (.tmp 16) = .int .i64 m) (x18 : a0.eval (.tmp 18) = .int .i64 ran) (hko : ko = some ⟨kb, koff, none⟩) (hm : m < kn)
    (hdie : w.heap[db]? = some (.cells (dyC ao d.bl.length cap d) 24)) (hk : w.cell? ⟨kb, koff + m, none⟩ = some (.int .i64 b))
    (HC : ∀ W, Mod noB w W → Calls Tryd.prog 14 #[dyV ao d.bl.length cap d, .int .i64 b, .int .i64 ran] W fun e w' => e = .returned (.tuple #[spV s, .int .i64 0]) ∧ Mod noB W w')
    (hend : ∀ (vs : Nat → Value) w' pb, vs 10 = .pointer (some ⟨pb, 0, none⟩) → vs 12 = .int .i64 0 → w.heap.size ≤ pb → w'.heap[pb]? = some (.cells (spC s) 28) → Mod noB w w' → Q .normal (obDs.foldl (fun a x => a.put (some x.2) (vs x.1)) a0) w') : (Code.region rid obOps.toArray true).wp Tryd.prog Q a0 w := by
  have hkl := World.block_lt_of_cell? _ _ hk
  refine region_word2 obB obDs 286 hsz obOk (ObW (obC ao cap d ko kb koff kn kcap m b ran s) s w) ?_ ?_ ?_
  · exact ⟨fun _ _ _ h => absurd h (by decide), fun h => absurd h (by decide), (Mod.refl _ _).drew⟩
  · intro D vs i' o ρ w' hlt hcl ho hD hdep EV EO hW
    have far : ∀ s, s ∉ obDs.map Prod.snd → ρ.eval (.tmp s) = a0.eval (.tmp s) := fun s hs => EO s fun x hx e => absurd (e ▸ List.mem_map.2 ⟨x, hx, rfl⟩ : s ∈ obDs.map Prod.snd) hs
    have kn : ∀ j s', j ≠ 10 → j ≠ 11 → (∃ e ∈ o.after, Region.binds .any e = true ∧ e.on = j) → (j, s') ∈ obDs → ρ.eval (.tmp s') = obC ao cap d ko kb koff kn kcap m b ran s j := fun j s' h1 h2 ⟨e, he, hb, hje⟩ hm => (EV _ _ hm (hje ▸ hdep e he hb)).trans (hW.c j h1 h2 (hje ▸ hdep e he hb))
    have hlt' : i' < 13 := hlt
    rcases (by omega : i' = 0 ∨ i' = 1 ∨ i' = 2 ∨ i' = 3 ∨ i' = 4 ∨ i' = 5 ∨ i' = 6 ∨ i' = 7 ∨ i' = 8 ∨ i' = 9 ∨ i' = 10 ∨ i' = 11 ∨ i' = 12) with rfl | rfl | rfl | rfl | rfl | rfl | rfl | rfl | rfl | rfl | rfl | rfl | rfl
    all_goals (obtain rfl := Option.some.inj ho)
    · exact step_loadRow rfl 24 rfl db ((far 3 (by decide)).trans x3) _ 24 _ (hW.m.at hdie id) rfl Tryd.underlying24 info24 ⟨_, rfl, hW.read (Mod.refl _ _) (by omega) (by omega)⟩
    · exact step_run rfl _ _ (run_move rfl ((far 8 (by decide)).trans x8)) ⟨_, rfl, hW.read (Mod.refl _ _) (by omega) (by omega)⟩
    · exact step_run rfl _ _ (run_move rfl ((far 16 (by decide)).trans x16)) ⟨_, rfl, hW.read (Mod.refl _ _) (by omega) (by omega)⟩
    · exact step_run rfl _ _ (run_index34 rfl ((kn 1 172 (by omega) (by omega) ⟨⟨1, .data⟩, by simp, rfl, rfl⟩ (by decide)).trans (by rw [hko]; rfl)) (kn 2 173 (by omega) (by omega) ⟨⟨2, .data⟩, by simp, rfl, rfl⟩ (by decide)) hm) ⟨_, rfl, hW.read (Mod.refl _ _) (by omega) (by omega)⟩
    · exact step_run rfl _ _ (run_load3 rfl (kn 3 174 (by omega) (by omega) ⟨⟨3, .data⟩, by simp, rfl, rfl⟩ (by decide)) ((cell_same (hW.m.block kb hkl id) _).trans hk)) ⟨_, rfl, hW.read (Mod.refl _ _) (by omega) (by omega)⟩
    · exact step_run rfl _ _ (run_move rfl ((far 18 (by decide)).trans x18)) ⟨_, rfl, hW.read (Mod.refl _ _) (by omega) (by omega)⟩
    · have e0 : ρ.eval (.tmp 171) = dyV ao d.bl.length cap d := kn 0 171 (by omega) (by omega) ⟨⟨0, .data⟩, by simp, rfl, rfl⟩ (by decide)
      have e4 : ρ.eval (.tmp 175) = .int .i64 b := kn 4 175 (by omega) (by omega) ⟨⟨4, .data⟩, by simp, rfl, rfl⟩ (by decide)
      have e5 : ρ.eval (.tmp 176) = .int .i64 ran := kn 5 176 (by omega) (by omega) ⟨⟨5, .data⟩, by simp, rfl, rfl⟩ (by decide)
      refine step_call rfl 14 _ _ rfl enter14 ?_
      simp only [List.map_toArray, List.map_cons, List.map_nil, e0, e4, e5]
      refine (HC w' hW.m).mono ?_
      rintro e w2 ⟨h1, h2⟩
      exact ⟨_, h1, _, rfl, hW.read h2 (by omega) (by omega)⟩
    · exact step_run rfl _ _ (run_move rfl (kn 6 177 (by omega) (by omega) ⟨⟨6, .data⟩, by simp, rfl, rfl⟩ (by decide))) ⟨_, rfl, hW.read (Mod.refl _ _) (by omega) (by omega)⟩
    · exact step_run rfl _ _ (run_extract 0 rfl (kn 7 170 (by omega) (by omega) ⟨⟨7, .data⟩, by simp, rfl, rfl⟩ (by decide)) rfl) ⟨_, rfl, hW.read (Mod.refl _ _) (by omega) (by omega)⟩
    · exact step_run rfl _ _ (run_extract 1 rfl (kn 7 170 (by omega) (by omega) ⟨⟨7, .data⟩, by simp, rfl, rfl⟩ (by decide)) rfl) ⟨_, rfl, hW.read (Mod.refl _ _) (by omega) (by omega)⟩
    · have n11 : D 11 = false := by
        cases h : D 11 with
        | false => rfl
        | true => have := hcl 11 ob11 rfl h ⟨10, .data⟩ (by simp) rfl; rw [hD] at this; cases this
      refine step_run rfl _ _ (run_alloc28 rfl) ⟨_, rfl, fun j a b hd => ?_, fun _ => ⟨_, rfl, hW.m.size, fun _ => World.alloc_heap_new _ _, fun h => absurd ((show D 11 = true from h).symm.trans n11) (by decide)⟩, hW.m.alloc _⟩
      have e2 : (j == 10) = false := by simpa using a
      simp only [e2, Bool.false_or] at hd
      simp only [a, if_false]
      exact hW.c j a b hd
    · have g10 : D 10 = true := hdep ⟨10, .data⟩ (by simp) rfl
      obtain ⟨pb, p1, p2, p3, _⟩ := hW.p g10
      have hb := p3 hD
      have e10 : ρ.eval (.tmp 20) = .pointer (some ⟨pb, 0, none⟩) := (EV 10 20 (by decide) g10).trans p1
      have e8 : ρ.eval (.tmp 178) = spV s := kn 8 178 (by omega) (by omega) ⟨⟨8, .data⟩, by simp, rfl, rfl⟩ (by decide)
      refine step_storeRow rfl 28 rfl pb (spC s) e10 e8 28 _ hb info28s rfl (by simp [Value.oneCell']) ⟨undef, rfl, fun j a b hd => ?_, fun _ => ⟨pb, by simpa using p1, p2, fun h => absurd h (by simp), fun _ => World.putObj_heap_same (at_ltS hb)⟩, hW.m.putObj (fun h => by omega) _⟩
      have e2 : (j == 11) = false := by simpa using b
      simp only [e2, Bool.false_or] at hd
      simp only [b, if_false]
      exact hW.c j a b hd
    · exact step_run rfl _ _ (run_assign rfl (kn 9 179 (by omega) (by omega) ⟨⟨9, .data⟩, by simp, rfl, rfl⟩ (by decide))) ⟨_, rfl, hW.read (Mod.refl _ _) (by omega) (by omega)⟩
  · intro vs D w' hall hW
    obtain ⟨pb, p1, p2, _, p4⟩ := hW.p (hall 10 (by decide))
    exact hend vs w' pb p1 (hW.c 12 (by omega) (by omega) (hall 12 (by decide))) p2 (p4 (hall 11 (by decide))) hW.m

end Go.Proofs.YtdncppempgpooaaDoor

/- RuleProof: where the law looks no further; what Proof returns. -/
namespace Go.Proofs.YtdncppempgpooaaDoor
open Go.RowKit Go.Shelf

set_option maxRecDepth 100000 in
set_option maxHeartbeats 4000000 in
theorem law9_far (ao lo bo : Option Addr) (cap n lcap ln bcap bn : Nat) (x y z : Int) (w : World) (hn : n ≤ 9223372036854775807) (hl : ln ≤ 9223372036854775807) (hf : (10 < (n : Int)) ∨ (12 < (ln : Int))) (hT : Tab w) :
    Calls Tryd.prog 9 #[.agg #[.slice ao n cap, .int .i64 x, .int .i64 y, .int .i64 z], .slice lo ln lcap, .slice bo bn bcap] w fun e w' => e = .returned (.bool true) ∧ Mod noB w w' := by
  have hw1 : 1 < w.heap.size := World.block_lt_of_cell? _ _ (hT.at_ 0 (by omega))
  have HF := Hold.mk (show Kept (w.alloc (.cells #[.slice ao n cap, .int .i64 x, .int .i64 y, .int .i64 z] 24)) (fun W => Tab W ∧ Mod noB w W) from fun W h => by
    have hm := ((Mod.refl noB w).alloc _).trans h
    exact ⟨hT.same (hm.block 1 hw1 id), hm⟩)
  have H12 : Hold (∀ W, Calls Tryd.prog 12 #[.agg #[.slice ao n cap, .int .i64 x, .int .i64 y, .int .i64 z], .slice lo ln lcap, .slice none 0 0] W fun e w' => e = .returned (.bool true) ∧ Mod noB W w') := ⟨fun W => (far_more ao lo none cap n ln 0 lcap 0 x y z W hn hl (by omega)).mono fun e w' h => ⟨by rw [h.1]; congr 2; simp; omega, h.2⟩⟩
  clear hT hw1 hf
  go_enter Tryd.func9, Tryd.ntmps9
  go_wp2_with (first
    | (go_at_call 12; refine (H12.out _).mono ?_; rintro e w1 ⟨rfl, hM⟩; have HF1 := Hold.mk (HF.out.later hM); clear hM)
    | (go_at_call 13; refine (awake_any _ HF1.out.now.1).mono ?_; rintro e w2 ⟨rfl, hM⟩; have HF2 := Hold.mk (HF1.out.later hM); clear hM))
  go_ret
  exact ⟨rfl, HF2.out.now.2⟩

set_option maxRecDepth 100000 in
set_option maxHeartbeats 4000000 in
/-- Where the law looks no further: too many plans, no raw numbers, a die or stints that are not valid. -/
theorem law9_no (B : Nat) (ao : Option Addr) (cap : Nat) (d : Dye) (lo : Option Addr) (lcap : Nat) (l : List (Int × Int)) (bo : Option Addr) (bn bcap : Nat) (w : World) (hI : InB B w ao d lo l) (h1 : ¬ 10 < (d.bl.length : Int)) (h2 : ¬ 12 < (l.length : Int)) (hno : bn = 0 ∨ dieB d = false ∨ stintsB l = false) :
    Calls Tryd.prog 9 #[dyV ao d.bl.length cap d, .slice lo l.length lcap, .slice bo bn bcap] w fun e w' => e = .returned (.bool true) ∧ Mod noB w w' := by
  have hsm := hI.bl.small
  have HF := Hold.mk (lawd0 (cap := cap) hI)
  have H12 : Hold (∀ W, Calls Tryd.prog 12 #[dyV ao d.bl.length cap d, .slice lo l.length lcap, .slice none 0 0] W fun e w' => e = .returned (.bool false) ∧ Mod noB W w') := ⟨fun W => (far_more ao lo none cap d.bl.length l.length 0 lcap 0 d.bound d.stop d.bend W (by omega) (by omega) (by omega)).mono fun e w' h => ⟨by rw [h.1]; congr 2; simp; omega, h.2⟩⟩
  have H27 : Hold (∀ W, InB B W ao d lo l → Calls Tryd.prog 27 #[dyV ao d.bl.length cap d] W fun e w' => e = .returned (.bool (dieB d)) ∧ Mod noB W w') := ⟨fun W h => refDie_any B ao cap d W h.le h.bl⟩
  have H28 : Hold (∀ W, InB B W ao d lo l → Calls Tryd.prog 28 #[.slice lo l.length lcap] W fun e w' => e = .returned (.bool (stintsB l)) ∧ Mod noB W w') := ⟨fun W h => refStints_any B lo lcap l W h.le h.st⟩
  have HN := Hold.mk hno
  clear hI h1 h2
  have body : ∀ (db sb : Bool), dieB d = db → stintsB l = sb → (bn = 0 ∨ db = false ∨ sb = false) → Calls Tryd.prog 9 #[dyV ao d.bl.length cap d, .slice lo l.length lcap, .slice bo bn bcap] w fun e w' => e = .returned (.bool true) ∧ Mod noB w w' := by
    intro db sb hdb hsb hh
    rw [hdb] at H27
    rw [hsb] at H28
    clear hdb hsb HN hno
    rcases (show bn = 0 ∨ (0 < bn ∧ db = false) ∨ (0 < bn ∧ db = true ∧ sb = false) from by
      rcases (by omega : bn = 0 ∨ 0 < bn) with h0 | h0
      · exact .inl h0
      · cases db
        · exact .inr (.inl ⟨h0, rfl⟩)
        · refine .inr (.inr ⟨h0, rfl, ?_⟩)
          rcases hh with h | h | h
          · omega
          · cases h
          · exact h) with rfl | ⟨h0, rfl⟩ | ⟨h0, rfl, rfl⟩
    all_goals
      clear hh
      go_enter Tryd.func9, Tryd.ntmps9
      go_wp2_with (first
        | (refine wpList_load_row rfl 24 (.tmp 3) rfl w.heap.size rfl 24 _ (0, 0) _ HF.out.now.1 Tryd.underlying24 rfl info24 ?_)
        | (go_at_call 12; refine (H12.out _).mono ?_; rintro e w1 ⟨rfl, hM⟩; have HF := Hold.mk (HF.out.later hM); have hg := HF.out.now.1; have g0 := cellsAt hg 0; have g1 := cellsAt hg 1; have g2 := cellsAt hg 2; have g3 := cellsAt hg 3; clear hM hg)
        | (go_at_call 27; refine (H27.out _ HF.out.now.2.1).mono ?_; rintro e w3 ⟨rfl, hM⟩; have HF := Hold.mk (HF.out.later hM); clear hM)
        | (go_at_call 28; refine (H28.out _ HF.out.now.2.1).mono ?_; rintro e w4 ⟨rfl, hM⟩; have HF := Hold.mk (HF.out.later hM); clear hM)
        | (go_at_call 13; refine (awake_any _ HF.out.now.2.1.tab).mono ?_; rintro e w5 ⟨rfl, hM⟩; have HF := Hold.mk (HF.out.later hM); clear hM))
      all_goals
        go_ret
        exact ⟨rfl, HF.out.now.2.2⟩
  exact body _ _ rfl rfl HN.out

/-- A row, as the program holds it. -/
@[reducible] def rowP (x : Row) : Int × Int := (Int.ofNat x.1.1, Int.ofNat x.1.2)
@[reducible] def rowK (x : Row) : Int := Int.ofNat x.2
theorem seg_one {d : Dye} {l : List (Int × Int)} {k : Nat} {s : Int × Int} (h : l[k]? = some s) : stuckR d (segL l k k) = failing d zeroR s := by
  have e1 : segL l k k = [] ++ [s] := by
    rw [segL_cons h (Nat.le_refl _), segL_nil]; rfl
  rw [e1]
  exact stuckR_next (a := []) (fun k _ => rfl) (fun k _ => rfl)
theorem seg_all {l : List (Int × Int)} {f t : Nat} (h : 1 ≤ t) : segL l f (t - 1) = segA l f t := by
  unfold segL segA
  rw [show t - 1 + 1 - f = t - f by omega]
theorem proof_is {d : Dye} {l : List (Int × Int)} (hd : dieB d = true) (hs : stintsB l = true) :
    (proofE d l = ([], [], 4) ∧ ∃ k, k < l.length ∧ stuckR d (segL l k k) ≠ none) ∨
    (proofE d l = ((rowsR d 0 0 zeroR l).map rowP, (rowsR d 0 0 zeroR l).map rowK, 0) ∧ ∀ s ∈ l, failing d zeroR s = none) := by
  cases hb : bearsB d l with
  | false =>
    refine .inl ⟨by simp [proofE, hd, hs, hb], ?_⟩
    unfold bearsB at hb
    rw [List.all_eq_false] at hb
    obtain ⟨s, hs, h⟩ := hb
    obtain ⟨k, hk, he⟩ := List.getElem_of_mem hs
    refine ⟨k, hk, ?_⟩
    rw [seg_one (s := s) (by rw [List.getElem?_eq_getElem hk, he])]
    intro hn
    rw [hn] at h
    exact h rfl
  | true =>
    refine .inr ⟨by simp [proofE, hd, hs, hb], fun s h => ?_⟩
    unfold bearsB at hb
    have := List.all_eq_true.1 hb s h
    simpa using this
/-- A row of ints, of up to 6. -/
theorem make_ran6 (n : Nat) (hn : n ≤ 6) (W : World) : (Instr.makeSlice 34 (.int .i64 n) (.int .i64 n)).run Tryd.prog W = .ok (.slice (some ⟨W.heap.size, 0, none⟩) n n) (W.alloc (.cells (ranC n zeroR) 3)) := by
  have h := run_makeSlice (P := Tryd.prog) W 34 3 Tryd.t3 (.int .i64 0) Tryd.underlying34 (by kernel_rfl) (by kernel_rfl) .i64 .i64 n n (by omega) (Int.le_refl _) (by show (n : Int).toNat * 1 ≤ _; omega) (by show ((8 : Nat) : Int) * n ≤ _; omega) (by omega)
  rw [h, Int.toNat_natCast]
  have : madeCells (Value.int IntKind.i64 0).cells (n * Tryd.t3.size) = ranC n zeroR := by
    rcases (by omega : n = 0 ∨ n = 1 ∨ n = 2 ∨ n = 3 ∨ n = 4 ∨ n = 5 ∨ n = 6) with rfl | rfl | rfl | rfl | rfl | rfl | rfl <;> kernel_rfl
  rw [this]
theorem ran_ints {W : World} {b n : Nat} {q : Nat → Int} (h : W.heap[b]? = some (.cells (ranC n q) 3)) (hn : n ≤ 1000000) : IntsAt W (some ⟨b, 0, none⟩) ((List.range n).map q) :=
  ints_lit _ h (by simp [fcells]) (by simpa using hn)
/-- What the law holds on to, of Proof's rows too, but for its own block. -/
structure PrfF (w : World) (B : Nat) (ao : Option Addr) (cap : Nat) (d : Dye) (lo : Option Addr) (l : List (Int × Int)) (a1 : Option Addr) (R : List (Int × Int)) (a2 : Option Addr) (K : List Int) (W0 W : World) : Prop where
  die : W.heap[w.heap.size]? = some (.cells (dyC ao d.bl.length cap d) 24)
  inb : InB B W ao d lo l
  rows : ListAt W0.heap.size W 2 spC a1 R
  firsts : IntsAt W a2 K
  m : Mod noB w W
end Go.Proofs.YtdncppempgpooaaDoor

/- RuleProof: where a stint cannot be borne. -/
namespace Go.Proofs.YtdncppempgpooaaDoor
open Go.RowKit Go.Shelf

set_option maxRecDepth 100000 in
set_option maxHeartbeats 8000000 in
theorem law9_bad (B : Nat) (ao : Option Addr) (cap : Nat) (d : Dye) (lo : Option Addr) (lcap : Nat) (l : List (Int × Int)) (bo : Option Addr) (bn bcap : Nat) (w : World) (hI : InB B w ao d lo l) (h1 : ¬ 10 < (d.bl.length : Int)) (h2 : ¬ 12 < (l.length : Int)) (h0 : 0 < bn) (hd : dieB d = true) (hs : stintsB l = true)
    (hpr : proofE d l = ([], [], 4)) (hbd : ∃ k, k < l.length ∧ stuckR d (segL l k k) ≠ none) :
    Calls Tryd.prog 9 #[dyV ao d.bl.length cap d, .slice lo l.length lcap, .slice bo bn bcap] w fun e w' => e = .returned (.bool true) ∧ Mod noB w w' := by
  have hsm := hI.bl.small
  have hl7 : l.length ≤ 7 := by simp [stintsB] at hs; omega
  have HF := Hold.mk (lawd0 (cap := cap) hI)
  have H12 : Hold (∀ W, Calls Tryd.prog 12 #[dyV ao d.bl.length cap d, .slice lo l.length lcap, .slice none 0 0] W fun e w' => e = .returned (.bool false) ∧ Mod noB W w') := ⟨fun W => (far_more ao lo none cap d.bl.length l.length 0 lcap 0 d.bound d.stop d.bend W (by omega) (by omega) (by omega)).mono fun e w' h => ⟨by rw [h.1]; congr 2; simp; omega, h.2⟩⟩
  have H27 : Hold (∀ W, InB B W ao d lo l → Calls Tryd.prog 27 #[dyV ao d.bl.length cap d] W fun e w' => e = .returned (.bool true) ∧ Mod noB W w') := ⟨fun W h => by rw [← hd]; exact refDie_any B ao cap d W h.le h.bl⟩
  have H28 : Hold (∀ W, InB B W ao d lo l → Calls Tryd.prog 28 #[.slice lo l.length lcap] W fun e w' => e = .returned (.bool true) ∧ Mod noB W w') := ⟨fun W h => by rw [← hs]; exact refStints_any B lo lcap l W h.le h.st⟩
  have H20 : Hold (∀ W, InB B W ao d lo l → Calls Tryd.prog 20 #[dyV ao d.bl.length cap d, .slice lo l.length lcap] W fun e w' => ∃ a1 k1 a2 k2, e = .returned (.tuple #[.slice a1 0 k1, .slice a2 0 k2, .int .i64 4]) ∧ Mod noB W w') := ⟨fun W h => (proof_any B ao cap d lo lcap l W h).mono fun e w' h => by
    rw [hpr] at h
    obtain ⟨a1, k1, a2, k2, he, _, _, hm⟩ := proof_lists h (by simp) rfl
    exact ⟨a1, k1, a2, k2, he, hm⟩⟩
  have H36 : Hold (∀ (k : Nat) W, k < l.length → InB B W ao d lo l → Calls Tryd.prog 36 #[dyV ao d.bl.length cap d, .slice lo l.length lcap, .int .i64 k, .int .i64 k] W fun e w' => e = .returned (failV (stuckR d (segL l k k))) ∧ Mod noB W w') := ⟨fun k W hk h => stuck_any B ao cap d lo lcap l k k W hd hs h (Nat.le_refl _) hk⟩
  have HBD := Hold.mk hbd
  clear hI h1 h2 hd hs hpr hbd
  go_enter Tryd.func9, Tryd.ntmps9
  go_wp2_with (first
    | (refine wpList_load_row rfl 24 (.tmp 3) rfl w.heap.size rfl 24 _ (0, 0) _ HF.out.now.1 Tryd.underlying24 rfl info24 ?_)
    | (go_at_call 12; refine (H12.out _).mono ?_; rintro e w1 ⟨rfl, hM⟩; have HF := Hold.mk (HF.out.later hM); have hg := HF.out.now.1; have g0 := cellsAt hg 0; have g1 := cellsAt hg 1; have g2 := cellsAt hg 2; have g3 := cellsAt hg 3; clear hM hg)
    | (go_at_call 27; refine (H27.out _ HF.out.now.2.1).mono ?_; rintro e w3 ⟨rfl, hM⟩; have HF := Hold.mk (HF.out.later hM); clear hM)
    | (go_at_call 28; refine (H28.out _ HF.out.now.2.1).mono ?_; rintro e w4 ⟨rfl, hM⟩; have HF := Hold.mk (HF.out.later hM); clear hM)
    | (go_at_call 20; refine (H20.out _ HF.out.now.2.1).mono ?_; rintro e w6 ⟨a1, k1, a2, k2, rfl, hM⟩; have HF := Hold.mk (HF.out.later hM); clear hM))
  clear g0 g1 g2 g3
  have HF6 := HF
  go_loopw [10, 11] (fun v i wr => ∃ (k : Nat) (b : Bool), k ≤ l.length ∧ v = .bool b ∧ i = .int .i64 k ∧ (b = false → ∀ j, j < k → stuckR d (segL l j j) = none) ∧ Mod noB w6 wr) (fun _ i _ => l.length - (intOf i).toNat)
  case atStart => exact ⟨0, false, Nat.zero_le _, rfl, rfl, fun _ j hj => absurd hj (Nat.not_lt_zero _), Mod.refl _ _⟩
  case round =>
    obtain ⟨k, b, hk, rfl, rfl, hall, hm⟩ := hrel
    have HA := Hold.mk hall
    have HM := Hold.mk hm
    have HFr := Hold.mk (HF6.out.later hm)
    clear hall hm
    by_cases hlt : k < l.length
    · obtain ⟨o, ho⟩ : ∃ o, stuckR d (segL l k k) = o := ⟨_, rfl⟩
      have HK : Hold (∀ W, InB B W ao d lo l → Calls Tryd.prog 36 #[dyV ao d.bl.length cap d, .slice lo l.length lcap, .int .i64 k, .int .i64 k] W fun e w' => e = .returned (failV o) ∧ Mod noB W w') := ⟨fun W h => by rw [← ho]; exact H36.out k W hlt h⟩
      have HO := Hold.mk ho
      have hkI : (k : Int) < (l.length : Int) := by omega
      clear ho
      cases o with
      | none =>
        cases b
        all_goals
          go_wp2_with (first
            | (refine wpList_load_row rfl 24 (.tmp 3) rfl w.heap.size rfl 24 _ (0, 0) _ HFr.out.now.1 Tryd.underlying24 rfl info24 ?_)
            | (go_at_call 36; refine (HK.out _ HFr.out.now.2.1).mono ?_; rintro e w7 ⟨he, hM⟩; simp only [failV] at he; subst he; have HFs := Hold.mk (HFr.out.later hM); have HMs := Hold.mk (HM.out.trans hM); clear hM))
          go_roundw
        case rel => exact ⟨k + 1, false, by omega, rfl, by go_num, fun _ j hj => by
          rcases Nat.lt_succ_iff_lt_or_eq.1 hj with h | rfl
          · exact HA.out (by first | exact trivial | rfl) j h
          · exact HO.out, HMs.out⟩
        case measure => simp [intOf]; omega
        case rel => exact ⟨k + 1, true, by omega, rfl, by go_num, (fun h => (by cases h)), HMs.out⟩
        case measure => simp [intOf]; omega
      | some x =>
        cases b
        all_goals
          go_wp2_with (first
            | (refine wpList_load_row rfl 24 (.tmp 3) rfl w.heap.size rfl 24 _ (0, 0) _ HFr.out.now.1 Tryd.underlying24 rfl info24 ?_)
            | (go_at_call 36; refine (HK.out _ HFr.out.now.2.1).mono ?_; rintro e w7 ⟨he, hM⟩; simp only [failV] at he; subst he; have HFs := Hold.mk (HFr.out.later hM); have HMs := Hold.mk (HM.out.trans hM); clear hM))
          go_roundw
        case rel => exact ⟨k + 1, true, by omega, rfl, by go_num, (fun h => (by cases h)), HMs.out⟩
        case measure => simp [intOf]; omega
        case rel => exact ⟨k + 1, true, by omega, rfl, by go_num, (fun h => (by cases h)), HMs.out⟩
        case measure => simp [intOf]; omega
    · obtain rfl : k = l.length := by omega
      have hb : b = true := by
        cases b with
        | true => rfl
        | false =>
          obtain ⟨j, hj, hne⟩ := HBD.out
          exact absurd (HA.out (by first | exact trivial | rfl) j hj) hne
      subst hb
      have hnl : ¬ ((l.length : Int) < (l.length : Int)) := by omega
      go_wp2_with (go_at_call 13; refine (awake_any _ HFr.out.now.2.1.tab).mono ?_; rintro e w9 ⟨rfl, hM⟩; have HFz := Hold.mk (HFr.out.later hM); clear hM)
      go_ret
      exact ⟨rfl, HFz.out.now.2.2⟩
end Go.Proofs.YtdncppempgpooaaDoor

/- RuleProof: where all stints can be borne. -/
namespace Go.Proofs.YtdncppempgpooaaDoor
open Go.RowKit Go.Shelf

/-- What is followed, of another plan. -/
def FollowQ (d : Dye) (l : List (Int × Int)) (rows : List Row) (q : List Int) : Prop :=
  (∃ j b : Nat, followE d l q = (0, (j : Int), (b : Int), 11) ∧ j < l.length ∧ b < d.bl.length) ∨
  (followE d l q = (costR d q, (l.length : Int), 0, 0) ∧ ∀ (m : Nat) (x : Row), rows[m]? = some x → ∃ (i : Nat) (v : Int), x.1.1 < i + 1 ∧ i + 1 ≤ x.1.2 ∧ q[i]? = some v ∧ 0 < v)
theorem followQ {d : Dye} {l : List (Int × Int)} {q : List Int} (hd : dieB d = true) (hs : stintsB l = true) (hbr : ∀ s ∈ l, failing d zeroR s = none) (hq : q.length = l.length - 1) (hx : ∀ x ∈ q, 0 ≤ x ∧ x < (2 ^ d.bl.length : Nat)) : FollowQ d l (rowsR d 0 0 zeroR l) q := by
  have hw : ∀ b ∈ d.bl, 0 ≤ b.w.2 := fun b hb => by obtain ⟨_, hbs, _⟩ := dieB_parts hd; have := hbs b hb; omega
  have hss : ∀ s ∈ l, 0 ≤ s.1 := fun s h => by
    simp only [stintsB, Bool.and_eq_true, List.all_eq_true] at hs
    have := hs.2 s h
    simp only [stintB, fromB, Bool.and_eq_true, decide_eq_true_eq] at this
    omega
  have hpb := plan_is hq hx
  have hE : followE d l q = goR d 0 zeroR 0 l (0 :: natsOf q) := by simp [followE, hd, hs, hpb]
  rw [follow_is d l q (by rw [hq]; omega)] at hE
  cases hb : badR d 0 zeroR l (0 :: natsOf q) with
  | some x =>
    obtain ⟨j, b⟩ := x
    rw [hb] at hE
    have := bad_bd l 0 zeroR _ j b hb
    exact .inl ⟨j, b, hE, by omega, this.2.2⟩
  | none =>
    rw [hb] at hE
    refine .inr ⟨hE, fun m x hx2 => ?_⟩
    have hrow := ((rows_ok0 hbr).at_ _ _ _ _ hx2).2
    obtain ⟨i, h1, h2, h3⟩ := good_stops hw hss ((good_iff _ _ _ _).1 hb) hrow
    obtain ⟨i, rfl⟩ : ∃ i', i = i' + 1 := ⟨i - 1, by omega⟩
    have hlt : i < q.length := by have := hrow.tl; omega
    rw [List.drop_succ_cons, List.headD_eq_head?_getD, List.head?_drop] at h3
    unfold natsOf at h3
    rw [List.getElem?_map, List.getElem?_eq_getElem hlt] at h3
    simp only [Option.map_some, Option.getD_some] at h3
    exact ⟨i, q[i], h1, h2, List.getElem?_eq_getElem hlt, by omega⟩
theorem followSets {d : Dye} {l : List (Int × Int)} (hd : dieB d = true) (hs : stintsB l = true) (hbr : ∀ s ∈ l, failing d zeroR s = none) : followE d l (setsL d (rowsR d 0 0 zeroR l) (l.length - 1)) = (costR d (setsL d (rowsR d 0 0 zeroR l) (l.length - 1)), (l.length : Int), 0, 0) := by
  have hq : (setsL d (rowsR d 0 0 zeroR l) (l.length - 1)).length = l.length - 1 := by simp [setsL]
  have hpb := plan_is hq setsL_plan
  have hE : followE d l (setsL d (rowsR d 0 0 zeroR l) (l.length - 1)) = goR d 0 zeroR 0 l (0 :: natsOf (setsL d (rowsR d 0 0 zeroR l) (l.length - 1))) := by simp [followE, hd, hs, hpb]
  rw [follow_is d l _ (by rw [hq]; omega), (good_iff _ _ _ _).2 (sets_good hbr)] at hE
  exact hE
/-- The sum of a part of stints, in bounds. -/
theorem segA_bd {l : List (Int × Int)} (hb : ∀ s ∈ l, stintB s = true) {f : Nat} : ∀ t, f ≤ t → t ≤ l.length → 0 ≤ sumS (segA l f t) ∧ sumS (segA l f t) ≤ (t : Int) * 1000 := by
  intro t
  induction t with
  | zero => intro h _; obtain rfl : f = 0 := by omega
            rw [segA_self]; simp [sumS]
  | succ t ih =>
    intro h ht
    rcases Nat.lt_or_ge t f with h1 | h1
    · obtain rfl : f = t + 1 := by omega
      rw [segA_self]; simp only [sumS, List.map_nil, List.sum_nil]; omega
    · obtain ⟨s, hs⟩ : ∃ s, l[t]? = some s := ⟨_, List.getElem?_eq_getElem (by omega)⟩
      have hsb := hb s (List.mem_of_getElem? hs)
      simp only [stintB, fromB, Bool.and_eq_true, decide_eq_true_eq] at hsb
      rw [segA_succ hs h1, sumS_snoc]
      have := ih h1 (by omega)
      omega

set_option maxRecDepth 100000 in
set_option maxHeartbeats 16000000 in
theorem law9_good (B : Nat) (ao : Option Addr) (cap : Nat) (d : Dye) (lo : Option Addr) (lcap : Nat) (l : List (Int × Int)) (bo : Option Addr) (bn bcap : Nat) (w : World) (n : Nat) (rows : List Row) (hI : InB B w ao d lo l) (h1 : ¬ 10 < (d.bl.length : Int)) (h2 : ¬ 12 < (l.length : Int)) (h0 : 0 < bn) (hbn2 : bn ≤ 9223372036854775807) (hby : BytesAt w bo bn) (hd : dieB d = true) (hs : stintsB l = true)
    (hnl : l.length = n + 1) (hn0 : 1 ≤ n) (hrows : rowsR d 0 0 zeroR l = rows) (hpr : proofE d l = (rows.map rowP, rows.map rowK, 0)) (hbr : ∀ s ∈ l, failing d zeroR s = none) :
    Calls Tryd.prog 9 #[dyV ao d.bl.length cap d, .slice lo l.length lcap, .slice bo bn bcap] w fun e w' => e = .returned (.bool true) ∧ Mod noB w w' := by
  have hsm := hI.bl.small
  have hl7 : l.length ≤ 7 := by simp [stintsB] at hs; omega
  have hls : ∀ s ∈ l, stintB s = true := by
    simp only [stintsB, Bool.and_eq_true, List.all_eq_true] at hs; exact hs.2
  obtain ⟨⟨l1, l5⟩, _, ⟨db1, db2⟩, s1, s2⟩ := dieB_parts hd
  have hrl : rows.length ≤ l.length := by rw [← hrows]; exact rowsR_len _ _ _ _ _
  have HROW : Hold (∀ m x, rows[m]? = some x → x.1.1 = lastT rows m ∧ RowOk d l x.1.1 x.1.2 x.2) := ⟨fun m x h => by
    have := rows_ok0 hbr
    rw [hrows] at this
    exact this.at_ _ _ _ _ h⟩
  have HF := Hold.mk (lawd0 (cap := cap) hI)
  have HBY : Hold (∀ W, Mod noB w W → BytesAt W bo bn) := ⟨fun W h => hby.mod h⟩
  have HLE := Hold.mk hI.le
  have HLS := Hold.mk hls
  have H12 : Hold (∀ W, Calls Tryd.prog 12 #[dyV ao d.bl.length cap d, .slice lo l.length lcap, .slice none 0 0] W fun e w' => e = .returned (.bool false) ∧ Mod noB W w') := ⟨fun W => (far_more ao lo none cap d.bl.length l.length 0 lcap 0 d.bound d.stop d.bend W (by omega) (by omega) (by omega)).mono fun e w' h => ⟨by rw [h.1]; congr 2; simp; omega, h.2⟩⟩
  have H27 : Hold (∀ W, InB B W ao d lo l → Calls Tryd.prog 27 #[dyV ao d.bl.length cap d] W fun e w' => e = .returned (.bool true) ∧ Mod noB W w') := ⟨fun W h => by rw [← hd]; exact refDie_any B ao cap d W h.le h.bl⟩
  have H28 : Hold (∀ W, InB B W ao d lo l → Calls Tryd.prog 28 #[.slice lo l.length lcap] W fun e w' => e = .returned (.bool true) ∧ Mod noB W w') := ⟨fun W h => by rw [← hs]; exact refStints_any B lo lcap l W h.le h.st⟩
  have H20 : Hold (∀ W, InB B W ao d lo l → Calls Tryd.prog 20 #[dyV ao d.bl.length cap d, .slice lo l.length lcap] W fun e w' => ∃ a1 k1 a2 k2, e = .returned (.tuple #[.slice a1 rows.length k1, .slice a2 rows.length k2, .int .i64 0]) ∧ ListAt w'.heap.size w' 2 spC a1 (rows.map rowP) ∧ IntsAt w' a2 (rows.map rowK) ∧ Mod noB W w') := ⟨fun W h => (proof_any B ao cap d lo lcap l W h).mono fun e w' h => by
    rw [hpr] at h
    obtain ⟨a1, k1, a2, k2, he, i1, i2, hm⟩ := proof_lists h (by show (rows.map rowP).length ≤ 100; rw [List.length_map]; omega) (by simp)
    simp only [List.length_map] at he
    exact ⟨a1, k1, a2, k2, he, i1, i2, hm⟩⟩
  have H36 : Hold (∀ (f t1 t : Nat) W, t = t1 + 1 → f < t → t < l.length → stuckR d (segA l f t) = none → InB B W ao d lo l → Calls Tryd.prog 36 #[dyV ao d.bl.length cap d, .slice lo l.length lcap, .int .i64 f, .int .i64 t1] W fun e w' => e = .returned (.tuple #[.int .i64 0, .bool false]) ∧ Mod noB W w') := ⟨fun f t1 t W ht h1 h2 h3 h => (stuck_any B ao cap d lo lcap l f t1 W hd hs h (by omega) (by omega)).mono fun e w' he => by
    have : segL l f t1 = segA l f t := by rw [← seg_all (by omega), ht]; rfl
    rw [this, h3] at he
    exact he⟩
  have H14 : Hold (∀ (b : Nat) (ran : Int) W, b < d.bl.length → 0 ≤ ran → ran ≤ 7000 → B ≤ W.heap.size → BladesAt B W ao d.bl → Calls Tryd.prog 14 #[dyV ao d.bl.length cap d, .int .i64 b, .int .i64 ran] W fun e w' => e = .returned (.tuple #[spV (leastV (bladeAt d b) ran, mostV (bladeAt d b) ran), .int .i64 0]) ∧ Mod noB W w') := ⟨fun b ran W hb r0 r1 h1 h2 => (off_any B ao cap d b ran W h1 h2).mono fun e w' h => by
    have hE : offE d b ran = ((leastV (bladeAt d b) ran, mostV (bladeAt d b) ran), 0) := by
      unfold offE
      rw [if_neg (by rw [hd]; decide), if_neg (by simp only [hasB, fromB, Bool.and_eq_false_iff, decide_eq_false_iff_not]; omega), Int.toNat_natCast]
    rw [hE] at h
    exact h⟩
  have H35 : Hold (∀ W, BytesAt W bo bn → Calls Tryd.prog 35 #[dyV ao d.bl.length cap d, .slice lo l.length lcap, .slice bo bn bcap] W fun e w' => ∃ (so : Option Addr) (sc : Nat) (q : List Int), e = .returned (.slice so q.length sc) ∧ q.length = l.length - 1 ∧ (∀ x ∈ q, 0 ≤ x ∧ x < (2 ^ d.bl.length : Nat)) ∧ IntsAt w' so q ∧ Mod noB W w') := ⟨fun W h => sets_any ao cap d.bl.length d.bound d.stop d.bend lo l.length lcap bo bn bcap W l5 hl7 h0 hbn2 h⟩
  have H18 : Hold (∀ (so : Option Addr) (sc : Nat) (q : List Int) W, InB B W ao d lo l → IntsAt W so q → Calls Tryd.prog 18 #[dyV ao d.bl.length cap d, .slice lo l.length lcap, .slice so q.length sc] W (Four (followE d l q) W)) := ⟨fun so sc q W h1 h2 => follow_any B ao cap d lo lcap l so sc q W h1 h2⟩
  have H18s : Hold (∀ (b : Nat) W, InB B W ao d lo l → W.heap[b]? = some (.cells (ranC n (setsF d rows)) 3) → Calls Tryd.prog 18 #[dyV ao d.bl.length cap d, .slice lo l.length lcap, .slice (some ⟨b, 0, none⟩) n n] W fun e w' => ∃ x y z, e = .returned (.tuple #[.int .i64 x, .int .i64 y, .int .i64 z, .int .i64 0]) ∧ Mod noB W w') := ⟨fun b W h1 h2 => by
    have hi := ran_ints h2 (by omega)
    have hf := followSets hd hs hbr
    rw [hrows, show l.length - 1 = n by omega] at hf
    have := follow_any B ao cap d lo lcap l (some ⟨b, 0, none⟩) n (setsL d rows n) W h1 hi
    rw [hf] at this
    have hln : (setsL d rows n).length = n := by simp [setsL]
    rw [hln] at this
    exact this.mono fun e w' h => ⟨_, _, _, h.1, h.2⟩⟩
  have HFQ : Hold (∀ q : List Int, q.length = l.length - 1 → (∀ x ∈ q, 0 ≤ x ∧ x < (2 ^ d.bl.length : Nat)) → FollowQ d l rows q) := ⟨fun q h1 h2 => by rw [← hrows]; exact followQ hd hs hbr h1 h2⟩
  have HCB : Hold (∀ q : List Int, q.length = l.length - 1 → 0 ≤ costR d q ∧ costR d q ≤ 420000) := ⟨fun q h => by have := costR_bd d s1 s2 q; rw [h] at this; omega⟩
  have hmk := make_ran6 n (by omega)
  have HNL := Hold.mk hnl
  have hlI : (l.length : Int) - 1 = (n : Int) := by omega
  have hn1 : (0 : Int) < (n : Int) := by omega
  clear hI h1 h2 hby hd hs s1 s2 hpr hbr hls hrows
  clear hnl
  go_enter Tryd.func9, Tryd.ntmps9
  go_wp2_with (first
    | (refine wpList_load_row rfl 24 (.tmp 3) rfl w.heap.size rfl 24 _ (0, 0) _ HF.out.now.1 Tryd.underlying24 rfl info24 ?_)
    | (go_at_call 12; refine (H12.out _).mono ?_; rintro e w1 ⟨rfl, hM⟩; have HF := Hold.mk (HF.out.later hM); have hg := HF.out.now.1; have g0 := cellsAt hg 0; have g1 := cellsAt hg 1; have g2 := cellsAt hg 2; have g3 := cellsAt hg 3; clear hM hg)
    | (go_at_call 27; refine (H27.out _ HF.out.now.2.1).mono ?_; rintro e w3 ⟨rfl, hM⟩; have HF := Hold.mk (HF.out.later hM); clear hM)
    | (go_at_call 28; refine (H28.out _ HF.out.now.2.1).mono ?_; rintro e w4 ⟨rfl, hM⟩; have HF := Hold.mk (HF.out.later hM); clear hM)
    | (go_at_call 20; refine (H20.out _ HF.out.now.2.1).mono ?_; rintro e w6 ⟨a1, k1, a2, k2, rfl, i1, i2, hM⟩; have HF := Hold.mk (HF.out.later hM); have HRS := Hold.mk (kept_spans i1); have HKS := Hold.mk (kept_ints i2); clear hM i1 i2))
  clear g0 g1 g2 g3
  have HP : Hold (∀ W, Mod (fun j => j = w6.heap.size) (w6.alloc (.cells (ranC n zeroR) 3)) W → PrfF w B ao cap d lo l a1 (rows.map rowP) a2 (rows.map rowK) w6 W) := ⟨fun W h => by
    have hm6 : Mod noB w6 W := ((Mod.refl noB w6).alloc _).then h (fun i hi e => by omega)
    have hF := HF.out W hm6
    exact ⟨hF.1, hF.2.1, HRS.out.now.low (Low.ofN hm6 (Nat.le_refl _)), HKS.out W hm6, hF.2.2⟩⟩
  have HW0 := Hold.mk (World.alloc_heap_new w6 (.cells (ranC n zeroR) 3))
  clear HF HRS HKS hmk
  generalize w6.alloc (.cells (ranC n zeroR) 3) = W1 at *
  go_loopw [15, 16] (fun la i W => ∃ m : Nat, m ≤ rows.length ∧ la = .int .i64 (lastT rows m) ∧ i = .int .i64 m ∧ W.heap[w6.heap.size]? = some (.cells (ranC n (setsF d (rows.take m))) 3) ∧ Mod (fun j => j = w6.heap.size) W1 W) (fun _ i _ => rows.length - (intOf i).toNat)
  case atStart => exact ⟨0, Nat.zero_le _, rfl, rfl, HW0.out.trans (congrArg (fun x => some (Obj.cells x 3)) (ranC_same fun _ _ => rfl)), Mod.refl _ _⟩
  case round =>
    obtain ⟨m, hm, rfl, rfl, hrow, hmm⟩ := hrel
    have HM := Hold.mk hmm
    have HX := Hold.mk hrow
    have HPr := Hold.mk (HP.out _ hmm)
    clear hrow hmm
    by_cases hlt : m < rows.length
    · obtain ⟨⟨⟨f, t⟩, b⟩, hx⟩ : ∃ x, rows[m]? = some x := ⟨_, List.getElem?_eq_getElem hlt⟩
      obtain ⟨hl1, hok⟩ := HROW.out m _ hx
      simp only at hl1 hok
      have hft := hok.ft
      have htl := hok.tl
      have hbl := hok.bl
      have HOK := Hold.mk hok
      have HXX := Hold.mk hx
      have hxP : (rows.map rowP)[m]? = some ((f : Int), (t : Int)) := by rw [List.getElem?_map, hx]; rfl
      have hxK : (rows.map rowK)[m]? = some (b : Int) := by rw [List.getElem?_map, hx]; rfl
      obtain ⟨b1, o1, rfl, hb1, c0, c1⟩ := HPr.out.rows.stint hxP
      obtain ⟨b2, o2, rfl, hb2, c2⟩ := HPr.out.firsts.lies (fun e => by rw [e] at hxK; simp at hxK)
      have c2 := c2 m (List.getElem?_eq_some_iff.1 hxK).1
      rw [hxK, Option.getD_some] at c2
      simp only at c0 c1
      rw [← hl1]
      clear hx hok hxP hxK hl1
      have hmI : (m : Int) < (rows.length : Int) := by omega
      have hftI : (f : Int) < (t : Int) := by omega
      have htlI : (t : Int) < (l.length : Int) := by omega
      have hblI : (b : Int) < (d.bl.length : Int) := by omega
      have HD1 : Hold (decide (t ≤ f) = false) := ⟨by simp; omega⟩
      have HD2 : Hold (decide (l.length ≤ t) = false) := ⟨by simp; omega⟩
      have HD4 : Hold (decide ((b : Int) < 0) = false) := ⟨by simp⟩
      have HD3 : Hold (decide (d.bl.length ≤ b) = false) := ⟨by simp; omega⟩
      have HQ : Hold (Kept (wr.alloc (.cells (spC ((f : Int), (t : Int))) 28)) (fun W => W.heap[wr.heap.size]? = some (.cells (spC ((f : Int), (t : Int))) 28) ∧ W.heap[w6.heap.size]? = some (.cells (ranC n (setsF d (rows.take m))) 3) ∧ Mod (fun j => j = w6.heap.size) W1 W ∧ PrfF w B ao cap d lo l (some ⟨b1, o1, none⟩) (rows.map rowP) (some ⟨b2, o2, none⟩) (rows.map rowK) w6 W ∧ W.cell? ⟨b2, o2 + m, none⟩ = some (.int .i64 b))) := ⟨fun W h => by
        have hm1 : Mod noB wr W := ((Mod.refl noB wr).alloc _).trans h
        have hmo := HM.out.trans (hm1.wider (fun _ _ h => h.elim))
        exact ⟨h.at (World.alloc_heap_new wr _) id, hm1.at HX.out id, hmo, HP.out _ hmo, (cell_same (hm1.block b2 hb2 id) _).trans c2⟩⟩
      go_wp2
      clear c0 c1 c2
      have FIN : Hold (∀ W', Mod noB (wr.alloc (.cells (spC ((f : Int), (t : Int))) 28)) W' → W'.cell? ⟨w.heap.size, 0, none⟩ = some (.slice ao d.bl.length cap) ∧ W'.cell? ⟨wr.heap.size, 0, none⟩ = some (.int .i64 f) ∧ W'.cell? ⟨wr.heap.size, 1, none⟩ = some (.int .i64 t) ∧ W'.cell? ⟨b2, o2 + m, none⟩ = some (.int .i64 b)) := ⟨fun W' h => by
        obtain ⟨a1, a2, a3, a4, a5⟩ := HQ.out W' h
        exact ⟨cellsAt a4.die 0, cellsAt a1 0, cellsAt a1 1, a5⟩⟩
      refine region_quietP (by kernel_rfl) (by kernel_rfl) (fun W' => Mod noB (wr.alloc (.cells (spC ((f : Int), (t : Int))) 28)) W') ((Mod.refl _ _).drew) ?_
      repeat
        (first
          | go_big_quiet_skip
          | (go_big_quiet_want
             go_simp
             try rw [HD1.out]
             try rw [HD2.out]
             try rw [HD3.out]
             try rw [HD4.out]
             first
               | go_big_quiet_on
               | (apply Exists.intro
                  refine ⟨fun W' hC => ?_, ?_⟩
                  · obtain ⟨d1, d2, d3, d4⟩ := FIN.out W' hC
                    first
                      | with_reducible rfl
                      | (go_simp; first | rfl | exact ⟨rfl, rfl⟩)
                  go_big_quiet_on)
               | (refine ⟨⟨_, fun _ _ => rfl⟩, ?_⟩; go_big_quiet_on)))
      refine wpQuiet_nil ?_
      intro Wq hq
      have HQq := Hold.mk (HQ.out.later hq)
      have r0 := cellsAt HQq.out.now.1 0
      have r1 := cellsAt HQq.out.now.1 1
      clear hq FIN HQ
      go_wp2
      have HWM := Hold.mk (Eq.refl wr.heap.size)
      generalize wr.heap.size = pb at *
      go_loopw [18, 19] (fun ra s W => ∃ (j : Nat) (x : Int), f ≤ j ∧ j ≤ t + 1 ∧ ra = .int .i64 x ∧ s = .int .i64 j ∧ sumS (segA l f j) = x ∧ Mod noB Wq W) (fun _ s _ => t + 1 - (intOf s).toNat)
      case atStart => exact ⟨f, 0, Nat.le_refl _, by omega, rfl, rfl, by rw [segA_self]; rfl, Mod.refl _ _⟩
      case round =>
        obtain ⟨j, x, hfj, hjt, rfl, rfl, hsx, hmj⟩ := hrel
        have HSX := Hold.mk hsx
        have HMJ := Hold.mk hmj
        have HQj := Hold.mk (HQq.out.later hmj)
        clear hsx hmj r0 r1
        have p0 := cellsAt HQj.out.now.1 0
        have p1 := cellsAt HQj.out.now.1 1
        by_cases hle : j ≤ t
        · obtain ⟨⟨st, mo⟩, hs⟩ : ∃ s, l[j]? = some s := ⟨_, List.getElem?_eq_getElem (by omega)⟩
          have hstb := HLS.out _ (List.mem_of_getElem? hs)
          have hsb : (1 ≤ st ∧ st ≤ 1000) ∧ 0 ≤ mo ∧ mo ≤ 100000 := by simpa [stintB, fromB, Bool.and_eq_true] using hstb
          obtain ⟨sb, soff, hlo, hsb1, q0, q1⟩ := HQj.out.now.2.2.2.1.inb.st.stint hs
          subst hlo
          have hsb2 : sb < wr.heap.size := Nat.lt_of_lt_of_le hsb1 HQj.out.now.2.2.2.1.inb.le
          have hjI : (j : Int) < (l.length : Int) := by omega
          have hjT : (j : Int) ≤ (t : Int) := by omega
          have hbd := segA_bd HLS.out (f := f) (j + 1) (by omega) (by omega)
          have hnx : sumS (segA l f (j + 1)) = x + st := by rw [segA_succ hs hfj, sumS_snoc, HSX.out]
          obtain ⟨y, hy⟩ : ∃ y, x + st = y := ⟨_, rfl⟩
          rw [hnx, hy] at hbd
          have hxy : IntKind.i64.wrap (x + st) = y := by rw [hy]; exact IntWalk.i64_in _ (by omega)
          have HNX := Hold.mk (hnx.trans hy)
          have hyb : 0 ≤ y ∧ y ≤ 7000 := by omega
          have HSJ := Hold.mk hs
          have HQ1 := Hold.mk q1
          have q2 := HQj.out.now.2.2.2.2
          have HQ2 := Hold.mk q2
          clear hs hstb hbd hnx hy q1 q2
          simp only at q0
          go_wp2
          clear q0 p0 p1
          obtain ⟨mv, hmv⟩ : ∃ mv, mostV (bladeAt d b) y = mv := ⟨_, rfl⟩
          have HMV := Hold.mk hmv
          have HOF : Hold (∀ W, Mod noB wr W → Calls Tryd.prog 14 #[dyV ao d.bl.length cap d, .int .i64 b, .int .i64 y] W fun e w' => e = .returned (.tuple #[spV (leastV (bladeAt d b) y, mv), .int .i64 0]) ∧ Mod noB W w') := ⟨fun W h => by
            rw [← hmv]
            have hh := (HQj.out.later h).now.2.2.2.1.inb
            exact H14.out b y W hbl hyb.1 hyb.2 hh.le hh.bl⟩
          clear hmv
          refine region_offs (ao := ao) (cap := cap) (d := d) (ko := some ⟨b2, o2, none⟩) (kb := b2) (koff := o2) (kn := rows.length) (kcap := k2) (m := m) (b := b) (db := w.heap.size) (ran := y) (s := (leastV (bladeAt d b) y, mv)) rfl rfl rfl rfl rfl rfl hlt HQj.out.now.2.2.2.1.die HQ2.out HOF.out ?_
          intro vs w2 pb2 hv10 hv12 hge hpb2 hM
          have HQz := Hold.mk (HQj.out.later hM)
          have HP2 := Hold.mk (kept_block hpb2)
          have HM2 := Hold.mk (HMJ.out.trans hM)
          have q1 := (cell_same (hM.block sb hsb2 id) _).trans HQ1.out
          have q2 := Hold.mk (show sb < w2.heap.size from Nat.lt_of_lt_of_le hsb2 hM.size)
          have HQ1z := Hold.mk q1
          clear hM hge hpb2 q1
          simp only [obDs, List.foldl_cons, List.foldl_nil, Act.put, List.setIfInBounds_toArray, List.set_cons_succ, List.set_cons_zero, hv10, hv12]
          clear hv10 hv12
          have hv : IntKind.i64.wrap (d.bound + mo) = d.bound + mo := IntWalk.i64_in _ (by omega)
          have FIN : Hold (∀ W', Mod noB w2 W' → W'.cell? ⟨w.heap.size, 1, none⟩ = some (.int .i64 d.bound) ∧ W'.cell? ⟨pb2, 1, none⟩ = some (.int .i64 mv) ∧ W'.cell? ⟨pb, 1, none⟩ = some (.int .i64 t) ∧ W'.cell? ⟨sb, soff + j * 2 + 1, none⟩ = some (.int .i64 mo)) := ⟨fun W' h => by
            obtain ⟨a1, a2, a3, a4, a5⟩ := HQz.out W' h
            exact ⟨cellsAt a4.die 1, cellsAt (HP2.out W' h) 1, cellsAt a1 1, (cell_same (h.block sb q2.out id) _).trans HQ1z.out⟩⟩
          go_wp2
          have hends : (decide (d.bound + mo < mv) = false ∧ ((j : Int) == (t : Int)) = false ∧ j < t) ∨ (decide (d.bound + mo < mv) = true ∧ ((j : Int) == (t : Int)) = true ∧ j = t) := by
            rcases Nat.lt_or_ge j t with h | h
            · have h1 := HOK.out.holds hfj h HSJ.out
              rw [HNX.out, HMV.out] at h1
              exact .inl ⟨decide_eq_false h1, by simp; omega, h⟩
            · obtain rfl : j = t := by omega
              have h1 := HOK.out.fails _ HSJ.out
              rw [HNX.out, HMV.out] at h1
              exact .inr ⟨decide_eq_true h1, by simp, rfl⟩
          obtain ⟨B1, hB1⟩ : ∃ B1, decide (d.bound + mo < mv) = B1 := ⟨_, rfl⟩
          obtain ⟨B2, hB2⟩ : ∃ B2, ((j : Int) == (t : Int)) = B2 := ⟨_, rfl⟩
          have hBB : B1 = B2 := by rcases hends with ⟨h1, h2, _⟩ | ⟨h1, h2, _⟩ <;> rw [← hB1, ← hB2, h1, h2]
          subst hBB
          have HB1 := Hold.mk hB1
          have HB2 := Hold.mk hB2
          clear hB1 hB2 hends
          refine region_quietP (by kernel_rfl) (by kernel_rfl) (fun W' => Mod noB w2 W') ((Mod.refl _ _).drew) ?_
          repeat
            (first
              | go_big_quiet_skip
              | (go_big_quiet_want
                 go_simp
                 try rw [HB1.out]
                 try rw [HB2.out]
                 first
                   | go_big_quiet_on
                   | (apply Exists.intro
                      refine ⟨fun W' hC => ?_, ?_⟩
                      · obtain ⟨d1, d2, d3, d4⟩ := FIN.out W' hC
                        first
                          | with_reducible rfl
                          | (go_simp; first | rfl | exact ⟨rfl, rfl⟩)
                      go_big_quiet_on)
                   | (refine ⟨⟨_, fun _ _ => rfl⟩, ?_⟩; go_big_quiet_on)))
          refine wpQuiet_nil ?_
          intro Wz hz
          have HMz := Hold.mk (HM2.out.trans hz)
          clear hz FIN
          go_wp2
          go_roundw
          case rel => exact ⟨j + 1, y, by omega, by omega, rfl, by go_num, HNX.out, HMz.out⟩
          case measure => simp [intOf]; omega
        · obtain rfl : j = t + 1 := by omega
          obtain ⟨t1, ht1⟩ : ∃ t1, t = t1 + 1 := ⟨t - 1, by omega⟩
          have HT := Hold.mk ht1
          have hi2 : (t : Int) - 1 = (t1 : Int) := by omega
          have hi3 : (t1 : Int) < (n : Int) := by have := HNL.out; omega
          have hi4 : t1 < n := by omega
          have HSN : Hold (∀ j, (if j = t1 then (allS d : Int) else setsF d (rows.take m) j) = setsF d (rows.take (m + 1)) j) := ⟨fun j => by
            obtain ⟨hlt', he⟩ := List.getElem?_eq_some_iff.1 HXX.out
            rw [List.take_succ_eq_append_getElem hlt', he, ← setsF_snoc d (rows.take m) ((f, t), b) (by show 0 < t; omega) j]
            show _ = if j = t - 1 then _ else _
            rw [show t - 1 = t1 by omega]⟩
          have hal := @allS_int d
          have hpw := pow_bd l5
          have HWT : Hold (IntKind.i64.wrap (t1 : Int) = (t1 : Int)) := ⟨IntWalk.i64_in _ (by omega)⟩
          have HSH1 : Hold (IntKind.i64.wrap ((2 : Int) ^ d.bl.length) = (allS d : Int) + 1) := ⟨by
            have : ((2 ^ d.bl.length : Nat) : Int) = (2 : Int) ^ d.bl.length := by simp
            rw [← this, IntWalk.i64_in _ (by omega)]; omega⟩
          have HSH2 : Hold (IntKind.i64.wrap (allS d : Int) = (allS d : Int)) := ⟨IntWalk.i64_in _ (by omega)⟩
          clear ht1 hal hpw
          have hnt : ¬ (((t + 1 : Nat) : Int) ≤ (t : Int)) := by omega
          go_wp2_with (first
            | (refine wpList_load_row rfl 24 (.tmp 3) rfl w.heap.size rfl 24 _ (0, 0) _ HQj.out.now.2.2.2.1.die Tryd.underlying24 rfl info24 ?_)
            | (go_at_call 36; refine (H36.out f t1 t _ HT.out hft htl HOK.out.stuck HQj.out.now.2.2.2.1.inb).mono ?_; rintro e w7 ⟨rfl, hM⟩; have HQk := Hold.mk (HQj.out.later hM); clear hM))
          have FIN : Hold (∀ W', Mod noB w7 W' → W'.cell? ⟨w.heap.size, 0, none⟩ = some (.slice ao d.bl.length cap) ∧ W'.cell? ⟨pb, 1, none⟩ = some (.int .i64 t)) := ⟨fun W' h => by
            obtain ⟨a1, a2, a3, a4, a5⟩ := HQk.out W' h
            exact ⟨cellsAt a4.die 0, cellsAt a1 1⟩⟩
          refine region_tailP 10 ⟨by decide, by kernel_rfl, by kernel_rfl, by kernel_rfl, by kernel_rfl, by kernel_rfl⟩ (by kernel_rfl) (fun W' => Mod noB w7 W') (Mod.refl _ _).drew ?_
          simp only [strikeL, List.take_succ_cons, List.take_zero, List.drop_succ_cons, List.drop_zero, List.map_cons, List.map_nil, List.cons_append, List.nil_append, bareO]
          repeat
            (first
              | go_big_quiet_skip
              | (go_big_quiet_want
                 go_simp
                 try rw [HWT.out]
                 try rw [HSH1.out]
                 try rw [HSH2.out]
                 first
                   | go_big_quiet_on
                   | (apply Exists.intro
                      refine ⟨fun W' hC => ?_, ?_⟩
                      · obtain ⟨c0, c1⟩ := FIN.out W' hC
                        first
                          | with_reducible rfl
                          | (go_simp; first | rfl | exact ⟨rfl, rfl⟩)
                      go_big_quiet_on)
                   | (refine ⟨⟨_, fun _ _ => rfl⟩, ?_⟩; go_big_quiet_on)))
          refine wpQuiet_nil ?_
          intro Wp hp
          have HRp := Hold.mk (HQk.out Wp hp)
          have f0 := frozen_at HRp.out.2.1 t1
          have g0 := fcells_cell HRp.out.2.1 hi4
          clear hp FIN
          gi_wp2
          go_wp2
          go_roundw
          case rel => exact ⟨m + 1, by omega, by rw [lastT_succ HXX.out], by go_num, (row_put HRp.out.2.1).trans (congrArg (fun x => some (Obj.cells x 3)) (ranC_same (fun j _ => HSN.out j))), HRp.out.2.2.1.setCell (fun _ => rfl) _⟩
          case measure => simp [intOf]; omega
    · obtain rfl : m = rows.length := by omega
      have HZ : Hold (Kept wr (fun W => PrfF w B ao cap d lo l a1 (rows.map rowP) a2 (rows.map rowK) w6 W)) := ⟨fun W h => HP.out W (HM.out.trans (h.wider (fun _ _ h => h.elim)))⟩
      have HRW : Hold (wr.heap[w6.heap.size]? = some (.cells (ranC n (setsF d rows)) 3)) := ⟨by have := HX.out; rw [List.take_length] at this; exact this⟩
      have hnl : ¬ ((rows.length : Int) < (rows.length : Int)) := by omega
      go_wp2_with (first
        | (refine wpList_load_row rfl 24 (.tmp 3) rfl w.heap.size rfl 24 _ (0, 0) _ HZ.out.now.die Tryd.underlying24 rfl info24 ?_)
        | (go_at_call 18; refine (H18s.out w6.heap.size _ HZ.out.now.inb HRW.out).mono ?_; rintro e w7 ⟨x, y, z, rfl, hM⟩; have HZ := Hold.mk (HZ.out.later hM); clear hM)
        | (go_at_call 35; refine (H35.out _ (HBY.out _ HZ.out.now.m)).mono ?_; rintro e w8 ⟨so, sc, q, rfl, q1, q2, i2, hM⟩; have HZ := Hold.mk (HZ.out.later hM); have HQ := Hold.mk (kept_ints i2); have HFI := Hold.mk (HFQ.out q q1 q2); have HCQ := Hold.mk (HCB.out q q1); have HQL := Hold.mk q1; clear hM i2 q1 q2)
        | (go_at_call 18; refine (H18.out so sc q _ HZ.out.now.inb HQ.out.now).mono ?_; rintro e w9 hh
           have hM := hh.2
           rcases HFI.out with ⟨j, b, hfe, hj, hb⟩ | ⟨hfe, hst⟩
           all_goals
             rw [hfe] at hh
             simp only [Four] at hh
             obtain ⟨rfl, _⟩ := hh
             have HZ := Hold.mk (HZ.out.later hM)
             have HQ := Hold.mk (HQ.out.later hM)
             have hg := HZ.out.now.die
             have g0 := cellsAt hg 0
             clear hM hg hfe
           all_goals first
             | have HST := Hold.mk hst
               clear hst
             | skip)
        | (go_at_call 13; refine (awake_any _ HZ.out.now.inb.tab).mono ?_; rintro e w10 ⟨rfl, hM⟩; have HZ := Hold.mk (HZ.out.later hM); clear hM))
      all_goals first
        | (go_ret
           exact ⟨rfl, HZ.out.now.m⟩)
        | skip
      clear g0
      have HZ9 := HZ
      have HQ9 := HQ
      go_loopw [33] (fun i W => ∃ k : Nat, k ≤ rows.length ∧ i = .int .i64 k ∧ Mod noB w9 W) (fun i _ => rows.length - (intOf i).toNat)
      case atStart => exact ⟨0, Nat.zero_le _, rfl, Mod.refl _ _⟩
      case round =>
        obtain ⟨k, hk, rfl, hmk⟩ := hrel
        have HMk := Hold.mk hmk
        have HZk := Hold.mk (HZ9.out.later hmk)
        clear hmk
        by_cases hlt : k < rows.length
        · obtain ⟨⟨⟨f, t⟩, b⟩, hx⟩ : ∃ x, rows[k]? = some x := ⟨_, List.getElem?_eq_getElem hlt⟩
          obtain ⟨hl1, hok⟩ := HROW.out k _ hx
          simp only at hl1 hok
          have hft := hok.ft
          have htl := hok.tl
          have HSTk := Hold.mk (HST.out k _ hx)
          have hxP : (rows.map rowP)[k]? = some ((f : Int), (t : Int)) := by rw [List.getElem?_map, hx]; rfl
          obtain ⟨b1, o1, rfl, hb1, c0, c1⟩ := HZk.out.now.rows.stint hxP
          simp only at c0 c1
          have HC1 := Hold.mk c1
          have hw6 : b1 < wr.heap.size := by have := World.block_lt_of_cell? _ _ c0; exact this
          clear hx hok hxP hl1 c1
          have hmI : (k : Int) < (rows.length : Int) := by omega
          go_wp2
          generalize wr = Wk at *
          clear c0
          go_loopw [34, 35] (fun s i W => ∃ (j : Nat) (bb : Bool), f + 1 ≤ j ∧ j ≤ t + 1 ∧ s = .bool bb ∧ i = .int .i64 j ∧ (bb = false → ∀ (i : Nat) (v : Int), f < i + 1 → i + 1 < j → q[i]? = some v → ¬ 0 < v) ∧ Mod noB Wk W) (fun _ i _ => t + 1 - (intOf i).toNat)
          case atStart => exact ⟨f + 1, false, by omega, by omega, rfl, by go_num, fun _ i v h1 h2 => by omega, Mod.refl _ _⟩
          case round =>
            obtain ⟨j, bb, hj1, hj2, rfl, rfl, hno, hmj⟩ := hrel
            have HNO := Hold.mk hno
            have HMJ := Hold.mk hmj
            have HZj := Hold.mk (HZk.out.later hmj)
            have HQj := Hold.mk (HQ9.out.later (HMk.out.trans hmj))
            have c1 := (cell_same (hmj.block b1 hw6 id) _).trans HC1.out
            clear hno hmj
            by_cases hle : j ≤ t
            · have hjT : (j : Int) ≤ (t : Int) := by omega
              cases bb with
              | true =>
                go_wp2
                go_roundw
                case rel => exact ⟨j + 1, true, by omega, by omega, rfl, by go_num, (fun h => (by cases h)), HMJ.out⟩
                case measure => simp [intOf]; omega
              | false =>
                obtain ⟨j1, hj⟩ : ∃ j1, j = j1 + 1 := ⟨j - 1, by omega⟩
                have HJ := Hold.mk hj
                have hi2 : (j : Int) - 1 = (j1 : Int) := by omega
                have hqlt : j1 < q.length := by have := HQL.out; omega
                have hqI : (j1 : Int) < (q.length : Int) := by omega
                obtain ⟨v, hv⟩ : ∃ v, q[j1]? = some v := ⟨_, List.getElem?_eq_getElem hqlt⟩
                obtain ⟨qb, qo, rfl, hqb, hqc⟩ := HQj.out.now.lies (fun e => by simp [e] at hqlt)
                have c2 := hqc j1 hqlt
                rw [hv, Option.getD_some] at c2
                have HV := Hold.mk hv
                clear hv hqc hj
                by_cases hpos : 0 < v
                · go_wp2
                  go_roundw
                  case rel => exact ⟨j + 1, true, by omega, by omega, rfl, by go_num, (fun h => (by cases h)), HMJ.out⟩
                  case measure => simp [intOf]; omega
                · go_wp2
                  go_roundw
                  case rel => exact ⟨j + 1, false, by omega, by omega, rfl, by go_num, (fun _ i x h1 h2 h3 => by
                    rcases (by omega : i + 1 < j ∨ i + 1 = j) with h | h
                    · exact HNO.out (by first | exact trivial | rfl) i x h1 h h3
                    · obtain rfl : i = j1 := by have := HJ.out; omega
                      rw [HV.out] at h3
                      obtain rfl := Option.some.inj h3
                      assumption), HMJ.out⟩
                  case measure => simp [intOf]; omega
            · obtain rfl : j = t + 1 := by omega
              have hbb : bb = true := by
                cases bb with
                | true => rfl
                | false =>
                  obtain ⟨i, v, h1, h2, h3, h4⟩ := HSTk.out
                  exact absurd h4 (HNO.out (by first | exact trivial | rfl) i v h1 (by show i + 1 < t + 1; exact Nat.lt_succ_of_le h2) h3)
              subst hbb
              have hnt : ¬ (((t + 1 : Nat) : Int) ≤ (t : Int)) := by omega
              go_wp2
              go_roundw
              case rel => exact ⟨k + 1, by omega, by go_num, HMk.out.trans HMJ.out⟩
              case measure => simp [intOf]; omega
        · obtain rfl : k = rows.length := by omega
          go_wp2_with (go_at_call 13; refine (awake_any _ HZk.out.now.inb.tab).mono ?_; rintro e w10 ⟨rfl, hM⟩; have HZl := Hold.mk (HZk.out.later hM); clear hM)
          go_ret
          exact ⟨rfl, HZl.out.now.m⟩
end Go.Proofs.YtdncppempgpooaaDoor

/- RuleProof: where there is at most one stint. -/
namespace Go.Proofs.YtdncppempgpooaaDoor
open Go.RowKit Go.Shelf

theorem rows_small {d : Dye} {l : List (Int × Int)} (hl : l.length ≤ 1) (hbr : ∀ s ∈ l, failing d zeroR s = none) : rowsR d 0 0 zeroR l = [] := by
  cases l with
  | nil => rfl
  | cons s ss =>
    cases ss with
    | cons a b => simp at hl
    | nil => simp only [rowsR, hbr s (by simp)]

set_option maxRecDepth 100000 in
set_option maxHeartbeats 8000000 in
theorem law9_small (B : Nat) (ao : Option Addr) (cap : Nat) (d : Dye) (lo : Option Addr) (lcap : Nat) (l : List (Int × Int)) (bo : Option Addr) (bn bcap : Nat) (w : World) (hI : InB B w ao d lo l) (h1 : ¬ 10 < (d.bl.length : Int)) (h2 : ¬ 12 < (l.length : Int)) (h0 : 0 < bn) (hbn2 : bn ≤ 9223372036854775807) (hby : BytesAt w bo bn) (hd : dieB d = true) (hs : stintsB l = true)
    (hl1 : l.length ≤ 1) (hpr : proofE d l = ([], [], 0)) (hbr : ∀ s ∈ l, failing d zeroR s = none) :
    Calls Tryd.prog 9 #[dyV ao d.bl.length cap d, .slice lo l.length lcap, .slice bo bn bcap] w fun e w' => e = .returned (.bool true) ∧ Mod noB w w' := by
  have hsm := hI.bl.small
  obtain ⟨⟨l1, l5⟩, _, ⟨db1, db2⟩, s1, s2⟩ := dieB_parts hd
  have HF := Hold.mk (lawd0 (cap := cap) hI)
  have HBY : Hold (∀ W, Mod noB w W → BytesAt W bo bn) := ⟨fun W h => hby.mod h⟩
  have H12 : Hold (∀ W, Calls Tryd.prog 12 #[dyV ao d.bl.length cap d, .slice lo l.length lcap, .slice none 0 0] W fun e w' => e = .returned (.bool false) ∧ Mod noB W w') := ⟨fun W => (far_more ao lo none cap d.bl.length l.length 0 lcap 0 d.bound d.stop d.bend W (by omega) (by omega) (by omega)).mono fun e w' h => ⟨by rw [h.1]; congr 2; simp; omega, h.2⟩⟩
  have H27 : Hold (∀ W, InB B W ao d lo l → Calls Tryd.prog 27 #[dyV ao d.bl.length cap d] W fun e w' => e = .returned (.bool true) ∧ Mod noB W w') := ⟨fun W h => by rw [← hd]; exact refDie_any B ao cap d W h.le h.bl⟩
  have H28 : Hold (∀ W, InB B W ao d lo l → Calls Tryd.prog 28 #[.slice lo l.length lcap] W fun e w' => e = .returned (.bool true) ∧ Mod noB W w') := ⟨fun W h => by rw [← hs]; exact refStints_any B lo lcap l W h.le h.st⟩
  have H20 : Hold (∀ W, InB B W ao d lo l → Calls Tryd.prog 20 #[dyV ao d.bl.length cap d, .slice lo l.length lcap] W fun e w' => ∃ a1 k1 a2 k2, e = .returned (.tuple #[.slice a1 0 k1, .slice a2 0 k2, .int .i64 0]) ∧ Mod noB W w') := ⟨fun W h => (proof_any B ao cap d lo lcap l W h).mono fun e w' h => by
    rw [hpr] at h
    obtain ⟨a1, k1, a2, k2, he, _, _, hm⟩ := proof_lists h (by simp) rfl
    exact ⟨a1, k1, a2, k2, he, hm⟩⟩
  have H35 : Hold (∀ W, BytesAt W bo bn → Calls Tryd.prog 35 #[dyV ao d.bl.length cap d, .slice lo l.length lcap, .slice bo bn bcap] W fun e w' => ∃ (so : Option Addr) (sc : Nat) (q : List Int), e = .returned (.slice so q.length sc) ∧ q.length = l.length - 1 ∧ (∀ x ∈ q, 0 ≤ x ∧ x < (2 ^ d.bl.length : Nat)) ∧ IntsAt w' so q ∧ Mod noB W w') := ⟨fun W h => sets_any ao cap d.bl.length d.bound d.stop d.bend lo l.length lcap bo bn bcap W l5 (by omega) h0 hbn2 h⟩
  have hrw := rows_small hl1 hbr
  have H18 : Hold (∀ (so : Option Addr) (sc : Nat) (q : List Int) W, InB B W ao d lo l → IntsAt W so q → Calls Tryd.prog 18 #[dyV ao d.bl.length cap d, .slice lo l.length lcap, .slice so q.length sc] W (Four (followE d l q) W)) := ⟨fun so sc q W h1 h2 => follow_any B ao cap d lo lcap l so sc q W h1 h2⟩
  have H18s : Hold (∀ (b : Nat) W, InB B W ao d lo l → Calls Tryd.prog 18 #[dyV ao d.bl.length cap d, .slice lo l.length lcap, .slice (some ⟨b, 0, none⟩) 0 0] W fun e w' => ∃ x y z, e = .returned (.tuple #[.int .i64 x, .int .i64 y, .int .i64 z, .int .i64 0]) ∧ Mod noB W w') := ⟨fun b W h1 => by
    have hf := followSets hd hs hbr
    rw [hrw, show l.length - 1 = 0 by omega] at hf
    have := follow_any B ao cap d lo lcap l (some ⟨b, 0, none⟩) 0 (setsL d [] 0) W h1 ⟨fun h => absurd rfl h, Nat.zero_le _⟩
    rw [hf] at this
    exact this.mono fun e w' h => ⟨_, _, _, h.1, h.2⟩⟩
  have HFQ : Hold (∀ q : List Int, q.length = l.length - 1 → (∀ x ∈ q, 0 ≤ x ∧ x < (2 ^ d.bl.length : Nat)) → FollowQ d l [] q) := ⟨fun q h1 h2 => by rw [← hrw]; exact followQ hd hs hbr h1 h2⟩
  have hmk : ∀ W : World, (Instr.makeSlice 34 (.int .i64 0) (.int .i64 0)).run Tryd.prog W = .ok (.slice (some ⟨W.heap.size, 0, none⟩) 0 0) (W.alloc (.cells (ranC 0 zeroR) 3)) := make_ran6 0 (by omega)
  have hlI : (l.length : Int) - 1 = 0 ∨ (l.length : Int) - 1 = -1 := by omega
  have HLC := Hold.mk hI.le
  clear hI h1 h2 hby hd hs s1 s2 hpr hbr hl1 hrw
  rcases hlI with hlI | hlI
  all_goals
    go_enter Tryd.func9, Tryd.ntmps9
    go_wp2_with (first
      | (refine wpList_load_row rfl 24 (.tmp 3) rfl w.heap.size rfl 24 _ (0, 0) _ HF.out.now.1 Tryd.underlying24 rfl info24 ?_)
      | (go_at_call 12; refine (H12.out _).mono ?_; rintro e w1 ⟨rfl, hM⟩; have HF := Hold.mk (HF.out.later hM); have hg := HF.out.now.1; have g0 := cellsAt hg 0; have g1 := cellsAt hg 1; have g2 := cellsAt hg 2; have g3 := cellsAt hg 3; clear hM hg)
      | (go_at_call 27; refine (H27.out _ HF.out.now.2.1).mono ?_; rintro e w3 ⟨rfl, hM⟩; have HF := Hold.mk (HF.out.later hM); clear hM)
      | (go_at_call 28; refine (H28.out _ HF.out.now.2.1).mono ?_; rintro e w4 ⟨rfl, hM⟩; have HF := Hold.mk (HF.out.later hM); clear hM)
      | (go_at_call 20; refine (H20.out _ HF.out.now.2.1).mono ?_; rintro e w6 ⟨a1, k1, a2, k2, rfl, hM⟩; have HF := Hold.mk (HF.out.later hM); clear hM g0 g1 g2 g3))
    have HF := Hold.mk (show Kept (w6.alloc (.cells (ranC 0 zeroR) 3)) (Lawd w B ao cap d lo l) from fun W h => HF.out W (((Mod.refl noB w6).alloc _).trans h))
    generalize w6.alloc (.cells (ranC 0 zeroR) 3) = W1 at *
    go_loopw [16] (fun i W => i = .int .i64 0 ∧ Mod noB W1 W) (fun _ _ => 0)
    case atStart => exact ⟨rfl, Mod.refl _ _⟩
    case round =>
      obtain ⟨rfl, hmm⟩ := hrel
      have HF := Hold.mk (HF.out.later hmm)
      clear hmm
      go_wp2_with (first
        | (refine wpList_load_row rfl 24 (.tmp 3) rfl w.heap.size rfl 24 _ (0, 0) _ HF.out.now.1 Tryd.underlying24 rfl info24 ?_)
        | (go_at_call 18; refine (H18.out so sc q _ HF.out.now.2.1 HQ.out.now).mono ?_; rintro e w9 hh
           have hM := hh.2
           rcases HFI.out with ⟨j, b, hfe, hj, hb⟩ | ⟨hfe, hst⟩
           all_goals
             rw [hfe] at hh
             simp only [Four] at hh
             obtain ⟨rfl, _⟩ := hh
             have HF := Hold.mk (HF.out.later hM)
             clear hM hfe
           all_goals first
             | clear hst
             | skip)
        | (go_at_call 18; refine (H18s.out w6.heap.size _ HF.out.now.2.1).mono ?_; rintro e w7 ⟨x, y, z, rfl, hM⟩; have HF := Hold.mk (HF.out.later hM); clear hM)
        | (go_at_call 35; refine (H35.out _ (HBY.out _ HF.out.now.2.2)).mono ?_; rintro e w8 ⟨so, sc, q, rfl, q1, q2, i2, hM⟩; have HF := Hold.mk (HF.out.later hM); have HQ := Hold.mk (kept_ints i2); have HFI := Hold.mk (HFQ.out q q1 q2); clear hM i2 q1 q2)
        | (go_at_call 13; refine (awake_any _ HF.out.now.2.1.tab).mono ?_; rintro e w10 ⟨rfl, hM⟩; have HF := Hold.mk (HF.out.later hM); clear hM))
      all_goals first
        | (go_ret
           exact ⟨rfl, HF.out.now.2.2⟩)
        | skip
      have HF9 := HF
      go_loopw [33] (fun i W => i = .int .i64 0 ∧ Mod noB w9 W) (fun _ _ => 0)
      case atStart => exact ⟨rfl, Mod.refl _ _⟩
      case round =>
        obtain ⟨rfl, hmm⟩ := hrel
        have HFk := Hold.mk (HF9.out.later hmm)
        clear hmm
        go_wp2_with (go_at_call 13; refine (awake_any _ HFk.out.now.2.1.tab).mono ?_; rintro e w10 ⟨rfl, hM⟩; have HFl := Hold.mk (HFk.out.later hM); clear hM)
        go_ret
        exact ⟨rfl, HFl.out.now.2.2⟩

/-- The law's walk, of dies and stints that are valid. -/
theorem law9_yes (B : Nat) (ao : Option Addr) (cap : Nat) (d : Dye) (lo : Option Addr) (lcap : Nat) (l : List (Int × Int)) (bo : Option Addr) (bn bcap : Nat) (w : World) (hI : InB B w ao d lo l) (h1 : ¬ 10 < (d.bl.length : Int)) (h2 : ¬ 12 < (l.length : Int)) (h0 : 0 < bn) (hbn2 : bn ≤ 9223372036854775807) (hby : BytesAt w bo bn) (hd : dieB d = true) (hs : stintsB l = true) :
    Calls Tryd.prog 9 #[dyV ao d.bl.length cap d, .slice lo l.length lcap, .slice bo bn bcap] w fun e w' => e = .returned (.bool true) ∧ Mod noB w w' := by
  rcases proof_is hd hs with ⟨hp, hk⟩ | ⟨hp, hbr⟩
  · exact law9_bad B ao cap d lo lcap l bo bn bcap w hI h1 h2 h0 hd hs hp hk
  · rcases Nat.lt_or_ge 1 l.length with h | h
    · exact law9_good B ao cap d lo lcap l bo bn bcap w (l.length - 1) _ hI h1 h2 h0 hbn2 hby hd hs (by omega) (by omega) rfl hp hbr
    · rw [rows_small h hbr] at hp
      exact law9_small B ao cap d lo lcap l bo bn bcap w hI h1 h2 h0 hbn2 hby hd hs h hp hbr
end Go.Proofs.YtdncppempgpooaaDoor

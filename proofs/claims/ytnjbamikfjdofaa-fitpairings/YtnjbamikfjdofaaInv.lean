/- A region that draws its order, by an invariant: what holds however far it has come, in whatever order; and its frame, told by what has been yielded. -/
import Derived.Test.YtnjbamikfjdofaaRegions
set_option linter.unusedSimpArgs false
set_option linter.unusedVariables false
namespace Go.Proofs.Ytnjbamikfjdofaa
open Go.RowKit Go.Shelf

/-- The ordinary end alone. -/
def only (K : Act → World → Prop) : Exit → Act → World → Prop := fun e a w => e = .normal ∧ K a w
theorem only_lets {K : Act → World → Prop} : ¬ LetsOut (only K) := by
  rintro ⟨a, w, h, _⟩
  cases h

theorem wp_only {P : Program} {o : Oper} {a : Act} {w : World} {K K' : Act → World → Prop} {Q : Exit → Act → World → Prop} (hK : ∀ a w, K' a w → K a w) (hh : o.wp P a w K' (only K)) : o.wp P a w K Q := by
  unfold Oper.wp at *
  generalize (execOp a.eval o).run P w = r at *
  cases r with
  | ok n w' =>
    cases n <;> simp only [Oper.upon] at hh ⊢ <;>
      first
        | exact hK _ _ hh
        | exact Calls.mono hh (fun e w'' he => by cases e <;> first | exact hK _ _ he | (cases he.1) | exact absurd he only_lets)
        | exact Rows.mono hh (fun _ _ he => hK _ _ he)
  | halt x w' => cases x <;> simp only [Oper.upon] at hh ⊢ <;> first | exact hh | (cases hh.1)

theorem wpOp_of_list {P : Program} {ops : Array Oper} {Q : Exit → Act → World → Prop} {i : Nat} {o : Oper} {K : Act → World → Prop} {a : Act} {w : World} (ho : ops[i]? = some o) (h : wpList P ops (only K) [o] a w) : wpOp P ops Q i K a w := by
  unfold wpOp
  rw [ho]
  unfold wpList at h
  simp only
  split at h
  · rename_i hw
    rw [if_pos hw]
    rcases h with h | h
    · exact .inl (wp_only (fun a w h => h.2) h)
    · exact absurd h.2 only_lets
  · rename_i hw
    rw [if_neg hw]
    exact h.2

theorem all_listed {l : List Oper} (hlow : lowB l = true) {listed : Array Bool} (hsz : listed.size = l.length) (hr : Region.ready .any l.toArray listed = []) : ∀ j, j < l.length → listed.getD j true = true := by
  intro j
  induction j using Nat.strongRecOn with
  | _ j ih =>
    intro hj
    cases hv : listed.getD j true with
    | true => rfl
    | false =>
      exfalso
      have ho : l[j]? = some (l[j]'hj) := List.getElem?_eq_getElem hj
      have hmem : j ∈ Region.ready .any l.toArray listed := mem_ready.2 ⟨hv, _, by rw [List.getElem?_toArray]; exact ho, fun e he hb => by
        have hl := List.all_eq_true.1 hlow j (List.mem_range.2 hj)
        simp only [ho, List.all_eq_true, Bool.or_eq_true, Bool.not_eq_true', decide_eq_true_eq] at hl
        have hlt : e.on < j := by
          rcases hl e (by simpa using he) with h | h
          · rw [hb] at h; cases h
          · exact h
        rw [getD_two (by omega) false true]
        exact ih _ hlt (by omega)⟩
      rw [hr] at hmem
      cases hmem

theorem inv_go {l : List Oper} {Q : Exit → Act → World → Prop} (hlow : lowB l = true) (Inv : (Nat → Bool) → Act → World → Prop)
    (hs : ∀ D a w i o, (∀ i o, l[i]? = some o → D i = true → ∀ e ∈ o.after, Region.binds .any e = true → D e.on = true) → l[i]? = some o → D i = false → (∀ e ∈ o.after, Region.binds .any e = true → D e.on = true) → Inv D a w → wpList Try.prog l.toArray (only (Inv fun j => j == i || D j)) [o] a w)
    (hend : ∀ D a w, (∀ j, j < l.length → D j = true) → Inv D a w → Q .normal a w) :
    ∀ (fuel : Nat) (U : List Nat) (listed : Array Bool) (a : Act) (w : World), listed.size = l.length → Closed l listed → U.Nodup → (∀ j, j ∈ U ↔ listed.getD j true = false) → U.length ≤ fuel → Inv (fun j => listed.getD j false) a w → wpAny Try.prog .any l.toArray Q fuel listed a w := by
  have hfin : ∀ (listed : Array Bool) (a : Act) (w : World), listed.size = l.length → Inv (fun j => listed.getD j false) a w → Region.ready .any l.toArray listed = [] → Q .normal a w := fun listed a w hsz hI hr =>
    hend _ a w (fun j hj => by
      have := all_listed hlow hsz hr j hj
      show listed.getD j false = true
      rw [getD_two (by omega) false true]; exact this) hI
  intro fuel
  induction fuel with
  | zero =>
    intro U listed a w hsz hcl hn hU hl hI
    have hU0 : U = [] := List.length_eq_zero_iff.1 (by omega)
    have hr : Region.ready .any l.toArray listed = [] := by
      rw [List.eq_nil_iff_forall_not_mem]
      intro i hi
      have := (hU i).2 (mem_ready.1 hi).1
      rw [hU0] at this; cases this
    exact ⟨hr, hfin listed a w hsz hI hr⟩
  | succ fuel ih =>
    intro U listed a w hsz hcl hn hU hl hI
    refine ⟨hfin listed a w hsz hI, fun i hi => ?_⟩
    obtain ⟨hu, o, ho, hall⟩ := mem_ready.1 hi
    have ho' : l[i]? = some o := by simpa using ho
    have hlt := (List.getElem?_eq_some_iff.1 ho').1
    have hD : listed.getD i false = false := by rw [getD_two (by omega) false true]; exact hu
    have hmem := (hU i).2 hu
    refine wpOp_mono (fun a' w' hI' => ?_) (wpOp_of_list ho (hs _ a w i o hcl ho' hD hall hI))
    refine ih (U.erase i) _ a' w' (by rw [Array.size_setIfInBounds]; exact hsz) (hcl.set hsz hi) (hn.erase i) (fun j => ?_) (by rw [List.length_erase_of_mem hmem]; omega) ?_
    · rw [hn.mem_erase_iff, hU j, getD_set]
      by_cases hj : i = j
      · subst hj; simp [hlt, hsz]
      · simp [hj, Ne.symm hj]
    · have e : (fun j => (listed.setIfInBounds i true).getD j false) = fun j => j == i || listed.getD j false := by
        funext j
        rw [getD_set]
        by_cases hj : i = j
        · subst hj; simp [hlt, hsz]
        · simp [hj, Ne.symm hj]
      rw [e]; exact hI'

/-- A region that draws its order, by an invariant of what has been done. -/
theorem region_inv {id : Nat} {Q : Exit → Act → World → Prop} {a : Act} {w : World} {l : List Oper} (hlow : lowB l = true) (Inv : (Nat → Bool) → Act → World → Prop) (h0 : Inv (fun _ => false) a w.drew)
    (hs : ∀ D a w i o, (∀ i o, l[i]? = some o → D i = true → ∀ e ∈ o.after, Region.binds .any e = true → D e.on = true) → l[i]? = some o → D i = false → (∀ e ∈ o.after, Region.binds .any e = true → D e.on = true) → Inv D a w → wpList Try.prog l.toArray (only (Inv fun j => j == i || D j)) [o] a w)
    (hend : ∀ D a w, (∀ j, j < l.length → D j = true) → Inv D a w → Q .normal a w) : (Code.region id l.toArray true).wp Try.prog Q a w := by
  refine wp_region_any mixed (inv_go hlow Inv hs hend _ (List.range l.length) _ a _ (by simp) (fun i o ho hi => by
    rw [Array.getD_eq_getD_getElem?, Array.getElem?_replicate] at hi
    split at hi <;> cases hi) List.nodup_range (fun j => ?_) (by simp) ?_)
  · rw [List.mem_range, Array.getD_eq_getD_getElem?, Array.getElem?_replicate]
    by_cases h : j < l.length <;> simp [h]
  · have e : (fun j => (Array.replicate l.toArray.size false).getD j false) = fun _ => false := by
      funext j
      rw [Array.getD_eq_getD_getElem?, Array.getElem?_replicate]
      split <;> rfl
    rw [e]; exact h0

/-- The frame in which those operations that are done have put what they yielded: each by its number and its slot. -/
def putD (ds : List (Nat × Nat)) (D : Nat → Bool) (vs : Nat → Value) (a0 : Act) : Act := ds.foldl (fun a x => if D x.1 then a.put (some x.2) (vs x.1) else a) a0

theorem put_comm (a : Act) {s t : Nat} (h : s ≠ t) (u v : Value) : (a.put (some s) u).put (some t) v = (a.put (some t) v).put (some s) u := by
  simp only [Act.put]
  rw [Array.setIfInBounds_comm _ _ h]
theorem putD_nil (D : Nat → Bool) (vs : Nat → Value) (a0 : Act) : putD [] D vs a0 = a0 := rfl
theorem putD_cons (x : Nat × Nat) (ds : List (Nat × Nat)) (D : Nat → Bool) (vs : Nat → Value) (a0 : Act) : putD (x :: ds) D vs a0 = putD ds D vs (if D x.1 then a0.put (some x.2) (vs x.1) else a0) := rfl
theorem putD_none (ds : List (Nat × Nat)) (vs : Nat → Value) (a0 : Act) : putD ds (fun _ => false) vs a0 = a0 := by
  induction ds with
  | nil => rfl
  | cons x ds ih => rw [putD_cons]; exact ih
theorem putD_late (ds : List (Nat × Nat)) (D : Nat → Bool) (vs : Nat → Value) (s : Nat) (v : Value) : ∀ a0 : Act, s ∉ ds.map Prod.snd → (putD ds D vs a0).put (some s) v = putD ds D vs (a0.put (some s) v) := by
  induction ds with
  | nil => intro a0 _; rfl
  | cons x ds ih =>
    intro a0 hs
    simp only [List.map_cons, List.mem_cons, not_or] at hs
    rw [putD_cons, putD_cons, ih _ hs.2]
    congr 1
    split
    · exact put_comm _ (Ne.symm hs.1) _ _
    · rfl
theorem putD_same {ds : List (Nat × Nat)} {D D' : Nat → Bool} {vs vs' : Nat → Value} : ∀ a0 : Act, (∀ x ∈ ds, D x.1 = D' x.1 ∧ vs x.1 = vs' x.1) → putD ds D vs a0 = putD ds D' vs' a0 := by
  induction ds with
  | nil => intro a0 _; rfl
  | cons x ds ih =>
    intro a0 h
    obtain ⟨h1, h2⟩ := h x (by simp)
    rw [putD_cons, putD_cons, h1, h2]
    exact ih _ fun y hy => h y (by simp [hy])
theorem putD_put {ds : List (Nat × Nat)} {D : Nat → Bool} {vs : Nat → Value} {i s : Nat} (v : Value) : ∀ a0 : Act, (i, s) ∈ ds → (ds.map Prod.fst).Nodup → (ds.map Prod.snd).Nodup → D i = false →
    (putD ds D vs a0).put (some s) v = putD ds (fun j => j == i || D j) (fun j => if j = i then v else vs j) a0 := by
  induction ds with
  | nil => intro a0 h; cases h
  | cons x ds ih =>
    intro a0 hm hf hs hD
    simp only [List.map_cons, List.nodup_cons] at hf hs
    rw [putD_cons, putD_cons]
    rcases List.mem_cons.1 hm with rfl | hm
    · rw [putD_late _ _ _ _ _ _ hs.1, hD]
      simp only [Bool.false_eq_true, if_false, beq_self_eq_true, Bool.true_or, if_true]
      refine putD_same _ fun y hy => ?_
      have hne : y.1 ≠ i := fun e => hf.1 (List.mem_map.2 ⟨y, hy, e⟩)
      simp [hne]
    · have hne : x.1 ≠ i := fun e => hf.1 (e ▸ List.mem_map.2 ⟨_, hm, rfl⟩)
      rw [ih _ hm hf.2 hs.2 hD]
      simp [hne]
theorem put_size (a : Act) (d : Option Nat) (v : Value) : (a.put d v).tmps.size = a.tmps.size := by
  unfold Act.put
  split <;> simp
theorem putD_size (ds : List (Nat × Nat)) (D : Nat → Bool) (vs : Nat → Value) : ∀ a0 : Act, (putD ds D vs a0).tmps.size = a0.tmps.size := by
  induction ds with
  | nil => intro a0; rfl
  | cons x ds ih =>
    intro a0
    rw [putD_cons, ih]
    split
    · exact put_size _ _ _
    · rfl
theorem eval_put_ne (a : Act) {s t : Nat} (h : s ≠ t) (v : Value) : (a.put (some s) v).eval (.tmp t) = a.eval (.tmp t) := by
  simp only [Act.put, Act.eval, Array.getD_eq_getD_getElem?]
  rw [Array.getElem?_setIfInBounds_ne h]
theorem eval_put_eq (a : Act) {s : Nat} (h : s < a.tmps.size) (v : Value) : (a.put (some s) v).eval (.tmp s) = v := by
  simp only [Act.put, Act.eval, Array.getD_eq_getD_getElem?]
  rw [Array.getElem?_setIfInBounds_self_of_lt h]; rfl
theorem putD_old {ds : List (Nat × Nat)} {D : Nat → Bool} {vs : Nat → Value} {s : Nat} : ∀ a0 : Act, s ∉ ds.map Prod.snd → (putD ds D vs a0).eval (.tmp s) = a0.eval (.tmp s) := by
  induction ds with
  | nil => intro a0 _; rfl
  | cons x ds ih =>
    intro a0 hs
    simp only [List.map_cons, List.mem_cons, not_or] at hs
    rw [putD_cons, ih _ hs.2]
    split
    · exact eval_put_ne _ (Ne.symm hs.1) _
    · rfl
theorem putD_new {ds : List (Nat × Nat)} {D : Nat → Bool} {vs : Nat → Value} {i s : Nat} : ∀ a0 : Act, (i, s) ∈ ds → (ds.map Prod.snd).Nodup → D i = true → s < a0.tmps.size → (putD ds D vs a0).eval (.tmp s) = vs i := by
  induction ds with
  | nil => intro a0 h; cases h
  | cons x ds ih =>
    intro a0 hm hs hD hz
    simp only [List.map_cons, List.nodup_cons] at hs
    rw [putD_cons]
    rcases List.mem_cons.1 hm with rfl | hm
    · rw [putD_old _ hs.1, hD, if_pos rfl]
      exact eval_put_eq _ hz _
    · refine ih _ hm hs.2 hD ?_
      split
      · rw [put_size]; exact hz
      · exact hz

section
variable {ops : Array Oper} {o : Oper} {a : Act} {w : World} {K : Act → World → Prop}
theorem step_move (hg : o.guard = none) (x : Operand) (hop : o.op = .move x) (h : K (a.put o.dst (a.eval x)) w) : wpList Try.prog ops (only K) [o] a w := by
  refine wpList_plain hg fun K' hK => ?_
  unfold Oper.wp
  simp only [execOp, hop, Sem.run_pure, Oper.upon]
  exact hK _ _ ⟨rfl, h⟩
theorem step_assign (hg : o.guard = none) (x : Operand) (hop : o.op = .assign x) (h : K (a.put o.dst (a.eval x)) w) : wpList Try.prog ops (only K) [o] a w := by
  refine wpList_plain hg fun K' hK => ?_
  unfold Oper.wp
  simp only [execOp, hop, Sem.run_pure, Oper.upon]
  exact hK _ _ ⟨rfl, h⟩
theorem step_call (hg : o.guard = none) (f : Nat) (args : Array Operand) (tys : Array TypeId) (hop : o.op = .call { callee := .value (.func f), args := args, argTypes := tys })
    (hrun : ∀ (vs : Array Value) (w : World), (callFunc f vs).run Try.prog w = .ok (.enter f vs) w)
    (h : Calls Try.prog f (args.map a.eval) w fun e w' => ∃ v, e = .returned v ∧ K (a.put o.dst v) w') : wpList Try.prog ops (only K) [o] a w := by
  refine wpList_plain hg fun K' hK => ?_
  unfold Oper.wp
  have e : (execOp a.eval o).run Try.prog w = .ok (.enter f (args.map a.eval)) w := by
    simp [execOp, hop, resolve, invoke, Act.eval, Deferred.ofValue, Result.andThen, hrun]
  rw [e]
  simp only [Oper.upon]
  refine h.mono fun e w' hh => ?_
  obtain ⟨v, rfl, hk⟩ := hh
  exact hK _ _ ⟨rfl, hk⟩
theorem step_run (hg : o.guard = none) (v : Value) (w' : World) (hrun : (execOp a.eval o).run Try.prog w = .ok (.value v) w') (h : K (a.put o.dst v) w') : wpList Try.prog ops (only K) [o] a w := by
  refine wpList_plain hg fun K' hK => ?_
  unfold Oper.wp
  rw [hrun]
  simp only [Oper.upon]
  exact hK _ _ ⟨rfl, h⟩
end
end Go.Proofs.Ytnjbamikfjdofaa

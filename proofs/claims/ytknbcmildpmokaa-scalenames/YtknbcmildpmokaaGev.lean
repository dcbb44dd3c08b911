/- What speaks of no seat: drawn regions, by an invariant, by properties, by a word; an awake's last region. -/
import Derived.Test.YtknbcmildpmokaaGen
import Derived.Deep.MidRow
set_option linter.unusedSimpArgs false
set_option linter.unusedVariables false

/- A region that draws its order, by an invariant: what holds however far it has come, in whatever order; and its frame, told by what has been yielded. -/
namespace Go.Proofs.Ytknbcmildpmokaa
open Go.RowKit Go.Shelf

/-- The ordinary end alone. -/
def only (K : Act → World → Prop) : Exit → Act → World → Prop := fun e a w => e = .normal ∧ K a w
theorem only_lets {K : Act → World → Prop} : ¬ LetsOut (only K) := by
  rintro ⟨a, w, h, _⟩
  cases h

theorem wp_only {P : Program} {o : Oper} {a : Act} {w : World} {K K' : Act → World → Prop} {Q : Exit → Act → World → Prop} (hK : ∀ a w, K' a w → K a w) (hh : o.wp P a w K' (only K)) : o.wp P a w K Q := by
  unfold Oper.wp at *
  generalize (execOp a.eval o).run P w = r at *
  cases r with
  | ok n w' =>
    cases n <;> simp only [Oper.upon] at hh ⊢ <;>
      first
        | exact hK _ _ hh
        | exact Calls.mono hh (fun e w'' he => by cases e <;> first | exact hK _ _ he | (cases he.1) | exact absurd he only_lets)
        | exact Rows.mono hh (fun _ _ he => hK _ _ he)
  | halt x w' => cases x <;> simp only [Oper.upon] at hh ⊢ <;> first | exact hh | (cases hh.1)

theorem wpOp_of_list {P : Program} {ops : Array Oper} {Q : Exit → Act → World → Prop} {i : Nat} {o : Oper} {K : Act → World → Prop} {a : Act} {w : World} (ho : ops[i]? = some o) (h : wpList P ops (only K) [o] a w) : wpOp P ops Q i K a w := by
  unfold wpOp
  rw [ho]
  unfold wpList at h
  simp only
  split at h
  · rename_i hw
    rw [if_pos hw]
    rcases h with h | h
    · exact .inl (wp_only (fun a w h => h.2) h)
    · exact absurd h.2 only_lets
  · rename_i hw
    rw [if_neg hw]
    exact h.2

theorem all_listed {l : List Oper} (hlow : lowB l = true) {listed : Array Bool} (hsz : listed.size = l.length) (hr : Region.ready .any l.toArray listed = []) : ∀ j, j < l.length → listed.getD j true = true := by
  intro j
  induction j using Nat.strongRecOn with
  | _ j ih =>
    intro hj
    cases hv : listed.getD j true with
    | true => rfl
    | false =>
      exfalso
      have ho : l[j]? = some (l[j]'hj) := List.getElem?_eq_getElem hj
      have hmem : j ∈ Region.ready .any l.toArray listed := mem_ready.2 ⟨hv, _, by rw [List.getElem?_toArray]; exact ho, fun e he hb => by
        have hl := List.all_eq_true.1 hlow j (List.mem_range.2 hj)
        simp only [ho, List.all_eq_true, Bool.or_eq_true, Bool.not_eq_true', decide_eq_true_eq] at hl
        have hlt : e.on < j := by
          rcases hl e (by simpa using he) with h | h
          · rw [hb] at h; cases h
          · exact h
        rw [getD_two (by omega) false true]
        exact ih _ hlt (by omega)⟩
      rw [hr] at hmem
      cases hmem

theorem inv_go {l : List Oper} {Q : Exit → Act → World → Prop} (hlow : lowB l = true) (Inv : (Nat → Bool) → Act → World → Prop)
    (hs : ∀ D a w i o, (∀ i o, l[i]? = some o → D i = true → ∀ e ∈ o.after, Region.binds .any e = true → D e.on = true) → l[i]? = some o → D i = false → (∀ e ∈ o.after, Region.binds .any e = true → D e.on = true) → Inv D a w → wpList Try.prog l.toArray (only (Inv fun j => j == i || D j)) [o] a w)
    (hend : ∀ D a w, (∀ j, j < l.length → D j = true) → Inv D a w → Q .normal a w) :
    ∀ (fuel : Nat) (U : List Nat) (listed : Array Bool) (a : Act) (w : World), listed.size = l.length → Closed l listed → U.Nodup → (∀ j, j ∈ U ↔ listed.getD j true = false) → U.length ≤ fuel → Inv (fun j => listed.getD j false) a w → wpAny Try.prog .any l.toArray Q fuel listed a w := by
  have hfin : ∀ (listed : Array Bool) (a : Act) (w : World), listed.size = l.length → Inv (fun j => listed.getD j false) a w → Region.ready .any l.toArray listed = [] → Q .normal a w := fun listed a w hsz hI hr =>
    hend _ a w (fun j hj => by
      have := all_listed hlow hsz hr j hj
      show listed.getD j false = true
      rw [getD_two (by omega) false true]; exact this) hI
  intro fuel
  induction fuel with
  | zero =>
    intro U listed a w hsz hcl hn hU hl hI
    have hU0 : U = [] := List.length_eq_zero_iff.1 (by omega)
    have hr : Region.ready .any l.toArray listed = [] := by
      rw [List.eq_nil_iff_forall_not_mem]
      intro i hi
      have := (hU i).2 (mem_ready.1 hi).1
      rw [hU0] at this; cases this
    exact ⟨hr, hfin listed a w hsz hI hr⟩
  | succ fuel ih =>
    intro U listed a w hsz hcl hn hU hl hI
    refine ⟨hfin listed a w hsz hI, fun i hi => ?_⟩
    obtain ⟨hu, o, ho, hall⟩ := mem_ready.1 hi
    have ho' : l[i]? = some o := by simpa using ho
    have hlt := (List.getElem?_eq_some_iff.1 ho').1
    have hD : listed.getD i false = false := by rw [getD_two (by omega) false true]; exact hu
    have hmem := (hU i).2 hu
    refine wpOp_mono (fun a' w' hI' => ?_) (wpOp_of_list ho (hs _ a w i o hcl ho' hD hall hI))
    refine ih (U.erase i) _ a' w' (by rw [Array.size_setIfInBounds]; exact hsz) (hcl.set hsz hi) (hn.erase i) (fun j => ?_) (by rw [List.length_erase_of_mem hmem]; omega) ?_
    · rw [hn.mem_erase_iff, hU j, getD_set]
      by_cases hj : i = j
      · subst hj; simp [hlt, hsz]
      · simp [hj, Ne.symm hj]
    · have e : (fun j => (listed.setIfInBounds i true).getD j false) = fun j => j == i || listed.getD j false := by
        funext j
        rw [getD_set]
        by_cases hj : i = j
        · subst hj; simp [hlt, hsz]
        · simp [hj, Ne.symm hj]
      rw [e]; exact hI'

/-- A region that draws its order, by an invariant of what has been done. -/
theorem region_inv {id : Nat} {Q : Exit → Act → World → Prop} {a : Act} {w : World} {l : List Oper} (hlow : lowB l = true) (Inv : (Nat → Bool) → Act → World → Prop) (h0 : Inv (fun _ => false) a w.drew)
    (hs : ∀ D a w i o, (∀ i o, l[i]? = some o → D i = true → ∀ e ∈ o.after, Region.binds .any e = true → D e.on = true) → l[i]? = some o → D i = false → (∀ e ∈ o.after, Region.binds .any e = true → D e.on = true) → Inv D a w → wpList Try.prog l.toArray (only (Inv fun j => j == i || D j)) [o] a w)
    (hend : ∀ D a w, (∀ j, j < l.length → D j = true) → Inv D a w → Q .normal a w) : (Code.region id l.toArray true).wp Try.prog Q a w := by
  refine wp_region_any mixed (inv_go hlow Inv hs hend _ (List.range l.length) _ a _ (by simp) (fun i o ho hi => by
    rw [Array.getD_eq_getD_getElem?, Array.getElem?_replicate] at hi
    split at hi <;> cases hi) List.nodup_range (fun j => ?_) (by simp) ?_)
  · rw [List.mem_range, Array.getD_eq_getD_getElem?, Array.getElem?_replicate]
    by_cases h : j < l.length <;> simp [h]
  · have e : (fun j => (Array.replicate l.toArray.size false).getD j false) = fun _ => false := by
      funext j
      rw [Array.getD_eq_getD_getElem?, Array.getElem?_replicate]
      split <;> rfl
    rw [e]; exact h0

/-- The frame in which those operations that are done have put what they yielded: each by its number and its slot. -/
def putD (ds : List (Nat × Nat)) (D : Nat → Bool) (vs : Nat → Value) (a0 : Act) : Act := ds.foldl (fun a x => if D x.1 then a.put (some x.2) (vs x.1) else a) a0

theorem put_comm (a : Act) {s t : Nat} (h : s ≠ t) (u v : Value) : (a.put (some s) u).put (some t) v = (a.put (some t) v).put (some s) u := by
  simp only [Act.put]
  rw [Array.setIfInBounds_comm _ _ h]
theorem putD_nil (D : Nat → Bool) (vs : Nat → Value) (a0 : Act) : putD [] D vs a0 = a0 := rfl
theorem putD_cons (x : Nat × Nat) (ds : List (Nat × Nat)) (D : Nat → Bool) (vs : Nat → Value) (a0 : Act) : putD (x :: ds) D vs a0 = putD ds D vs (if D x.1 then a0.put (some x.2) (vs x.1) else a0) := rfl
theorem putD_none (ds : List (Nat × Nat)) (vs : Nat → Value) (a0 : Act) : putD ds (fun _ => false) vs a0 = a0 := by
  induction ds with
  | nil => rfl
  | cons x ds ih => rw [putD_cons]; exact ih
theorem putD_late (ds : List (Nat × Nat)) (D : Nat → Bool) (vs : Nat → Value) (s : Nat) (v : Value) : ∀ a0 : Act, s ∉ ds.map Prod.snd → (putD ds D vs a0).put (some s) v = putD ds D vs (a0.put (some s) v) := by
  induction ds with
  | nil => intro a0 _; rfl
  | cons x ds ih =>
    intro a0 hs
    simp only [List.map_cons, List.mem_cons, not_or] at hs
    rw [putD_cons, putD_cons, ih _ hs.2]
    congr 1
    split
    · exact put_comm _ (Ne.symm hs.1) _ _
    · rfl
theorem putD_same {ds : List (Nat × Nat)} {D D' : Nat → Bool} {vs vs' : Nat → Value} : ∀ a0 : Act, (∀ x ∈ ds, D x.1 = D' x.1 ∧ vs x.1 = vs' x.1) → putD ds D vs a0 = putD ds D' vs' a0 := by
  induction ds with
  | nil => intro a0 _; rfl
  | cons x ds ih =>
    intro a0 h
    obtain ⟨h1, h2⟩ := h x (by simp)
    rw [putD_cons, putD_cons, h1, h2]
    exact ih _ fun y hy => h y (by simp [hy])
theorem putD_put {ds : List (Nat × Nat)} {D : Nat → Bool} {vs : Nat → Value} {i s : Nat} (v : Value) : ∀ a0 : Act, (i, s) ∈ ds → (ds.map Prod.fst).Nodup → (ds.map Prod.snd).Nodup → D i = false →
    (putD ds D vs a0).put (some s) v = putD ds (fun j => j == i || D j) (fun j => if j = i then v else vs j) a0 := by
  induction ds with
  | nil => intro a0 h; cases h
  | cons x ds ih =>
    intro a0 hm hf hs hD
    simp only [List.map_cons, List.nodup_cons] at hf hs
    rw [putD_cons, putD_cons]
    rcases List.mem_cons.1 hm with rfl | hm
    · rw [putD_late _ _ _ _ _ _ hs.1, hD]
      simp only [Bool.false_eq_true, if_false, beq_self_eq_true, Bool.true_or, if_true]
      refine putD_same _ fun y hy => ?_
      have hne : y.1 ≠ i := fun e => hf.1 (List.mem_map.2 ⟨y, hy, e⟩)
      simp [hne]
    · have hne : x.1 ≠ i := fun e => hf.1 (e ▸ List.mem_map.2 ⟨_, hm, rfl⟩)
      rw [ih _ hm hf.2 hs.2 hD]
      simp [hne]
theorem put_size (a : Act) (d : Option Nat) (v : Value) : (a.put d v).tmps.size = a.tmps.size := by
  unfold Act.put
  split <;> simp
theorem putD_size (ds : List (Nat × Nat)) (D : Nat → Bool) (vs : Nat → Value) : ∀ a0 : Act, (putD ds D vs a0).tmps.size = a0.tmps.size := by
  induction ds with
  | nil => intro a0; rfl
  | cons x ds ih =>
    intro a0
    rw [putD_cons, ih]
    split
    · exact put_size _ _ _
    · rfl
theorem eval_put_ne (a : Act) {s t : Nat} (h : s ≠ t) (v : Value) : (a.put (some s) v).eval (.tmp t) = a.eval (.tmp t) := by
  simp only [Act.put, Act.eval, Array.getD_eq_getD_getElem?]
  rw [Array.getElem?_setIfInBounds_ne h]
theorem eval_put_eq (a : Act) {s : Nat} (h : s < a.tmps.size) (v : Value) : (a.put (some s) v).eval (.tmp s) = v := by
  simp only [Act.put, Act.eval, Array.getD_eq_getD_getElem?]
  rw [Array.getElem?_setIfInBounds_self_of_lt h]; rfl
theorem putD_old {ds : List (Nat × Nat)} {D : Nat → Bool} {vs : Nat → Value} {s : Nat} : ∀ a0 : Act, s ∉ ds.map Prod.snd → (putD ds D vs a0).eval (.tmp s) = a0.eval (.tmp s) := by
  induction ds with
  | nil => intro a0 _; rfl
  | cons x ds ih =>
    intro a0 hs
    simp only [List.map_cons, List.mem_cons, not_or] at hs
    rw [putD_cons, ih _ hs.2]
    split
    · exact eval_put_ne _ (Ne.symm hs.1) _
    · rfl
theorem putD_new {ds : List (Nat × Nat)} {D : Nat → Bool} {vs : Nat → Value} {i s : Nat} : ∀ a0 : Act, (i, s) ∈ ds → (ds.map Prod.snd).Nodup → D i = true → s < a0.tmps.size → (putD ds D vs a0).eval (.tmp s) = vs i := by
  induction ds with
  | nil => intro a0 h; cases h
  | cons x ds ih =>
    intro a0 hm hs hD hz
    simp only [List.map_cons, List.nodup_cons] at hs
    rw [putD_cons]
    rcases List.mem_cons.1 hm with rfl | hm
    · rw [putD_old _ hs.1, hD, if_pos rfl]
      exact eval_put_eq _ hz _
    · refine ih _ hm hs.2 hD ?_
      split
      · rw [put_size]; exact hz
      · exact hz

section
variable {ops : Array Oper} {o : Oper} {a : Act} {w : World} {K : Act → World → Prop}
theorem step_move (hg : o.guard = none) (x : Operand) (hop : o.op = .move x) (h : K (a.put o.dst (a.eval x)) w) : wpList Try.prog ops (only K) [o] a w := by
  refine wpList_plain hg fun K' hK => ?_
  unfold Oper.wp
  simp only [execOp, hop, Sem.run_pure, Oper.upon]
  exact hK _ _ ⟨rfl, h⟩
theorem step_assign (hg : o.guard = none) (x : Operand) (hop : o.op = .assign x) (h : K (a.put o.dst (a.eval x)) w) : wpList Try.prog ops (only K) [o] a w := by
  refine wpList_plain hg fun K' hK => ?_
  unfold Oper.wp
  simp only [execOp, hop, Sem.run_pure, Oper.upon]
  exact hK _ _ ⟨rfl, h⟩
theorem step_call (hg : o.guard = none) (f : Nat) (args : Array Operand) (tys : Array TypeId) (hop : o.op = .call { callee := .value (.func f), args := args, argTypes := tys })
    (hrun : ∀ (vs : Array Value) (w : World), (callFunc f vs).run Try.prog w = .ok (.enter f vs) w)
    (h : Calls Try.prog f (args.map a.eval) w fun e w' => ∃ v, e = .returned v ∧ K (a.put o.dst v) w') : wpList Try.prog ops (only K) [o] a w := by
  refine wpList_plain hg fun K' hK => ?_
  unfold Oper.wp
  have e : (execOp a.eval o).run Try.prog w = .ok (.enter f (args.map a.eval)) w := by
    simp [execOp, hop, resolve, invoke, Act.eval, Deferred.ofValue, Result.andThen, hrun]
  rw [e]
  simp only [Oper.upon]
  refine h.mono fun e w' hh => ?_
  obtain ⟨v, rfl, hk⟩ := hh
  exact hK _ _ ⟨rfl, hk⟩
theorem step_run (hg : o.guard = none) (v : Value) (w' : World) (hrun : (execOp a.eval o).run Try.prog w = .ok (.value v) w') (h : K (a.put o.dst v) w') : wpList Try.prog ops (only K) [o] a w := by
  refine wpList_plain hg fun K' hK => ?_
  unfold Oper.wp
  rw [hrun]
  simp only [Oper.upon]
  exact hK _ _ ⟨rfl, h⟩
end
end Go.Proofs.Ytknbcmildpmokaa

/- A drawn region of whose operations each yields some value with a property of its own. -/
namespace Go.Proofs.Ytknbcmildpmokaa
open Go.RowKit Go.Shelf

theorem wp_only2 {P : Program} {o : Oper} {a : Act} {w : World} {K : Act → World → Prop} {K1 K2 : Act → World → Prop} {Q : Exit → Act → World → Prop} (hK : ∀ a w, K1 a w → K2 a w) (hh : o.wp P a w K1 (only K)) : o.wp P a w K2 Q := by
  unfold Oper.wp at *
  generalize (execOp a.eval o).run P w = r at *
  cases r with
  | ok n w' =>
    cases n <;> simp only [Oper.upon] at hh ⊢ <;>
      first
        | exact hK _ _ hh
        | exact Calls.mono hh (fun e w'' he => by cases e <;> first | exact hK _ _ he | (cases he.1) | exact absurd he only_lets)
        | exact Rows.mono hh (fun _ _ he => hK _ _ he)
  | halt x w' => cases x <;> simp only [Oper.upon] at hh ⊢ <;> first | exact hh | (cases hh.1)

/-- Each operation yields a value with its property, whatever the order; the world's word says what has been done. -/
theorem region_pred {rid : Nat} {Q : Exit → Act → World → Prop} {a0 : Act} {w : World} {l : List Oper} (hlow : lowB l = true) (ds : List (Nat × Nat)) (Pred : Nat → Value → Prop) (WO : (Nat → Bool) → World → Prop)
    (n1 : (ds.map Prod.fst).Nodup) (n2 : (ds.map Prod.snd).Nodup) (hsz : ∀ x ∈ ds, x.2 < a0.tmps.size) (hin : ∀ i o s, l[i]? = some o → o.dst = some s → (i, s) ∈ ds) (hout : ∀ i o, l[i]? = some o → o.dst = none → i ∉ ds.map Prod.fst)
    (hlen : ∀ x ∈ ds, x.1 < l.length) (h0 : WO (fun _ => false) w.drew)
    (hs : ∀ D i o (ρ : Act) w', (∀ i o, l[i]? = some o → D i = true → ∀ e ∈ o.after, Region.binds .any e = true → D e.on = true) → l[i]? = some o → D i = false → (∀ e ∈ o.after, Region.binds .any e = true → D e.on = true) →
      (∀ j s, (j, s) ∈ ds → D j = true → Pred j (ρ.eval (.tmp s))) → (∀ s, (∀ x ∈ ds, x.2 = s → D x.1 = false) → ρ.eval (.tmp s) = a0.eval (.tmp s)) → WO D w' →
      wpList Try.prog l.toArray (only fun a' w2 => (∃ v, a' = ρ.put o.dst v ∧ (o.dst ≠ none → Pred i v)) ∧ WO (fun j => j == i || D j) w2) [o] ρ w')
    (hend : ∀ (vs : Nat → Value) D w', (∀ j, j < l.length → D j = true) → (∀ x ∈ ds, Pred x.1 (vs x.1)) → WO D w' → Q .normal (ds.foldl (fun a x => a.put (some x.2) (vs x.1)) a0) w') : (Code.region rid l.toArray true).wp Try.prog Q a0 w := by
  have wait : ∀ (D : Nat → Bool) (vs : Nat → Value) (s : Nat) (ds : List (Nat × Nat)) (a0 : Act), (∀ x ∈ ds, x.2 = s → D x.1 = false) → (putD ds D vs a0).eval (.tmp s) = a0.eval (.tmp s) := by
    intro D vs s ds
    induction ds with
    | nil => intro a0 _; rfl
    | cons x ds ih =>
      intro a0 h
      rw [putD_cons, ih _ fun y hy => h y (by simp [hy])]
      split
      · rename_i hd
        exact eval_put_ne _ (fun e => by rw [h x (by simp) e] at hd; cases hd) _
      · rfl
  have all : ∀ (D : Nat → Bool) (vs : Nat → Value) (ds : List (Nat × Nat)) (a0 : Act), (∀ x ∈ ds, D x.1 = true) → putD ds D vs a0 = ds.foldl (fun a x => a.put (some x.2) (vs x.1)) a0 := by
    intro D vs ds
    induction ds with
    | nil => intro a0 _; rfl
    | cons x ds ih =>
      intro a0 h
      rw [putD_cons, h x (by simp), if_pos rfl]
      exact ih _ fun y hy => h y (by simp [hy])
  refine region_inv hlow (fun D a w' => ∃ vs, a = putD ds D vs a0 ∧ (∀ x ∈ ds, D x.1 = true → Pred x.1 (vs x.1)) ∧ WO D w') ⟨fun _ => undef, (putD_none _ _ _).symm, fun x _ h => (by cases h), h0⟩ ?_ ?_
  · rintro D a w' i o hcl ho hD hdep ⟨vs, rfl, hP, hW⟩
    have hstep := hs D i o (putD ds D vs a0) w' hcl ho hD hdep (fun j s hj hd => by rw [putD_new a0 hj n2 hd (hsz _ hj)]; exact hP _ hj hd) (fun s h => wait D vs s ds a0 h) hW
    have mono : ∀ (K K' : Act → World → Prop) (a : Act) (w : World), (∀ a w, K a w → K' a w) → wpList Try.prog l.toArray (only K) [o] a w → wpList Try.prog l.toArray (only K') [o] a w := by
      intro K K' a w hK h
      unfold wpList at h ⊢
      split at h
      · rename_i hw
        rw [if_pos hw]
        rcases h with h | h
        · exact .inl (wp_only2 (fun a w h => ⟨rfl, hK _ _ h.2⟩) h)
        · exact absurd h.2 only_lets
      · rename_i hw
        rw [if_neg hw]
        exact ⟨rfl, hK _ _ h.2⟩
    refine mono _ _ _ _ ?_ hstep
    rintro a' w2 ⟨⟨v, rfl, hv⟩, hW2⟩
    cases hd : o.dst with
    | none =>
      refine ⟨vs, ?_, fun x hx hdx => ?_, hW2⟩
      · show putD ds D vs a0 = _
        refine putD_same _ fun x hx => ⟨?_, rfl⟩
        have hne : x.1 ≠ i := fun e => hout i o ho hd (e ▸ List.mem_map.2 ⟨x, hx, rfl⟩)
        simp [hne]
      · have hne : x.1 ≠ i := fun e => hout i o ho hd (e ▸ List.mem_map.2 ⟨x, hx, rfl⟩)
        simp [hne] at hdx
        exact hP x hx hdx
    | some s =>
      have hm := hin i o s ho hd
      refine ⟨fun j => if j = i then v else vs j, putD_put v a0 hm n1 n2 hD, fun x hx hdx => ?_, hW2⟩
      by_cases e : x.1 = i
      · simp only [e, if_true]
        exact hv (by rw [hd]; simp)
      · simp only [e, if_false]
        simp [e] at hdx
        exact hP x hx hdx
  · rintro D a w' hall ⟨vs, rfl, hP, hW⟩
    rw [all D vs ds a0 fun x hx => hall _ (hlen x hx)]
    exact hend vs D w' hall (fun x hx => hP x hx (hall _ (hlen x hx))) hW
end Go.Proofs.Ytknbcmildpmokaa

/- A drawn region of whose operations each yields some value with a property of its own, which speaks of the world. -/
namespace Go.Proofs.Ytknbcmildpmokaa
open Go.RowKit Go.Shelf

/-- Each operation yields a value with its property, whatever the order; the world's word says what has been done. -/
theorem region_predW {rid : Nat} {Q : Exit → Act → World → Prop} {a0 : Act} {w : World} {l : List Oper} (hlow : lowB l = true) (ds : List (Nat × Nat)) (Pred : Nat → Value → World → Prop) (WO : (Nat → Bool) → World → Prop) (R : World → World → Prop) (hst : ∀ j v w1 w2, Pred j v w1 → R w1 w2 → Pred j v w2)
    (n1 : (ds.map Prod.fst).Nodup) (n2 : (ds.map Prod.snd).Nodup) (hsz : ∀ x ∈ ds, x.2 < a0.tmps.size) (hin : ∀ i o s, l[i]? = some o → o.dst = some s → (i, s) ∈ ds) (hout : ∀ i o, l[i]? = some o → o.dst = none → i ∉ ds.map Prod.fst)
    (hlen : ∀ x ∈ ds, x.1 < l.length) (h0 : WO (fun _ => false) w.drew)
    (hs : ∀ D i o (ρ : Act) w', (∀ i o, l[i]? = some o → D i = true → ∀ e ∈ o.after, Region.binds .any e = true → D e.on = true) → l[i]? = some o → D i = false → (∀ e ∈ o.after, Region.binds .any e = true → D e.on = true) →
      (∀ j s, (j, s) ∈ ds → D j = true → Pred j (ρ.eval (.tmp s)) w') → (∀ s, (∀ x ∈ ds, x.2 = s → D x.1 = false) → ρ.eval (.tmp s) = a0.eval (.tmp s)) → WO D w' →
      wpList Try.prog l.toArray (only fun a' w2 => (∃ v, a' = ρ.put o.dst v ∧ (o.dst ≠ none → Pred i v w2)) ∧ R w' w2 ∧ WO (fun j => j == i || D j) w2) [o] ρ w')
    (hend : ∀ (vs : Nat → Value) D w', (∀ j, j < l.length → D j = true) → (∀ x ∈ ds, Pred x.1 (vs x.1) w') → WO D w' → Q .normal (ds.foldl (fun a x => a.put (some x.2) (vs x.1)) a0) w') : (Code.region rid l.toArray true).wp Try.prog Q a0 w := by
  have wait : ∀ (D : Nat → Bool) (vs : Nat → Value) (s : Nat) (ds : List (Nat × Nat)) (a0 : Act), (∀ x ∈ ds, x.2 = s → D x.1 = false) → (putD ds D vs a0).eval (.tmp s) = a0.eval (.tmp s) := by
    intro D vs s ds
    induction ds with
    | nil => intro a0 _; rfl
    | cons x ds ih =>
      intro a0 h
      rw [putD_cons, ih _ fun y hy => h y (by simp [hy])]
      split
      · rename_i hd
        exact eval_put_ne _ (fun e => by rw [h x (by simp) e] at hd; cases hd) _
      · rfl
  have all : ∀ (D : Nat → Bool) (vs : Nat → Value) (ds : List (Nat × Nat)) (a0 : Act), (∀ x ∈ ds, D x.1 = true) → putD ds D vs a0 = ds.foldl (fun a x => a.put (some x.2) (vs x.1)) a0 := by
    intro D vs ds
    induction ds with
    | nil => intro a0 _; rfl
    | cons x ds ih =>
      intro a0 h
      rw [putD_cons, h x (by simp), if_pos rfl]
      exact ih _ fun y hy => h y (by simp [hy])
  refine region_inv hlow (fun D a w' => ∃ vs, a = putD ds D vs a0 ∧ (∀ x ∈ ds, D x.1 = true → Pred x.1 (vs x.1) w') ∧ WO D w') ⟨fun _ => undef, (putD_none _ _ _).symm, fun x _ h => (by cases h), h0⟩ ?_ ?_
  · rintro D a w' i o hcl ho hD hdep ⟨vs, rfl, hP, hW⟩
    have hstep := hs D i o (putD ds D vs a0) w' hcl ho hD hdep (fun j s hj hd => by rw [putD_new a0 hj n2 hd (hsz _ hj)]; exact hP _ hj hd) (fun s h => wait D vs s ds a0 h) hW
    have mono : ∀ (K K' : Act → World → Prop) (a : Act) (w : World), (∀ a w, K a w → K' a w) → wpList Try.prog l.toArray (only K) [o] a w → wpList Try.prog l.toArray (only K') [o] a w := by
      intro K K' a w hK h
      unfold wpList at h ⊢
      split at h
      · rename_i hw
        rw [if_pos hw]
        rcases h with h | h
        · exact .inl (wp_only2 (fun a w h => ⟨rfl, hK _ _ h.2⟩) h)
        · exact absurd h.2 only_lets
      · rename_i hw
        rw [if_neg hw]
        exact ⟨rfl, hK _ _ h.2⟩
    refine mono _ _ _ _ ?_ hstep
    rintro a' w2 ⟨⟨v, rfl, hv⟩, hR, hW2⟩
    cases hd : o.dst with
    | none =>
      refine ⟨vs, ?_, fun x hx hdx => ?_, hW2⟩
      · show putD ds D vs a0 = _
        refine putD_same _ fun x hx => ⟨?_, rfl⟩
        have hne : x.1 ≠ i := fun e => hout i o ho hd (e ▸ List.mem_map.2 ⟨x, hx, rfl⟩)
        simp [hne]
      · have hne : x.1 ≠ i := fun e => hout i o ho hd (e ▸ List.mem_map.2 ⟨x, hx, rfl⟩)
        simp [hne] at hdx
        exact hst _ _ _ _ (hP x hx hdx) hR
    | some s =>
      have hm := hin i o s ho hd
      refine ⟨fun j => if j = i then v else vs j, putD_put v a0 hm n1 n2 hD, fun x hx hdx => ?_, hW2⟩
      by_cases e : x.1 = i
      · simp only [e, if_true]
        exact hv (by rw [hd]; simp)
      · simp only [e, if_false]
        simp [e] at hdx
        exact hst _ _ _ _ (hP x hx hdx) hR
  · rintro D a w' hall ⟨vs, rfl, hP, hW⟩
    rw [all D vs ds a0 fun x hx => hall _ (hlen x hx)]
    exact hend vs D w' hall (fun x hx => hP x hx (hall _ (hlen x hx))) hW
end Go.Proofs.Ytknbcmildpmokaa

/- Single operations under a frame that is not written out. -/
namespace Go.Proofs.Ytknbcmildpmokaa
open Go.RowKit Go.Shelf

section
variable {ops : Array Oper} {o : Oper} {a : Act} {w : World} {K : Act → World → Prop} {x y z : Operand}
theorem step_val (hg : o.guard = none) (v : Value) (hrun : (execOp a.eval o).run Try.prog w = .ok (.value v) w) (h : K (a.put o.dst v) w) : wpList Try.prog ops (only K) [o] a w := step_run hg v w hrun h
theorem run_add (hop : o.op = .binOp .add 3 x y 3) {A B C : Int} (hx : a.eval x = .int .i64 A) (hy : a.eval y = .int .i64 B) (hC : A + B = C) (h1 : -9000000000000000000 ≤ C) (h2 : C ≤ 9000000000000000000) : (execOp a.eval o).run Try.prog w = .ok (.value (.int .i64 C)) w := by
  have e : IntKind.i64.wrap (A + B) = C := by rw [hC]; exact IntWalk.i64_in _ (by omega)
  simp only [execOp, hop, hx, hy]
  rw [← e]; rfl
theorem run_sub (hop : o.op = .binOp .sub 3 x y 3) {A B C : Int} (hx : a.eval x = .int .i64 A) (hy : a.eval y = .int .i64 B) (hC : A - B = C) (h1 : -9000000000000000000 ≤ C) (h2 : C ≤ 9000000000000000000) : (execOp a.eval o).run Try.prog w = .ok (.value (.int .i64 C)) w := by
  have e : IntKind.i64.wrap (A - B) = C := by rw [hC]; exact IntWalk.i64_in _ (by omega)
  simp only [execOp, hop, hx, hy]
  rw [← e]; rfl
theorem run_mul (hop : o.op = .binOp .mul 3 x y 3) {A B C : Int} (hx : a.eval x = .int .i64 A) (hy : a.eval y = .int .i64 B) (hC : A * B = C) (h1 : -9000000000000000000 ≤ C) (h2 : C ≤ 9000000000000000000) : (execOp a.eval o).run Try.prog w = .ok (.value (.int .i64 C)) w := by
  have e : IntKind.i64.wrap (A * B) = C := by rw [hC]; exact IntWalk.i64_in _ (by omega)
  simp only [execOp, hop, hx, hy]
  rw [← e]; rfl
theorem run_load3 (hop : o.op = .load 3 x) {b k : Nat} (hx : a.eval x = .pointer (some ⟨b, k, none⟩)) {v : Value} (hc : w.cell? ⟨b, k, none⟩ = some v) : (execOp a.eval o).run Try.prog w = .ok (.value v) w := by
  simp only [execOp, hop, hx]
  go_simp
  done
theorem run_extract (i : Nat) (hop : o.op = .extract x i) {vs : Array Value} {v : Value} (hx : a.eval x = .tuple vs) (hv : vs[i]? = some v) : (execOp a.eval o).run Try.prog w = .ok (.value v) w := by
  simp only [execOp, hop, hx, Instr.extract, hv]
  go_simp
  done
end
section
variable {w : World}
theorem range2 {b k : Nat} {cs : Array Value} {T : TypeId} {x y : Value} (h : w.heap[b]? = some (.cells cs T)) (h1 : cs[k]? = some x) (h2 : cs[k + 1]? = some y) : w.rangeAt b k [x, y] := by
  intro j v hj
  rw [cellsAt h]
  match j, hj with
  | 0, hj => rw [← hj]; exact h1
  | 1, hj => rw [← hj]; exact h2
  | j + 2, hj => simp at hj
end
end Go.Proofs.Ytknbcmildpmokaa

/- A drawn region by one word on what has been done, what each operation has yielded, and the world. -/
namespace Go.Proofs.Ytknbcmildpmokaa
open Go.RowKit Go.Shelf

theorem wpList_mono1 {P : Program} {ops : Array Oper} {o : Oper} {a : Act} {w : World} {K K' : Act → World → Prop} (hK : ∀ a w, K a w → K' a w) (h : wpList P ops (only K) [o] a w) : wpList P ops (only K') [o] a w := by
  unfold wpList at h ⊢
  split at h
  · rename_i hw
    rw [if_pos hw]
    rcases h with h | h
    · exact .inl (wp_only2 (fun a w h => ⟨rfl, hK _ _ h.2⟩) h)
    · exact absurd h.2 only_lets
  · rename_i hw
    rw [if_neg hw]
    exact ⟨rfl, hK _ _ h.2⟩

/-- WO: the word. It speaks of what has been done (D), of what each operation has yielded (vs), and of the world. -/
theorem region_word {rid : Nat} {Q : Exit → Act → World → Prop} {a0 : Act} {w : World} {l : List Oper} (hlow : lowB l = true) (ds : List (Nat × Nat)) (WO : (Nat → Bool) → (Nat → Value) → World → Prop)
    (n1 : (ds.map Prod.fst).Nodup) (n2 : (ds.map Prod.snd).Nodup) (hsz : ∀ x ∈ ds, x.2 < a0.tmps.size) (hin : ∀ i o s, l[i]? = some o → o.dst = some s → (i, s) ∈ ds) (hout : ∀ i o, l[i]? = some o → o.dst = none → i ∉ ds.map Prod.fst)
    (hlen : ∀ x ∈ ds, x.1 < l.length) (h0 : WO (fun _ => false) (fun _ => undef) w.drew)
    (hs : ∀ D vs i o (ρ : Act) w', (∀ i o, l[i]? = some o → D i = true → ∀ e ∈ o.after, Region.binds .any e = true → D e.on = true) → l[i]? = some o → D i = false → (∀ e ∈ o.after, Region.binds .any e = true → D e.on = true) →
      (∀ j s, (j, s) ∈ ds → D j = true → ρ.eval (.tmp s) = vs j) → (∀ s, (∀ x ∈ ds, x.2 = s → D x.1 = false) → ρ.eval (.tmp s) = a0.eval (.tmp s)) → WO D vs w' →
      wpList Try.prog l.toArray (only fun a' w2 => ∃ v, a' = ρ.put o.dst v ∧ WO (fun j => j == i || D j) (fun j => if j = i then v else vs j) w2) [o] ρ w')
    (hend : ∀ (vs : Nat → Value) D w', (∀ j, j < l.length → D j = true) → WO D vs w' → Q .normal (ds.foldl (fun a x => a.put (some x.2) (vs x.1)) a0) w') : (Code.region rid l.toArray true).wp Try.prog Q a0 w := by
  have wait : ∀ (D : Nat → Bool) (vs : Nat → Value) (s : Nat) (ds : List (Nat × Nat)) (a0 : Act), (∀ x ∈ ds, x.2 = s → D x.1 = false) → (putD ds D vs a0).eval (.tmp s) = a0.eval (.tmp s) := by
    intro D vs s ds
    induction ds with
    | nil => intro a0 _; rfl
    | cons x ds ih =>
      intro a0 h
      rw [putD_cons, ih _ fun y hy => h y (by simp [hy])]
      split
      · rename_i hd
        exact eval_put_ne _ (fun e => by rw [h x (by simp) e] at hd; cases hd) _
      · rfl
  have all : ∀ (D : Nat → Bool) (vs : Nat → Value) (ds : List (Nat × Nat)) (a0 : Act), (∀ x ∈ ds, D x.1 = true) → putD ds D vs a0 = ds.foldl (fun a x => a.put (some x.2) (vs x.1)) a0 := by
    intro D vs ds
    induction ds with
    | nil => intro a0 _; rfl
    | cons x ds ih =>
      intro a0 h
      rw [putD_cons, h x (by simp), if_pos rfl]
      exact ih _ fun y hy => h y (by simp [hy])
  refine region_inv hlow (fun D a w' => ∃ vs, a = putD ds D vs a0 ∧ WO D vs w') ⟨fun _ => undef, (putD_none _ _ _).symm, h0⟩ ?_ ?_
  · rintro D a w' i o hcl ho hD hdep ⟨vs, rfl, hW⟩
    have hstep := hs D vs i o (putD ds D vs a0) w' hcl ho hD hdep (fun j s hj hd => putD_new a0 hj n2 hd (hsz _ hj)) (fun s h => wait D vs s ds a0 h) hW
    refine wpList_mono1 ?_ hstep
    rintro a' w2 ⟨v, rfl, hW2⟩
    cases hd : o.dst with
    | none =>
      refine ⟨fun j => if j = i then v else vs j, ?_, hW2⟩
      show putD ds D vs a0 = _
      refine putD_same _ fun x hx => ?_
      have hne : x.1 ≠ i := fun e => hout i o ho hd (e ▸ List.mem_map.2 ⟨x, hx, rfl⟩)
      exact ⟨by simp [hne], by simp [hne]⟩
    | some s =>
      have hm := hin i o s ho hd
      exact ⟨fun j => if j = i then v else vs j, putD_put v a0 hm n1 n2 hD, hW2⟩
  · rintro D a w' hall ⟨vs, rfl, hW⟩
    rw [all D vs ds a0 fun x hx => hall _ (hlen x hx)]
    exact hend vs D w' hall hW
end Go.Proofs.Ytknbcmildpmokaa

/- A drawn region that asks, one after the other, whether fixed results are what they are to be: each operation yields one known value, or a new block of known cells; what is guarded is wanted. -/
namespace Go.Proofs.Ytknbcmildpmokaa
open Go.RowKit Go.Shelf

/-- What an operation yields. -/
inductive Yld where
  | val (v : Value)
  | blk (n : Nat) (cs : Array Value) (t : TypeId)
def Yld.Is : Yld → Value → World → Prop
  | .val x, v, _ => v = x
  | .blk n cs t, v, w => ∃ b, v = .slice (some ⟨b, 0, none⟩) n n ∧ w.heap[b]? = some (.cells cs t)
theorem Yld.Is.mod {y : Yld} {v : Value} {w1 w2 : World} (h : y.Is v w1) (hm : Mod noB w1 w2) : y.Is v w2 := by
  cases y with
  | val x => exact h
  | blk n cs t => obtain ⟨b, h1, h2⟩ := h; exact ⟨b, h1, hm.at h2 id⟩

def waitsB (o : Oper) (j : Nat) : Bool := o.after.any fun e => Region.binds .any e && e.on == j
def slotsB (l : List Oper) (ds : List (Nat × Nat)) (n : Nat) : Bool :=
  decide (ds.map Prod.fst).Nodup && decide (ds.map Prod.snd).Nodup && ds.all (fun x => decide (x.2 < n) && decide (x.1 < l.length)) &&
  (List.range l.length).all (fun i => match l[i]? with | some o => (match o.dst with | some s => decide ((i, s) ∈ ds) | none => decide (i ∉ ds.map Prod.fst)) | none => true)
def Yld.isBool (y : Option Yld) (b : Bool) : Bool := match y with | some (.val (.bool c)) => c == b | _ => false
def guardsB (l : List Oper) (Y : List Yld) : Bool :=
  l.all fun o => match o.guard with
    | none => true
    | some (j, want) => waitsB o j && (match l[j]? with | some oj => oj.dst.isSome | none => false) && Yld.isBool Y[j]? want

theorem putD_all (ds : List (Nat × Nat)) (vs : Nat → Value) : ∀ a0 : Act, ds.foldl (fun a x => a.put (some x.2) (vs x.1)) a0 = putD ds (fun _ => true) vs a0 := by
  induction ds with
  | nil => intro a0; rfl
  | cons x ds ih => intro a0; rw [putD_cons, if_pos rfl, List.foldl_cons]; exact ih _
theorem putD_defers (ds : List (Nat × Nat)) (D : Nat → Bool) (vs : Nat → Value) : ∀ a0 : Act, (putD ds D vs a0).defers = a0.defers := by
  induction ds with
  | nil => intro a0; rfl
  | cons x ds ih => intro a0; rw [putD_cons, ih]; split <;> rfl
theorem eval_bool_at {ρ : Act} {s : Nat} {b : Bool} (h : ρ.eval (.tmp s) = .bool b) : ρ.tmps[s]? = some (.bool b) := by
  have h' : (ρ.tmps[s]?).getD undef = .bool b := by simpa [Act.eval] using h
  cases hs : ρ.tmps[s]? with
  | none => rw [hs] at h'; cases h'
  | some v => rw [hs] at h'; exact congrArg some h'
theorem wpList_strike {P : Program} {ops : Array Oper} {Q : Exit → Act → World → Prop} {o : Oper} {a : Act} {w : World} (hw : Region.wanted o (yielded ops a.tmps) = true) (h : wpList P ops Q [{ o with guard := none }] a w) : wpList P ops Q [o] a w := by
  unfold wpList at h ⊢
  rw [if_pos hw]
  rw [if_pos (show Region.wanted { o with guard := none } (yielded ops a.tmps) = true from rfl)] at h
  exact h

theorem wpList_mono1W {P : Program} {ops : Array Oper} {o : Oper} {a : Act} {w : World} {K K' : Act → World → Prop} (hK : ∀ a w, K a w → K' a w) (h : wpList P ops (only K) [o] a w) : wpList P ops (only K') [o] a w := by
  unfold wpList at h ⊢
  split at h
  · rename_i hw
    rw [if_pos hw]
    rcases h with h | h
    · exact .inl (wp_only2 (fun a w h => ⟨rfl, hK _ _ h.2⟩) h)
    · exact absurd h.2 only_lets
  · rename_i hw
    rw [if_neg hw]
    exact ⟨rfl, hK _ _ h.2⟩

theorem region_awake {rid n : Nat} {Q : Exit → Act → World → Prop} {a0 : Act} {w : World} {l : List Oper} (hlow : lowB l = true) (ds : List (Nat × Nat)) (hsz : a0.tmps.size = n) (hok : slotsB l ds n = true) (Y : List Yld) (hY : guardsB l Y = true)
    (hs : ∀ i o (ρ : Act) w', i < l.length → l[i]? = some o → Mod noB w w' → (∀ j s y, waitsB o j = true → (j, s) ∈ ds → Y[j]? = some y → y.Is (ρ.eval (.tmp s)) w') → (∀ s, s ∉ ds.map Prod.snd → ρ.eval (.tmp s) = a0.eval (.tmp s)) →
      wpList Try.prog l.toArray (only fun a' w2 => ∃ v, a' = ρ.put o.dst v ∧ Mod noB w' w2 ∧ ∃ y, Y[i]? = some y ∧ y.Is v w2) [{ o with guard := none }] ρ w')
    (hend : ∀ (a' : Act) w', a'.defers = a0.defers → a'.tmps.size = n → (∀ j s y, (j, s) ∈ ds → Y[j]? = some y → y.Is (a'.eval (.tmp s)) w') → Mod noB w w' → Q .normal a' w') : (Code.region rid l.toArray true).wp Try.prog Q a0 w := by
  simp only [slotsB, Bool.and_eq_true, decide_eq_true_eq, List.all_eq_true, List.mem_range] at hok
  obtain ⟨⟨⟨n1, n2⟩, n3⟩, n4⟩ := hok
  have hin : ∀ i o s, l[i]? = some o → o.dst = some s → (i, s) ∈ ds := fun i o s ho hd => by
    have := n4 i (List.getElem?_eq_some_iff.1 ho).1
    simpa [ho, hd] using this
  refine region_predW hlow ds (fun j v w => ∃ y, Y[j]? = some y ∧ y.Is v w) (fun _ w' => Mod noB w w') (fun w1 w2 => Mod noB w1 w2) (fun j v w1 w2 ⟨y, h1, h2⟩ hm => ⟨y, h1, h2.mod hm⟩) n1 n2 (fun x hx => by rw [hsz]; exact (n3 x hx).1) hin (fun i o ho hd => ?_) (fun x hx => (n3 x hx).2) (Mod.refl noB w).drew ?_ ?_
  · have := n4 i (List.getElem?_eq_some_iff.1 ho).1
    simpa [ho, hd] using this
  · intro D i o ρ w' hcl ho hD hdep hP hA hM
    have kn : ∀ j s y, waitsB o j = true → (j, s) ∈ ds → Y[j]? = some y → y.Is (ρ.eval (.tmp s)) w' := fun j s y hw hm hy => by
      obtain ⟨e, he, hb, hj⟩ : ∃ e ∈ o.after, Region.binds .any e = true ∧ e.on = j := by
        obtain ⟨k, hk, hh⟩ := Array.any_eq_true.1 hw
        simp only [Bool.and_eq_true, beq_iff_eq] at hh
        exact ⟨_, Array.getElem_mem hk, hh.1, hh.2⟩
      obtain ⟨y', h1, h2⟩ := hP j s hm (hj ▸ hdep e he hb)
      rw [hy] at h1
      obtain rfl := Option.some.inj h1
      exact h2
    have hst := hs i o ρ w' (List.getElem?_eq_some_iff.1 ho).1 ho hM kn (fun s hns => hA s fun x hx e => absurd (e ▸ List.mem_map.2 ⟨x, hx, rfl⟩ : s ∈ ds.map Prod.snd) hns)
    have hwant : Region.wanted o (yielded l.toArray ρ.tmps) = true := by
      have hg := List.all_eq_true.1 hY o (List.mem_of_getElem? ho)
      unfold Region.wanted
      cases hgu : o.guard with
      | none => rfl
      | some jw =>
        obtain ⟨j, want⟩ := jw
        simp only [hgu, Bool.and_eq_true] at hg
        obtain ⟨⟨g1, g2⟩, g3⟩ := hg
        cases hoj : l[j]? with
        | none => simp [hoj] at g2
        | some oj =>
          simp only [hoj] at g2
          obtain ⟨s, hds⟩ := Option.isSome_iff_exists.1 g2
          cases hyj : Y[j]? with
          | none => simp [hyj, Yld.isBool] at g3
          | some y =>
            rw [hyj] at g3
            unfold Yld.isBool at g3
            split at g3
            · rename_i _ c heq
              obtain rfl := Option.some.inj heq
              have hv := kn j s _ g1 (hin j oj s hoj hds) hyj
              have hc : c = want := by simpa using g3
              subst hc
              have := eval_bool_at hv
              simp only [yielded, List.getElem?_toArray, hoj, Option.bind_some, hds, this]
              simp
            · cases g3
    refine wpList_strike hwant (wpList_mono1W ?_ hst)
    rintro a' w2 ⟨v, rfl, hm, y, hy, hv⟩
    exact ⟨⟨v, rfl, fun _ => ⟨y, hy, hv⟩⟩, hm, hM.trans hm⟩
  · intro vs D w' hall hP hM
    rw [putD_all]
    refine hend _ w' (putD_defers _ _ _ _) (by rw [putD_size, hsz]) (fun j s y hm hy => ?_) hM
    rw [putD_new a0 hm n2 rfl (by rw [hsz]; exact (n3 _ hm).1)]
    obtain ⟨y', h1, h2⟩ := hP _ hm
    rw [hy] at h1
    obtain rfl := Option.some.inj h1
    exact h2
end Go.Proofs.Ytknbcmildpmokaa

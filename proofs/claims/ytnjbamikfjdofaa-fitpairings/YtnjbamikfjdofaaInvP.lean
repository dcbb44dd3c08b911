/- A drawn region of whose operations each yields some value with a property of its own. -/
import Derived.Test.YtnjbamikfjdofaaInv
set_option linter.unusedSimpArgs false
set_option linter.unusedVariables false
namespace Go.Proofs.Ytnjbamikfjdofaa
open Go.RowKit Go.Shelf

theorem wp_only2 {P : Program} {o : Oper} {a : Act} {w : World} {K : Act → World → Prop} {K1 K2 : Act → World → Prop} {Q : Exit → Act → World → Prop} (hK : ∀ a w, K1 a w → K2 a w) (hh : o.wp P a w K1 (only K)) : o.wp P a w K2 Q := by
  unfold Oper.wp at *
  generalize (execOp a.eval o).run P w = r at *
  cases r with
  | ok n w' =>
    cases n <;> simp only [Oper.upon] at hh ⊢ <;>
      first
        | exact hK _ _ hh
        | exact Calls.mono hh (fun e w'' he => by cases e <;> first | exact hK _ _ he | (cases he.1) | exact absurd he only_lets)
        | exact Rows.mono hh (fun _ _ he => hK _ _ he)
  | halt x w' => cases x <;> simp only [Oper.upon] at hh ⊢ <;> first | exact hh | (cases hh.1)

/-- Each operation yields a value with its property, whatever the order; the world's word says what has been done. -/
theorem region_pred {rid : Nat} {Q : Exit → Act → World → Prop} {a0 : Act} {w : World} {l : List Oper} (hlow : lowB l = true) (ds : List (Nat × Nat)) (Pred : Nat → Value → Prop) (WO : (Nat → Bool) → World → Prop)
    (n1 : (ds.map Prod.fst).Nodup) (n2 : (ds.map Prod.snd).Nodup) (hsz : ∀ x ∈ ds, x.2 < a0.tmps.size) (hin : ∀ i o s, l[i]? = some o → o.dst = some s → (i, s) ∈ ds) (hout : ∀ i o, l[i]? = some o → o.dst = none → i ∉ ds.map Prod.fst)
    (hlen : ∀ x ∈ ds, x.1 < l.length) (h0 : WO (fun _ => false) w.drew)
    (hs : ∀ D i o (ρ : Act) w', (∀ i o, l[i]? = some o → D i = true → ∀ e ∈ o.after, Region.binds .any e = true → D e.on = true) → l[i]? = some o → D i = false → (∀ e ∈ o.after, Region.binds .any e = true → D e.on = true) →
      (∀ j s, (j, s) ∈ ds → D j = true → Pred j (ρ.eval (.tmp s))) → (∀ s, (∀ x ∈ ds, x.2 = s → D x.1 = false) → ρ.eval (.tmp s) = a0.eval (.tmp s)) → WO D w' →
      wpList Try.prog l.toArray (only fun a' w2 => (∃ v, a' = ρ.put o.dst v ∧ (o.dst ≠ none → Pred i v)) ∧ WO (fun j => j == i || D j) w2) [o] ρ w')
    (hend : ∀ (vs : Nat → Value) D w', (∀ j, j < l.length → D j = true) → (∀ x ∈ ds, Pred x.1 (vs x.1)) → WO D w' → Q .normal (ds.foldl (fun a x => a.put (some x.2) (vs x.1)) a0) w') : (Code.region rid l.toArray true).wp Try.prog Q a0 w := by
  have wait : ∀ (D : Nat → Bool) (vs : Nat → Value) (s : Nat) (ds : List (Nat × Nat)) (a0 : Act), (∀ x ∈ ds, x.2 = s → D x.1 = false) → (putD ds D vs a0).eval (.tmp s) = a0.eval (.tmp s) := by
    intro D vs s ds
    induction ds with
    | nil => intro a0 _; rfl
    | cons x ds ih =>
      intro a0 h
      rw [putD_cons, ih _ fun y hy => h y (by simp [hy])]
      split
      · rename_i hd
        exact eval_put_ne _ (fun e => by rw [h x (by simp) e] at hd; cases hd) _
      · rfl
  have all : ∀ (D : Nat → Bool) (vs : Nat → Value) (ds : List (Nat × Nat)) (a0 : Act), (∀ x ∈ ds, D x.1 = true) → putD ds D vs a0 = ds.foldl (fun a x => a.put (some x.2) (vs x.1)) a0 := by
    intro D vs ds
    induction ds with
    | nil => intro a0 _; rfl
    | cons x ds ih =>
      intro a0 h
      rw [putD_cons, h x (by simp), if_pos rfl]
      exact ih _ fun y hy => h y (by simp [hy])
  refine region_inv hlow (fun D a w' => ∃ vs, a = putD ds D vs a0 ∧ (∀ x ∈ ds, D x.1 = true → Pred x.1 (vs x.1)) ∧ WO D w') ⟨fun _ => undef, (putD_none _ _ _).symm, fun x _ h => (by cases h), h0⟩ ?_ ?_
  · rintro D a w' i o hcl ho hD hdep ⟨vs, rfl, hP, hW⟩
    have hstep := hs D i o (putD ds D vs a0) w' hcl ho hD hdep (fun j s hj hd => by rw [putD_new a0 hj n2 hd (hsz _ hj)]; exact hP _ hj hd) (fun s h => wait D vs s ds a0 h) hW
    have mono : ∀ (K K' : Act → World → Prop) (a : Act) (w : World), (∀ a w, K a w → K' a w) → wpList Try.prog l.toArray (only K) [o] a w → wpList Try.prog l.toArray (only K') [o] a w := by
      intro K K' a w hK h
      unfold wpList at h ⊢
      split at h
      · rename_i hw
        rw [if_pos hw]
        rcases h with h | h
        · exact .inl (wp_only2 (fun a w h => ⟨rfl, hK _ _ h.2⟩) h)
        · exact absurd h.2 only_lets
      · rename_i hw
        rw [if_neg hw]
        exact ⟨rfl, hK _ _ h.2⟩
    refine mono _ _ _ _ ?_ hstep
    rintro a' w2 ⟨⟨v, rfl, hv⟩, hW2⟩
    cases hd : o.dst with
    | none =>
      refine ⟨vs, ?_, fun x hx hdx => ?_, hW2⟩
      · show putD ds D vs a0 = _
        refine putD_same _ fun x hx => ⟨?_, rfl⟩
        have hne : x.1 ≠ i := fun e => hout i o ho hd (e ▸ List.mem_map.2 ⟨x, hx, rfl⟩)
        simp [hne]
      · have hne : x.1 ≠ i := fun e => hout i o ho hd (e ▸ List.mem_map.2 ⟨x, hx, rfl⟩)
        simp [hne] at hdx
        exact hP x hx hdx
    | some s =>
      have hm := hin i o s ho hd
      refine ⟨fun j => if j = i then v else vs j, putD_put v a0 hm n1 n2 hD, fun x hx hdx => ?_, hW2⟩
      by_cases e : x.1 = i
      · simp only [e, if_true]
        exact hv (by rw [hd]; simp)
      · simp only [e, if_false]
        simp [e] at hdx
        exact hP x hx hdx
  · rintro D a w' hall ⟨vs, rfl, hP, hW⟩
    rw [all D vs ds a0 fun x hx => hall _ (hlen x hx)]
    exact hend vs D w' hall (fun x hx => hP x hx (hall _ (hlen x hx))) hW
end Go.Proofs.Ytnjbamikfjdofaa

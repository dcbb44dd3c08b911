/- What speaks of no seat: drawn regions and others each of whose operations yields a known value, with or without a store at the end. -/
import Derived.Test.YtknbcmildpmokaaGev
set_option linter.unusedSimpArgs false
set_option linter.unusedVariables false
namespace Go.Proofs.Ytknbcmildpmokaa
open Go Go.RowKit Go.Shelf

section
variable {o : Oper} {a : Act} {w : World} {x y z : Operand}
theorem run_move (hop : o.op = .move x) {v : Value} (hx : a.eval x = v) : (execOp a.eval o).run Try.prog w = .ok (.value v) w := by
  simp only [execOp, hop, hx]; rfl
theorem run_assign (hop : o.op = .assign x) {v : Value} (hx : a.eval x = v) : (execOp a.eval o).run Try.prog w = .ok (.value v) w := by
  simp only [execOp, hop, hx]; rfl
theorem run_pickF (hop : o.op = .pick x y z) {v : Value} (hx : a.eval x = .bool false) (hz : a.eval z = v) : (execOp a.eval o).run Try.prog w = .ok (.value v) w := by
  simp only [execOp, hop, hx, hz]
  rfl
theorem run_remN (hop : o.op = .binOp .rem 3 x y 3) {A : Int} {m t : Nat} (hx : a.eval x = .int .i64 A) (hy : a.eval y = .int .i64 (m : Int)) (h0 : ¬ m = 0) (hC : Int.tmod A (m : Int) = (t : Int)) (ht : t ≤ 9000000000000000000) : (execOp a.eval o).run Try.prog w = .ok (.value (.int .i64 (t : Int))) w := by
  have hw : IntKind.i64.wrap (t : Int) = (t : Int) := IntWalk.i64_in _ (by omega)
  simp only [execOp, hop, hx, hy]
  go_simp
  done

end
section
open Go.RowKit
variable {ops : Array Oper} {K : Act → World → Prop} {o : Oper} {a : Act} {w : World} {x y : Operand}
theorem step_loadRow (hg : o.guard = none) (ty : TypeId) (hop : o.op = .load ty x) (b : Nat) (hx : a.eval x = .pointer (some ⟨b, 0, none⟩)) (cs : Array Value) (t : TypeId) (d : TypeDesc) (hb : w.heap[b]? = some (.cells cs t))
    (hd : (match d with | .struct _ | .array _ _ => true | _ => false) = true) (hu : Try.prog.underlying ty = some d) (hi : (Try.prog.info? ty).map (·.size) = some cs.size) (h : K (a.put o.dst (.agg cs)) w) : wpList Try.prog ops (only K) [o] a w :=
  wpList_load_row hg ty x hop b hx t cs (0, 0) d hb hu (by cases d <;> exact hd) hi (wpList_nil ⟨rfl, h⟩)
theorem step_storeRow (hg : o.guard = none) (ty : TypeId) (hop : o.op = .store ty x y) (b : Nat) (cells : Array Value) (hx : a.eval x = .pointer (some ⟨b, 0, none⟩)) (hy : a.eval y = .agg cells) (t : TypeId) (old : Array Value) (hb : w.heap[b]? = some (.cells old t))
    (hi : (Try.prog.info? ty).map (·.size) = some cells.size) (hold : old.size = cells.size) (h1 : cells.all (·.oneCell') = true) (h : K (a.put o.dst undef) (w.putObj b (.cells cells t))) : wpList Try.prog ops (only K) [o] a w :=
  wpList_store_row hg ty x y hop b cells hx hy t old hb hi hold h1 (wpList_nil ⟨rfl, by rw [setRow_put hb]; exact h⟩)
end
def guardsC (l : List Oper) (C : Nat → Value) : Bool :=
  l.all fun o => match o.guard with
    | none => true
    | some (j, want) => waitsB o j && (match l[j]? with | some oj => oj.dst.isSome | none => false) && (match C j with | .bool c => c == want | _ => false)
/-- A drawn region, each of whose operations yields a known value. -/
theorem region_known {rid n : Nat} {Q : Exit → Act → World → Prop} {a0 : Act} {w : World} {l : List Oper} (hlow : lowB l = true) (ds : List (Nat × Nat)) (hsz : a0.tmps.size = n) (hok : slotsB l ds n = true) (C : Nat → Value) (hY : guardsC l C = true)
    (hs : ∀ i o (ρ : Act) w', i < l.length → l[i]? = some o → Mod noB w w' → (∀ j s, waitsB o j = true → (j, s) ∈ ds → ρ.eval (.tmp s) = C j) → (∀ s, s ∉ ds.map Prod.snd → ρ.eval (.tmp s) = a0.eval (.tmp s)) →
      wpList Try.prog l.toArray (only fun a' w2 => a' = ρ.put o.dst (C i) ∧ Mod noB w' w2) [{ o with guard := none }] ρ w')
    (hend : ∀ w', Mod noB w w' → Q .normal (ds.foldl (fun a x => a.put (some x.2) (C x.1)) a0) w') : (Code.region rid l.toArray true).wp Try.prog Q a0 w := by
  simp only [slotsB, Bool.and_eq_true, decide_eq_true_eq, List.all_eq_true, List.mem_range] at hok
  obtain ⟨⟨⟨n1, n2⟩, n3⟩, n4⟩ := hok
  have hin : ∀ i o s, l[i]? = some o → o.dst = some s → (i, s) ∈ ds := fun i o s ho hd => by
    have := n4 i (List.getElem?_eq_some_iff.1 ho).1
    simpa [ho, hd] using this
  refine region_predW hlow ds (fun j v w => v = C j) (fun _ w' => Mod noB w w') (fun w1 w2 => Mod noB w1 w2) (fun j v w1 w2 h hm => h) n1 n2 (fun x hx => by rw [hsz]; exact (n3 x hx).1) hin (fun i o ho hd => ?_) (fun x hx => (n3 x hx).2) (Mod.refl noB w).drew ?_ ?_
  · have := n4 i (List.getElem?_eq_some_iff.1 ho).1
    simpa [ho, hd] using this
  · intro D i o ρ w' hcl ho hD hdep hP hA hM
    have kn : ∀ j s, waitsB o j = true → (j, s) ∈ ds → ρ.eval (.tmp s) = C j := fun j s hw hm => by
      obtain ⟨e, he, hb, hj⟩ : ∃ e ∈ o.after, Region.binds .any e = true ∧ e.on = j := by
        obtain ⟨k, hk, hh⟩ := Array.any_eq_true.1 hw
        simp only [Bool.and_eq_true, beq_iff_eq] at hh
        exact ⟨_, Array.getElem_mem hk, hh.1, hh.2⟩
      exact hP j s hm (hj ▸ hdep e he hb)
    have hst := hs i o ρ w' (List.getElem?_eq_some_iff.1 ho).1 ho hM kn (fun s hns => hA s fun x hx e => absurd (e ▸ List.mem_map.2 ⟨x, hx, rfl⟩ : s ∈ ds.map Prod.snd) hns)
    have hwant : Region.wanted o (yielded l.toArray ρ.tmps) = true := by
      have hg := List.all_eq_true.1 hY o (List.mem_of_getElem? ho)
      unfold Region.wanted
      cases hgu : o.guard with
      | none => rfl
      | some jw =>
        obtain ⟨j, want⟩ := jw
        simp only [hgu, Bool.and_eq_true] at hg
        obtain ⟨⟨g1, g2⟩, g3⟩ := hg
        cases hoj : l[j]? with
        | none => simp [hoj] at g2
        | some oj =>
          simp only [hoj] at g2
          obtain ⟨s, hds⟩ := Option.isSome_iff_exists.1 g2
          have hv := kn j s g1 (hin j oj s hoj hds)
          split at g3
          · rename_i c heq
            rw [heq] at hv
            have hc : c = want := by simpa using g3
            subst hc
            have := eval_bool_at hv
            simp only [yielded, List.getElem?_toArray, hoj, Option.bind_some, hds, this]
            simp
          · cases g3
    refine wpList_strike hwant (wpList_mono1W ?_ hst)
    rintro a' w2 ⟨rfl, hm⟩
    exact ⟨⟨C i, rfl, fun _ => rfl⟩, hm, hM.trans hm⟩
  · intro vs D w' hall hP hM
    have e : ∀ (ds' : List (Nat × Nat)) (a : Act), (∀ x ∈ ds', x ∈ ds) → ds'.foldl (fun a x => a.put (some x.2) (vs x.1)) a = ds'.foldl (fun a x => a.put (some x.2) (C x.1)) a := by
      intro ds'
      induction ds' with
      | nil => intro a _; rfl
      | cons x ds' ih =>
        intro a hx
        simp only [List.foldl_cons]
        rw [hP x (hx x (by simp))]
        exact ih _ fun y hy => hx y (by simp [hy])
    rw [e ds a0 fun x hx => hx]
    exact hend w' hM
theorem anc_done {l : List Oper} {D : Nat → Bool} (hc : ∀ i o, l[i]? = some o → D i = true → ∀ e ∈ o.after, Region.binds .any e = true → D e.on = true) : ∀ (f i j : Nat), D i = true → ancB l f i j = true → D j = true := by
  intro f
  induction f with
  | zero => intro i j hi h; simp only [ancB, beq_iff_eq] at h; exact h ▸ hi
  | succ f ih =>
    intro i j hi h
    simp only [ancB, Bool.or_eq_true, beq_iff_eq] at h
    rcases h with h | h
    · exact h ▸ hi
    · cases ho : l[i]? with
      | none => rw [ho] at h; cases h
      | some o =>
        rw [ho] at h
        simp only [List.any_eq_true, Bool.and_eq_true] at h
        obtain ⟨e, he, hb, ha⟩ := h
        exact ih _ _ (hc i o ho hi e (by simpa using he) hb) ha
theorem region_knownS {rid n : Nat} {Q : Exit → Act → World → Prop} {a0 : Act} {w : World} {l : List Oper} (hlow : lowB l = true) (ds : List (Nat × Nat)) (hsz : a0.tmps.size = n) (hok : slotsB l ds n = true) (C : Nat → Value) (hY : guardsC l C = true)
    (L : Nat) (oL : Oper) (hL : l[L]? = some oL) (hlen : l.length = L + 1) (hdst : oL.dst = none) (hgL : oL.guard = none) (hlast : coverB l L = true) (p : Addr) (x : Value)
    (hs : ∀ i o (ρ : Act) w', i < L → l[i]? = some o → Mod noB w w' → (∀ j s, waitsB o j = true → (j, s) ∈ ds → ρ.eval (.tmp s) = C j) → (∀ s, s ∉ ds.map Prod.snd → ρ.eval (.tmp s) = a0.eval (.tmp s)) →
      wpList Try.prog l.toArray (only fun a' w2 => a' = ρ.put o.dst (C i) ∧ Mod noB w' w2) [{ o with guard := none }] ρ w')
    (hst : ∀ (ρ : Act) w', Mod noB w w' → (∀ j s, waitsB oL j = true → (j, s) ∈ ds → ρ.eval (.tmp s) = C j) → (∀ s, s ∉ ds.map Prod.snd → ρ.eval (.tmp s) = a0.eval (.tmp s)) →
      wpList Try.prog l.toArray (only fun a' w2 => a' = ρ.put oL.dst undef ∧ w2 = w'.setCell p x) [oL] ρ w')
    (hend : ∀ w', Mod noB w w' → Q .normal (ds.foldl (fun a x => a.put (some x.2) (C x.1)) a0) (w'.setCell p x)) : (Code.region rid l.toArray true).wp Try.prog Q a0 w := by
  simp only [slotsB, Bool.and_eq_true, decide_eq_true_eq, List.all_eq_true, List.mem_range] at hok
  obtain ⟨⟨⟨n1, n2⟩, n3⟩, n4⟩ := hok
  have hin : ∀ i o s, l[i]? = some o → o.dst = some s → (i, s) ∈ ds := fun i o s ho hd => by
    have := n4 i (List.getElem?_eq_some_iff.1 ho).1
    simpa [ho, hd] using this
  refine region_predW hlow ds (fun j v w => v = C j) (fun D w' => if D L = true then ∃ w1, Mod noB w w1 ∧ w' = w1.setCell p x else Mod noB w w') (fun _ _ => True) (fun j v w1 w2 h hm => h) n1 n2 (fun x hx => by rw [hsz]; exact (n3 x hx).1) hin (fun i o ho hd => ?_) (fun x hx => (n3 x hx).2) (by rw [if_neg (by simp)]; exact (Mod.refl noB w).drew) ?_ ?_
  · have := n4 i (List.getElem?_eq_some_iff.1 ho).1
    simpa [ho, hd] using this
  · intro D i o ρ w' hcl ho hD hdep hP hA hW
    have kn : ∀ j s, waitsB o j = true → (j, s) ∈ ds → ρ.eval (.tmp s) = C j := fun j s hw hm => by
      obtain ⟨e, he, hb, hj⟩ : ∃ e ∈ o.after, Region.binds .any e = true ∧ e.on = j := by
        obtain ⟨k, hk, hh⟩ := Array.any_eq_true.1 hw
        simp only [Bool.and_eq_true, beq_iff_eq] at hh
        exact ⟨_, Array.getElem_mem hk, hh.1, hh.2⟩
      exact hP j s hm (hj ▸ hdep e he hb)
    have far : ∀ s, s ∉ ds.map Prod.snd → ρ.eval (.tmp s) = a0.eval (.tmp s) := fun s hns => hA s fun x hx e => absurd (e ▸ List.mem_map.2 ⟨x, hx, rfl⟩ : s ∈ ds.map Prod.snd) hns
    by_cases hi : i = L
    · subst hi
      obtain rfl := Option.some.inj (hL.symm.trans ho)
      rw [if_neg (by rw [hD]; simp)] at hW
      refine wpList_mono1W ?_ (hst ρ w' hW kn far)
      rintro a' w2 ⟨rfl, rfl⟩
      exact ⟨⟨undef, rfl, fun h => absurd hdst h⟩, trivial, by rw [if_pos (by simp)]; exact ⟨w', hW, rfl⟩⟩
    · have hDL : D L = false := by
        cases h : D L with
        | false => rfl
        | true =>
          have hil : i < L := by have := (List.getElem?_eq_some_iff.1 ho).1; omega
          have hl := hlast
          simp only [coverB, hL] at hl
          have := List.all_eq_true.1 hl i (List.mem_range.2 hil)
          obtain ⟨e, he, hh⟩ := List.any_eq_true.1 this
          rw [Bool.and_eq_true] at hh
          have := anc_done hcl _ _ _ (hcl L oL hL h e (by simpa using he) hh.1) hh.2
          rw [hD] at this
          cases this
      rw [if_neg (by rw [hDL]; simp)] at hW
      have hil : i < L := by have := (List.getElem?_eq_some_iff.1 ho).1; omega
      have hst2 := hs i o ρ w' hil ho hW kn far
      have hwant : Region.wanted o (yielded l.toArray ρ.tmps) = true := by
        have hg := List.all_eq_true.1 hY o (List.mem_of_getElem? ho)
        unfold Region.wanted
        cases hgu : o.guard with
        | none => rfl
        | some jw =>
          obtain ⟨j, want⟩ := jw
          simp only [hgu, Bool.and_eq_true] at hg
          obtain ⟨⟨g1, g2⟩, g3⟩ := hg
          cases hoj : l[j]? with
          | none => simp [hoj] at g2
          | some oj =>
            simp only [hoj] at g2
            obtain ⟨s, hds⟩ := Option.isSome_iff_exists.1 g2
            have hv := kn j s g1 (hin j oj s hoj hds)
            split at g3
            · rename_i c heq
              rw [heq] at hv
              have hc : c = want := by simpa using g3
              subst hc
              have := eval_bool_at hv
              simp only [yielded, List.getElem?_toArray, hoj, Option.bind_some, hds, this]
              simp
            · cases g3
      refine wpList_strike hwant (wpList_mono1W ?_ hst2)
      rintro a' w2 ⟨rfl, hm⟩
      have hne : (L == i) = false := by simp; omega
      exact ⟨⟨C i, rfl, fun _ => rfl⟩, trivial, by rw [if_neg (by simp [hne, hDL])]; exact hW.trans hm⟩
  · intro vs D w' hall hP hW
    have e : ∀ (ds' : List (Nat × Nat)) (a : Act), (∀ x ∈ ds', x ∈ ds) → ds'.foldl (fun a x => a.put (some x.2) (vs x.1)) a = ds'.foldl (fun a x => a.put (some x.2) (C x.1)) a := by
      intro ds'
      induction ds' with
      | nil => intro a _; rfl
      | cons x ds' ih =>
        intro a hx
        simp only [List.foldl_cons]
        rw [hP x (hx x (by simp))]
        exact ih _ fun y hy => hx y (by simp [hy])
    rw [e ds a0 fun x hx => hx]
    rw [if_pos (hall L (by omega))] at hW
    obtain ⟨w1, hm, rfl⟩ := hW
    exact hend w1 hm
/-- A number is stored in a cell that is there. -/
theorem step_store3 {ops : Array Oper} {K : Act → World → Prop} {o : Oper} {a : Act} {w : World} {x y : Operand} (hg : o.guard = none) (hop : o.op = .store 3 x y) {b k : Nat} (hx : a.eval x = .pointer (some ⟨b, k, none⟩)) {v : Int} (hy : a.eval y = .int .i64 v) {cs : Array Value} {t : TypeId} {u : Value} (hb : w.heap[b]? = some (.cells cs t)) (hu : cs[k]? = some u) (h : K (a.put o.dst undef) (w.setCell ⟨b, k, none⟩ (.int .i64 v))) : wpList Try.prog ops (only K) [o] a w := by
  refine wpList_plain hg fun K' hK => ?_
  have c0 : w.cell? ⟨b, k, none⟩ = some u := (cellsAt hb k).trans hu
  have f0 := frozen_at hb k
  unfold Oper.wp
  simp only [execOp, hop, hx, hy]
  go_simp
  exact hK _ _ ⟨rfl, h⟩
theorem wpList_front {P : Program} {ops : Array Oper} {Q : Exit → Act → World → Prop} {o : Oper} {rest : List Oper} {a : Act} {w : World} (h : wpList P ops (only fun a' w' => wpList P ops Q rest a' w') [o] a w) : wpList P ops Q (o :: rest) a w := by
  unfold wpList at h ⊢
  split at h
  · rename_i hw
    rw [if_pos hw]
    rcases h with h | h
    · exact .inl (wp_only2 (fun a w h => h.2) h)
    · exact absurd h.2 only_lets
  · rename_i hw
    rw [if_neg hw]
    exact h.2
def dsOf : Nat → List Oper → List (Nat × Nat)
  | _, [] => []
  | k, o :: l => (match o.dst with | some s => [(k, s)] | none => []) ++ dsOf (k + 1) l
theorem put_far (a : Act) (o : Option Nat) (v : Value) {t : Nat} (h : o ≠ some t) : (a.put o v).eval (.tmp t) = a.eval (.tmp t) := by
  cases o with
  | none => rfl
  | some s => exact eval_put_ne _ (fun e => h (by rw [e])) _
theorem put_sizeO (a : Act) (o : Option Nat) (v : Value) : (a.put o v).tmps.size = a.tmps.size := by
  cases o with
  | none => rfl
  | some s => simp [Act.put]
theorem nodup_snd {ds : List (Nat × Nat)} (h : (ds.map Prod.snd).Nodup) {i j s : Nat} (h1 : (i, s) ∈ ds) (h2 : (j, s) ∈ ds) : i = j := by
  induction ds with
  | nil => cases h1
  | cons x ds ih =>
    simp only [List.map_cons, List.nodup_cons] at h
    rcases List.mem_cons.1 h1 with rfl | h1' <;> rcases List.mem_cons.1 h2 with e | h2'
    · rw [Prod.mk.injEq] at e; exact e.1.symm
    · exact absurd (List.mem_map.2 ⟨_, h2', rfl⟩) h.1
    · subst e; exact absurd (List.mem_map.2 ⟨_, h1', rfl⟩) h.1
    · exact ih h.2 h1' h2'
theorem nodup_fst {ds : List (Nat × Nat)} (h : (ds.map Prod.fst).Nodup) {i s t : Nat} (h1 : (i, s) ∈ ds) (h2 : (i, t) ∈ ds) : s = t := by
  induction ds with
  | nil => cases h1
  | cons x ds ih =>
    simp only [List.map_cons, List.nodup_cons] at h
    rcases List.mem_cons.1 h1 with rfl | h1' <;> rcases List.mem_cons.1 h2 with e | h2'
    · rw [Prod.mk.injEq] at e; exact e.2.symm
    · exact absurd (List.mem_map.2 ⟨_, h2', rfl⟩) h.1
    · subst e; exact absurd (List.mem_map.2 ⟨_, h1', rfl⟩) h.1
    · exact ih h.2 h1' h2'
theorem list_knownS {rid n : Nat} {Q : Exit → Act → World → Prop} {a0 : Act} {w : World} {l : List Oper} (ds : List (Nat × Nat)) (hsz : a0.tmps.size = n) (hok : slotsB l ds n = true) (hds : ds = dsOf 0 l) (hgd : l.all (fun o => o.guard.isNone) = true) (C : Nat → Value)
    (L : Nat) (oL : Oper) (hL : l[L]? = some oL) (hlen : l.length = L + 1) (hdst : oL.dst = none) (p : Addr) (x : Value)
    (hs : ∀ i o (ρ : Act) w', i < L → l[i]? = some o → Mod noB w w' → (∀ j s, j < i → (j, s) ∈ ds → ρ.eval (.tmp s) = C j) → (∀ s, s ∉ ds.map Prod.snd → ρ.eval (.tmp s) = a0.eval (.tmp s)) →
      wpList Try.prog l.toArray (only fun a' w2 => a' = ρ.put o.dst (C i) ∧ Mod noB w' w2) [{ o with guard := none }] ρ w')
    (hst : ∀ (ρ : Act) w', Mod noB w w' → (∀ j s, j < L → (j, s) ∈ ds → ρ.eval (.tmp s) = C j) → (∀ s, s ∉ ds.map Prod.snd → ρ.eval (.tmp s) = a0.eval (.tmp s)) →
      wpList Try.prog l.toArray (only fun a' w2 => a' = ρ.put oL.dst undef ∧ w2 = w'.setCell p x) [oL] ρ w')
    (hend : ∀ w', Mod noB w w' → Q .normal (ds.foldl (fun a x => a.put (some x.2) (C x.1)) a0) (w'.setCell p x)) : (Code.region rid l.toArray false).wp Try.prog Q a0 w := by
  simp only [slotsB, Bool.and_eq_true, decide_eq_true_eq, List.all_eq_true, List.mem_range] at hok
  obtain ⟨⟨⟨n1, n2⟩, n3⟩, n4⟩ := hok
  have hin : ∀ i o s, l[i]? = some o → o.dst = some s → (i, s) ∈ ds := fun i o s ho hd => by
    have := n4 i (List.getElem?_eq_some_iff.1 ho).1
    simpa [ho, hd] using this
  refine wp_region_lit ?_
  have aux : ∀ (rest : List Oper) (k : Nat) (ρ : Act) (w' : World), (∀ i, rest[i]? = l[k + i]?) → k ≤ L → Mod noB w w' → (∀ j s, j < k → (j, s) ∈ ds → ρ.eval (.tmp s) = C j) → (∀ s, s ∉ ds.map Prod.snd → ρ.eval (.tmp s) = a0.eval (.tmp s)) → ρ.tmps.size = n → (dsOf k rest).foldl (fun a x => a.put (some x.2) (C x.1)) ρ = ds.foldl (fun a x => a.put (some x.2) (C x.1)) a0 → wpList Try.prog l.toArray Q rest ρ w' := by
    intro rest
    induction rest with
    | nil =>
      intro k ρ w' hr hk
      have := hr 0
      rw [List.getElem?_nil, eq_comm, List.getElem?_eq_none_iff] at this
      omega
    | cons o rest ih =>
      intro k ρ w' hr hk hM kn far hz hfin
      have ho : l[k]? = some o := by have := hr 0; simpa using this.symm
      by_cases hkL : k = L
      · subst hkL
        obtain rfl := Option.some.inj (hL.symm.trans ho)
        have hre : rest = [] := by
          cases rest with
          | nil => rfl
          | cons o' rest' =>
            have := hr 1
            have h2 := (List.getElem?_eq_some_iff.1 (by simpa using this.symm : l[k + 1]? = some o')).1
            omega
        subst hre
        refine wpList_front (wpList_mono1W ?_ (hst ρ w' hM kn far))
        rintro a' w2 ⟨rfl, rfl⟩
        simp only [dsOf, hdst, List.nil_append, List.foldl_nil] at hfin
        rw [hdst]
        subst hfin
        exact hend w' hM
      · have hog : o.guard = none := by
          have := List.all_eq_true.1 hgd o (List.mem_of_getElem? ho)
          cases h : o.guard with
          | none => rfl
          | some y => rw [h] at this; cases this
        have he : ({ o with guard := none } : Oper) = o := by cases o; simp only at hog; rw [hog]
        have h1 := hs k o ρ w' (by omega) ho hM kn far
        rw [he] at h1
        refine wpList_front (wpList_mono1W ?_ h1)
        rintro a' w2 ⟨rfl, hm⟩
        refine ih (k + 1) _ w2 (fun i => by have := hr (i + 1); rw [List.getElem?_cons_succ] at this; rw [this]; congr 1; omega) (by omega) (hM.trans hm) (fun j s hj hm' => ?_) (fun s hns => ?_) (by rw [put_sizeO]; exact hz) ?_
        · by_cases hjk : j = k
          · subst hjk
            cases hd : o.dst with
            | none =>
              have := n4 j (List.getElem?_eq_some_iff.1 ho).1
              simp only [ho, hd] at this
              exact absurd (List.mem_map.2 ⟨_, hm', rfl⟩ : j ∈ ds.map Prod.fst) (of_decide_eq_true this)
            | some t =>
              have h2 := hin j o t ho hd
              obtain rfl := nodup_fst n1 hm' h2
              exact eval_put_eq _ (by rw [hz]; exact (n3 _ hm').1) _
          · rw [put_far _ _ _ (fun hd => hjk (nodup_snd n2 hm' (hin k o s ho hd)))]
            exact kn j s (by omega) hm'
        · rw [put_far _ _ _ (fun hd => hns (List.mem_map.2 ⟨_, hin k o s ho hd, rfl⟩))]
          exact far s hns
        · rw [← hfin]
          cases hd : o.dst with
          | none => simp only [dsOf, hd, List.nil_append]; rfl
          | some t => simp only [dsOf, hd, List.cons_append, List.nil_append, List.foldl_cons]
  exact aux l 0 a0 w (fun i => by rw [Nat.zero_add]) (Nat.zero_le _) (Mod.refl _ _) (fun j s hj => by omega) (fun s _ => rfl) hsz (by rw [← hds])
def tmpOf (a : Act) (i : Nat) : Value := a.tmps.getD i undef
theorem end_frame (F : (Nat → Value) → Act) (a : Act) (P : Prop) (h : a = F (tmpOf a)) (hp : P) : ∃ v, a = F v ∧ P := ⟨tmpOf a, h, hp⟩
theorem inBlock_only {id : Nat} {K : Act → World → Prop} {Q : Exit → Act → World → Prop} (h : ∀ a w, K a w → Q .normal a w) : ∀ e a w, Exit.inBlock id (only K) e a w → Exit.inBlock id Q e a w := by
  intro e a w hq
  cases e with
  | exit id' =>
    simp only [Exit.inBlock] at hq ⊢
    split at hq
    · rename_i he
      rw [if_pos he]
      exact h _ _ hq.2
    · exact absurd hq.1 (by simp)
  | normal => exact h _ _ hq.2
  | _ => exact absurd hq.1 (by simp)

theorem then_only {K K' : Act → World → Prop} {Q : Exit → Act → World → Prop} (h : ∀ a w, K a w → K' a w) : ∀ e a w, only K e a w → Exit.then K' Q e a w := by
  rintro e a w ⟨rfl, hk⟩
  exact h _ _ hk
theorem end_frame2 (F : (Nat → Value) → Act) (a : Act) (h : a = F (tmpOf a)) : ∃ v, a = F v := ⟨tmpOf a, h⟩

end Go.Proofs.Ytknbcmildpmokaa

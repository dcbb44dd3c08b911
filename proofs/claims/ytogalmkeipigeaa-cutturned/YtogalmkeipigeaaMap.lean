/- A map in memory that is known key by key: look-up, update, and that it lies on; for keys that are integers, bools, and pairs of integers. -/
import Derived.Test.YtogalmkeipigeaaProg
import Derived.WalkKit
import Derived.WalkSpells
import Derived.DeepKeys4
import Derived.RangeFuncRecord
import Derived.Maps.Own
set_option linter.unusedSimpArgs false
set_option linter.unusedVariables false
namespace Go.Proofs.Ytogalmkeipigeaa
open Go.RowKit Go.Maps Go.WideMaps

/-- Block b is a map: under key enc a it holds the integer that g a says, if there is one. -/
def MapIs {α : Type} (P : Program) (k : TypeId) (enc : α → Value) (w : World) (b : Nat) (g : α → Option Int) : Prop :=
  ∃ es clock, w.heap[b]? = some (.map es clock) ∧ (∀ e ∈ es.toList, ∃ l, keyOf P k e.key = some l) ∧
    (∀ (i j : Nat) (e f : MapEntry), es.toList[i]? = some e → es.toList[j]? = some f → e.key = f.key → i = j) ∧
    ∀ a, (∀ e ∈ es.toList, e.key = enc a → ∃ n, g a = some n ∧ e.val = .int .i64 n) ∧ ((∀ e ∈ es.toList, e.key ≠ enc a) → g a = none)

theorem MapIs.lt {α : Type} {P : Program} {k : TypeId} {enc : α → Value} {w : World} {b : Nat} {g : α → Option Int} (h : MapIs P k enc w b g) : b < w.heap.size := by
  obtain ⟨es, c, hb, _⟩ := h
  exact (Array.getElem?_eq_some_iff.1 hb).1

theorem MapIs.same {α : Type} {P : Program} {k : TypeId} {enc : α → Value} {w w' : World} {b : Nat} {g : α → Option Int} (h : MapIs P k enc w b g) (e : w'.heap[b]? = w.heap[b]?) : MapIs P k enc w' b g := by
  obtain ⟨es, c, hb, r⟩ := h
  exact ⟨es, c, e.trans hb, r⟩

theorem MapIs.alloc {α : Type} {P : Program} {k : TypeId} {enc : α → Value} {w : World} {b : Nat} {g : α → Option Int} (h : MapIs P k enc w b g) (o : Obj) : MapIs P k enc (w.alloc o) b g :=
  h.same (Below.heap_alloc w o b h.lt)

theorem MapIs.below {α : Type} {P : Program} {k : TypeId} {enc : α → Value} {w w' : World} {b B : Nat} {g : α → Option Int} (h : MapIs P k enc w b g) (hb : Below B w w') (hlt : b < B) : MapIs P k enc w' b g :=
  h.same (hb.block b hlt)

theorem MapIs.made {α : Type} (P : Program) (k : TypeId) (enc : α → Value) (w : World) : MapIs P k enc (w.alloc (.map #[] 0)) w.heap.size (fun _ => none) :=
  ⟨#[], 0, World.alloc_heap_new w _, by simp, by simp, fun a => ⟨by simp, fun _ => rfl⟩⟩

theorem MapIs.find {α : Type} {P : Program} {k : TypeId} {enc : α → Value} {w : World} {b : Nat} {g : α → Option Int} (h : MapIs P k enc w b g) (K : Keyed P k) {a : α} {l : Lit} (hk : keyOf P k (enc a) = some l) :
    ∃ es clock, w.heap[b]? = some (.map es clock) ∧
      ((g a = none ∧ (Instr.findKey k (enc a) es.toList).run P w = .ok none w ∧ ∀ e ∈ es.toList, e.key ≠ enc a) ∨
       ∃ n j e, g a = some n ∧ (Instr.findKey k (enc a) es.toList).run P w = .ok (some (j, .int .i64 n)) w ∧ es.toList[j]? = some e ∧ e.key = enc a ∧ e.val = .int .i64 n) := by
  obtain ⟨es, c, hb, hks, _, hg⟩ := h
  refine ⟨es, c, hb, ?_⟩
  rcases K.find w hk es.toList hks with ⟨h1, h2⟩ | ⟨j, e, h1, h2, h3⟩
  · exact .inl ⟨(hg a).2 h2, h1, h2⟩
  · obtain ⟨n, hn, hv⟩ := (hg a).1 e (List.mem_of_getElem? h2) h3
    exact .inr ⟨n, j, e, hn, by rw [h1, hv], h2, h3, hv⟩

/-- 'v, ok := m[k]' -/
theorem MapIs.look2 {α : Type} {P : Program} {k : TypeId} {enc : α → Value} {w : World} {b : Nat} {g : α → Option Int} (h : MapIs P k enc w b g) (K : Keyed P k) {a : α} {l : Lit} (hk : keyOf P k (enc a) = some l)
    {t e : TypeId} (ht : P.underlying t = some (.map k e)) (hz : (zeroValue e).run P w = .ok (.int .i64 0) w) :
    (Instr.lookup t (.map (some b)) (enc a) true).run P w = .ok (.tuple #[.int .i64 ((g a).getD 0), .bool (g a).isSome]) w := by
  obtain ⟨es, c, hb, ⟨hg, hf, _⟩ | ⟨n, j, e', hg, hf, _⟩⟩ := h.find K hk
  · have hget : (getObj b).run P w = .ok (.map es c) w := by simp [getObj, Sem.run, hb]
    unfold Instr.lookup
    simp [run_underlying ht, hget, K.check w _ hk, hf, hz, hg, Sem.run_bind, Result.andThen, Sem.run_pure]
  · have hget : (getObj b).run P w = .ok (.map es c) w := by simp [getObj, Sem.run, hb]
    unfold Instr.lookup
    simp [run_underlying ht, hget, K.check w _ hk, hf, hg, Sem.run_bind, Result.andThen, Sem.run_pure]

/-- 'm[k]' -/
theorem MapIs.look1 {α : Type} {P : Program} {k : TypeId} {enc : α → Value} {w : World} {b : Nat} {g : α → Option Int} (h : MapIs P k enc w b g) (K : Keyed P k) {a : α} {l : Lit} (hk : keyOf P k (enc a) = some l)
    {t e : TypeId} (ht : P.underlying t = some (.map k e)) (hz : (zeroValue e).run P w = .ok (.int .i64 0) w) :
    (Instr.lookup t (.map (some b)) (enc a) false).run P w = .ok (.int .i64 ((g a).getD 0)) w := by
  obtain ⟨es, c, hb, ⟨hg, hf, _⟩ | ⟨n, j, e', hg, hf, _⟩⟩ := h.find K hk
  · have hget : (getObj b).run P w = .ok (.map es c) w := by simp [getObj, Sem.run, hb]
    unfold Instr.lookup
    simp [run_underlying ht, hget, K.check w _ hk, hf, hz, hg, Sem.run_bind, Result.andThen, Sem.run_pure]
  · have hget : (getObj b).run P w = .ok (.map es c) w := by simp [getObj, Sem.run, hb]
    unfold Instr.lookup
    simp [run_underlying ht, hget, K.check w _ hk, hf, hg, Sem.run_bind, Result.andThen, Sem.run_pure]

/-- 'm[k] = v' -/
theorem MapIs.store {α : Type} [DecidableEq α] {P : Program} {k : TypeId} {enc : α → Value} {w : World} {b : Nat} {g : α → Option Int} (h : MapIs P k enc w b g) (K : Keyed P k) (inj : ∀ x y, enc x = enc y → x = y) {a : α} {l : Lit} (hk : keyOf P k (enc a) = some l)
    {t e : TypeId} (ht : P.underlying t = some (.map k e)) (v : Int) :
    ∃ o, (Instr.mapUpdate t (.map (some b)) (enc a) (.int .i64 v)).run P w = .ok () (w.putObj b o) ∧ MapIs P k enc (w.putObj b o) b (fun x => if x = a then some v else g x) := by
  have hlt := h.lt
  have hks := h
  obtain ⟨es0, c0, hb0, hkeys, huniq, hgs⟩ := hks
  obtain ⟨es, c, hb, hor⟩ := h.find K hk
  obtain ⟨rfl, rfl⟩ : es0 = es ∧ c0 = c := by rw [hb0] at hb; simpa using hb
  clear hb0
  have hget : (getObj b).run P w = .ok (.map es0 c0) w := by simp [getObj, Sem.run, hb]
  have hset : ∀ o, (setObj b o).run P w = .ok () (w.putObj b o) := fun o => by simp [setObj, Sem.run, hb, World.putObj]
  rcases hor with ⟨hg, hf, hno⟩ | ⟨n, j, e', hg, hf, hj, hkey, hval⟩
  · refine ⟨.map (es0.push { key := enc a, val := .int .i64 v, born := c0 }) (c0 + 1), ?_, ?_⟩
    · unfold Instr.mapUpdate
      simp [run_underlying ht, hget, K.check w _ hk, hf, hset, Sem.run_bind, Result.andThen, Sem.run_pure]
    · refine ⟨_, _, World.putObj_heap_same hlt, ?_, ?_, fun x => ⟨?_, ?_⟩⟩
      · intro e he
        simp at he
        rcases he with he | rfl
        · exact hkeys e (by simpa using he)
        · exact ⟨l, hk⟩
      · intro i j e f hi hj hef
        simp only [Array.toList_push] at hi hj
        rw [List.getElem?_append] at hi hj
        split at hi <;> split at hj
        · exact huniq i j e f hi hj hef
        · rename_i h1 h2
          have hf : f = { key := enc a, val := .int .i64 v, born := c0 } := by
            have := List.mem_of_getElem? hj
            simpa using this
          exact absurd (by rw [hef, hf]) (hno e (List.mem_of_getElem? hi))
        · rename_i h1 h2
          have he : e = { key := enc a, val := .int .i64 v, born := c0 } := by
            have := List.mem_of_getElem? hi
            simpa using this
          exact absurd (by rw [← hef, he]) (hno f (List.mem_of_getElem? hj))
        · have h1 := (List.getElem?_eq_some_iff.1 hi).1
          have h2 := (List.getElem?_eq_some_iff.1 hj).1
          simp only [List.length_append, List.length_cons, List.length_nil, Nat.not_lt] at *
          omega
      · intro e he hx
        simp at he
        rcases he with he | rfl
        · have hne : x ≠ a := fun hxa => hno e (by simpa using he) (by rw [hx, hxa])
          simpa [hne] using (hgs x).1 e (by simpa using he) hx
        · exact ⟨v, by simp [(inj _ _ hx).symm], rfl⟩
      · intro hall
        have hne : x ≠ a := fun hxa => hall { key := enc a, val := .int .i64 v, born := c0 } (by simp) (by rw [hxa])
        simp only [if_neg hne]
        exact (hgs x).2 (fun e he => hall e (by simp at he ⊢; exact .inl he))
  · have hj' : es0[j]? = some e' := by simpa using hj
    refine ⟨.map (es0.modify j fun e => { e with key := enc a, val := .int .i64 v }) c0, ?_, ?_⟩
    · unfold Instr.mapUpdate
      simp [run_underlying ht, hget, K.check w _ hk, hf, hset, hj', hkey, K.stays w hk, Sem.run_bind, Result.andThen, Sem.run_pure]
    · have hmem : ∀ e ∈ (es0.modify j fun e => { e with key := enc a, val := .int .i64 v }).toList, (e.key = enc a ∧ e.val = .int .i64 v) ∨ (e ∈ es0.toList ∧ ∃ i, i ≠ j ∧ es0.toList[i]? = some e) := by
        intro e he
        rw [Array.mem_toList_iff, Array.mem_iff_getElem] at he
        obtain ⟨i, hi, rfl⟩ := he
        rw [Array.getElem_modify]
        split
        · exact .inl ⟨rfl, rfl⟩
        · rename_i hne
          simp at hi
          exact .inr ⟨by simp, i, fun e => hne e.symm, by simp [hi]⟩
      have hin : ∀ e, (∃ i, i ≠ j ∧ es0.toList[i]? = some e) → e ∈ (es0.modify j fun e => { e with key := enc a, val := .int .i64 v }).toList := by
        rintro e ⟨i, hi, he⟩
        rw [Array.mem_toList_iff, Array.mem_iff_getElem]
        have hlt2 : i < es0.size := by
          have := List.getElem?_eq_some_iff.1 he
          simpa using this.1
        refine ⟨i, by simpa using hlt2, ?_⟩
        rw [Array.getElem_modify, if_neg (fun e => hi e.symm)]
        have := List.getElem?_eq_some_iff.1 he
        simpa using this.2
      have hown : ∃ e ∈ (es0.modify j fun e => { e with key := enc a, val := .int .i64 v }).toList, e.key = enc a := by
        have hlt2 : j < es0.size := (Array.getElem?_eq_some_iff.1 hj').1
        refine ⟨{ e' with key := enc a, val := .int .i64 v }, ?_, rfl⟩
        rw [Array.mem_toList_iff, Array.mem_iff_getElem]
        refine ⟨j, by simpa using hlt2, ?_⟩
        rw [Array.getElem_modify, if_pos rfl]
        have := (Array.getElem?_eq_some_iff.1 hj').2
        rw [this]
      have hat : ∀ (i : Nat) (e : MapEntry), (es0.modify j fun e => { e with key := enc a, val := .int .i64 v }).toList[i]? = some e → ∃ f : MapEntry, es0.toList[i]? = some f ∧ e.key = f.key := by
        intro i e hi
        have hi' : (es0.modify j fun e => { e with key := enc a, val := .int .i64 v })[i]? = some e := by rw [← Array.getElem?_toList]; exact hi
        obtain ⟨hlt3, he⟩ := Array.getElem?_eq_some_iff.1 hi'
        have hlt4 : i < es0.size := by simpa using hlt3
        refine ⟨es0[i], by simp [hlt4], ?_⟩
        rw [← he, Array.getElem_modify]
        split
        · rename_i hji
          subst hji
          have := (Array.getElem?_eq_some_iff.1 hj').2
          rw [this, hkey]
        · rfl
      refine ⟨_, _, World.putObj_heap_same hlt, ?_, ?_, fun x => ⟨?_, ?_⟩⟩
      · intro e he
        rcases hmem e he with ⟨h1, _⟩ | ⟨h1, _⟩
        · exact ⟨l, h1 ▸ hk⟩
        · exact hkeys e h1
      · intro i1 i2 e f hi1 hi2 hef
        obtain ⟨e1, h1, k1⟩ := hat i1 e hi1
        obtain ⟨e2, h2, k2⟩ := hat i2 f hi2
        exact huniq i1 i2 e1 e2 h1 h2 (by rw [← k1, ← k2, hef])
      · intro e he hx
        by_cases hxa : x = a
        · subst hxa
          simp only [if_true]
          rcases hmem e he with ⟨_, h2⟩ | ⟨h1, i, hi, hei⟩
          · exact ⟨v, rfl, h2⟩
          · exact absurd (huniq i j e e' hei hj (by rw [hx, hkey])) hi
        · simp only [if_neg hxa]
          rcases hmem e he with ⟨h1, _⟩ | ⟨h1, _⟩
          · exact absurd (inj _ _ (hx.symm.trans h1)) hxa
          · exact (hgs x).1 e h1 hx
      · intro hall
        by_cases hxa : x = a
        · subst hxa
          obtain ⟨e, he, hk2⟩ := hown
          exact absurd hk2 (hall e he)
        · simp only [if_neg hxa]
          refine (hgs x).2 (fun e he hx => ?_)
          by_cases hej : ∃ i, i ≠ j ∧ es0.toList[i]? = some e
          · exact hall e (hin e hej) hx
          · obtain ⟨i, hi⟩ := List.mem_iff_getElem?.1 he
            have hij : i = j := Classical.byContradiction fun hne => hej ⟨i, hne, hi⟩
            subst hij
            have : e = e' := by rw [hj] at hi; simpa using hi.symm
            subst this
            exact hxa (inj _ _ (hx.symm.trans hkey))


/-! ### the keys of this program -/
abbrev wf64 (n : Int) : Prop := (Lit.int .i64 n).wf = true
theorem wf64_of {n : Int} (h1 : -9223372036854775808 ≤ n) (h2 : n ≤ 9223372036854775807) : wf64 n := WalkArith.wf_i64 (by omega)

theorem laidOut : laidOutB Try.prog = true := by kernel_rfl
theorem row106 : (106 : TypeId) < Try.prog.types.size := of_decide_eq_true (by kernel_rfl)
theorem wide106 : (match Try.prog.underlying 106 with | some (.array _ _) | some (.struct _) => true | _ => false) = true := by kernel_rfl
set_option maxRecDepth 100000 in
theorem law106 : Keyed Try.prog 106 := Keyed.of_law (deep_law_laid laidOut (m := 2) (by omega) row106 (by kernel_rfl) wide106)
theorem law3 : Keyed Try.prog 3 := int_keyed Try.underlying3
theorem law4 : Keyed Try.prog 4 := bool_keyed Try.underlying4
@[reducible] def cellV (p : Int × Int) : Value := .agg #[.int .i64 p.1, .int .i64 p.2]
@[reducible] def intV (n : Int) : Value := .int .i64 n
@[reducible] def boolV (n : Bool) : Value := .bool n
theorem cellV_inj (a b : Int × Int) (h : cellV a = cellV b) : a = b := by
  simp [cellV] at h; exact Prod.ext h.1 h.2
theorem intV_inj (a b : Int) (h : intV a = intV b) : a = b := by simpa [intV] using h
theorem boolV_inj (a b : Bool) (h : boolV a = boolV b) : a = b := by simpa [boolV] using h
theorem key3 {n : Int} (h : wf64 n) : ∃ l, keyOf Try.prog 3 (intV n) = some l := ⟨_, keyOf_int_mk Try.underlying3 h⟩
theorem key4 (n : Bool) : ∃ l, keyOf Try.prog 4 (boolV n) = some l := ⟨_, keyOf_bool_mk Try.underlying4 n⟩
theorem keyType106 : Try.prog.keyType 106 = true := by kernel_rfl
theorem cells106 : Try.prog.cellsOf 106 = 2 := by kernel_rfl
theorem cells3 : Try.prog.cellsOf 3 = 1 := by kernel_rfl
theorem typesN : Try.prog.types.size = 161 := by kernel_rfl
set_option maxRecDepth 100000 in
theorem key106 {p : Int × Int} (h1 : wf64 p.1) (h2 : wf64 p.2) : ∃ l, keyOf Try.prog 106 (cellV p) = some l := by
  have hf : (cellV p).formed Try.prog 106 = true := by simp [Value.formed, Try.underlying106, cells106]
  have hc : (cellV p).cells.toList = [.int .i64 p.1, .int .i64 p.2] := by simp [Value.cells]
  have hl : Try.prog.keyLits 162 106 [.int .i64 p.1, .int .i64 p.2] = some [.int .i64 p.1, .int .i64 p.2] := by
    have h0 : ∀ n : Int, wf64 n → Try.prog.keyLits 161 3 [.int .i64 n] = some [.int .i64 n] := fun n hn => by
      unfold Program.keyLits
      rw [Try.underlying3]
      simp [hn]
    unfold Program.keyLits
    rw [Try.underlying106]
    simp [cells106, cells3, h0 _ h1, h0 _ h2]
  unfold keyOf
  rw [Try.underlying106]
  simp only [keyType106, hf, Bool.and_self, if_true, typesN, hc, hl]
  exact ⟨_, rfl⟩
theorem zero3 (w : World) : (zeroValue 3).run Try.prog w = .ok (.int .i64 0) w := Try.zeroValue3 w
end Go.Proofs.Ytogalmkeipigeaa

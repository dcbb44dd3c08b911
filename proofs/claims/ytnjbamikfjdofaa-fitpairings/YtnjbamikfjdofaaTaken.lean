/- The map of what is taken: its keys in the order in which they came. -/
import Derived.Test.YtnjbamikfjdofaaKept
import Derived.DeepKeys4
import Derived.RangeFuncRecord
import Derived.Maps.Own
set_option linter.unusedSimpArgs false
set_option linter.unusedVariables false
namespace Go.Proofs.Ytnjbamikfjdofaa
open Go.RowKit Go.Maps Go.WideMaps

theorem law3 : Keyed Try.prog 3 := int_keyed Try.underlying3
theorem wf64_of {n : Int} (h1 : -9223372036854775808 ≤ n) (h2 : n ≤ 9223372036854775807) : (Lit.int .i64 n).wf = true := WalkArith.wf_i64 (by omega)
theorem key3 {n : Int} (h1 : -9223372036854775808 ≤ n) (h2 : n ≤ 9223372036854775807) : ∃ l, keyOf Try.prog 3 (.int .i64 n) = some l := ⟨_, keyOf_int_mk Try.underlying3 (wf64_of h1 h2)⟩
theorem zero4 (w : World) : (zeroValue 4).run Try.prog w = .ok (.bool false) w := by kernel_rfl

/-- Block b is a map whose keys are the numbers of L, in this order, each with true. -/
structure TakenIs (w : World) (b : Nat) (L : List Int) : Prop where
  ex : ∃ es clock, w.heap[b]? = some (.map es clock) ∧ es.toList.map (fun e => (e.key, e.val)) = L.map (fun x => (Value.int .i64 x, Value.bool true))
  small : ∀ x ∈ L, -1000000 ≤ x ∧ x ≤ 1000000

theorem TakenIs.same {w w' : World} {b : Nat} {L : List Int} (h : TakenIs w b L) (e : w'.heap[b]? = w.heap[b]?) : TakenIs w' b L := by
  obtain ⟨⟨es, c, hb, r⟩, hs⟩ := h
  exact ⟨⟨es, c, e.trans hb, r⟩, hs⟩
theorem TakenIs.lt {w : World} {b : Nat} {L : List Int} (h : TakenIs w b L) : b < w.heap.size := by
  obtain ⟨⟨es, c, hb, _⟩, _⟩ := h
  exact (Array.getElem?_eq_some_iff.1 hb).1
theorem TakenIs.made (w : World) : TakenIs (w.alloc (.map #[] 0)) w.heap.size [] := ⟨⟨#[], 0, World.alloc_heap_new w _, rfl⟩, by simp⟩

theorem taken_at {es : List MapEntry} {L : List Int} (h : es.map (fun e => (e.key, e.val)) = L.map (fun x => (Value.int .i64 x, Value.bool true))) {j : Nat} {e : MapEntry} (hj : es[j]? = some e) : ∃ x, L[j]? = some x ∧ e.key = .int .i64 x ∧ e.val = .bool true := by
  have h1 : (es.map (fun e => (e.key, e.val)))[j]? = some (e.key, e.val) := by rw [List.getElem?_map, hj]; rfl
  rw [h, List.getElem?_map] at h1
  cases hx : L[j]? with
  | none => rw [hx] at h1; cases h1
  | some x =>
    rw [hx] at h1
    simp only [Option.map_some, Option.some.injEq, Prod.mk.injEq] at h1
    exact ⟨x, rfl, h1.1.symm, h1.2.symm⟩
theorem taken_mem {es : List MapEntry} {L : List Int} (h : es.map (fun e => (e.key, e.val)) = L.map (fun x => (Value.int .i64 x, Value.bool true))) {x : Int} (hx : x ∈ L) : ∃ e ∈ es, e.key = .int .i64 x := by
  have : (Value.int .i64 x, Value.bool true) ∈ es.map (fun e => (e.key, e.val)) := by rw [h]; exact List.mem_map_of_mem hx
  obtain ⟨e, he, h2⟩ := List.mem_map.1 this
  exact ⟨e, he, (Prod.mk.inj h2).1⟩

theorem TakenIs.find {w : World} {b : Nat} {L : List Int} (h : TakenIs w b L) {x : Int} (h1 : -1000000 ≤ x) (h2 : x ≤ 1000000) :
    ∃ es clock, w.heap[b]? = some (.map es clock) ∧ es.toList.map (fun e => (e.key, e.val)) = L.map (fun x => (Value.int .i64 x, Value.bool true)) ∧
      ((x ∉ L ∧ (Instr.findKey 3 (.int .i64 x) es.toList).run Try.prog w = .ok none w) ∨ (∃ j, L[j]? = some x ∧ (Instr.findKey 3 (.int .i64 x) es.toList).run Try.prog w = .ok (some (j, .bool true)) w)) := by
  obtain ⟨⟨es, c, hb, hm⟩, hs⟩ := h
  obtain ⟨l, hl⟩ := key3 (n := x) (by omega) (by omega)
  refine ⟨es, c, hb, hm, ?_⟩
  have hks : ∀ e ∈ es.toList, ∃ l, keyOf Try.prog 3 e.key = some l := by
    intro e he
    obtain ⟨j, hj⟩ := List.mem_iff_getElem?.1 he
    obtain ⟨y, hy, hk, _⟩ := taken_at hm hj
    have := hs y (List.mem_of_getElem? hy)
    rw [hk]
    exact key3 (by omega) (by omega)
  rcases law3.find w hl es.toList hks with ⟨a1, a2⟩ | ⟨j, e, a1, a2, a3⟩
  · refine .inl ⟨fun hx => ?_, a1⟩
    obtain ⟨e, he, hk⟩ := taken_mem hm hx
    exact a2 e he hk
  · obtain ⟨y, hy, hk, hv⟩ := taken_at hm a2
    rw [a3] at hk
    obtain rfl : x = y := by simpa using hk
    exact .inr ⟨j, hy, by rw [a1, hv]⟩

/-- 'taken[x]' -/
theorem TakenIs.look {w : World} {b : Nat} {L : List Int} (h : TakenIs w b L) {x : Int} (h1 : -1000000 ≤ x) (h2 : x ≤ 1000000) :
    (Instr.lookup 123 (.map (some b)) (.int .i64 x) false).run Try.prog w = .ok (.bool (decide (x ∈ L))) w := by
  obtain ⟨es, c, hb, hm, ⟨hn, hf⟩ | ⟨j, hj, hf⟩⟩ := h.find h1 h2
  all_goals
    obtain ⟨l, hl⟩ := key3 (n := x) (by omega) (by omega)
    have hget : (getObj b).run Try.prog w = .ok (.map es c) w := by simp [getObj, Sem.run, hb]
    unfold Instr.lookup
  · simp [run_underlying Try.underlying123, hget, law3.check w _ hl, hf, zero4, hn, Sem.run_bind, Result.andThen, Sem.run_pure]
  · simp [run_underlying Try.underlying123, hget, law3.check w _ hl, hf, zero4, List.mem_of_getElem? hj, Sem.run_bind, Result.andThen, Sem.run_pure]

/-- 'taken[x] = true', x not taken -/
theorem TakenIs.take {w : World} {b : Nat} {L : List Int} (h : TakenIs w b L) {x : Int} (h1 : -1000000 ≤ x) (h2 : x ≤ 1000000) (hx : x ∉ L) :
    ∃ o, (Instr.mapUpdate 123 (.map (some b)) (.int .i64 x) (.bool true)).run Try.prog w = .ok () (w.putObj b o) ∧ TakenIs (w.putObj b o) b (L ++ [x]) := by
  have hlt := h.lt
  have hs := h.small
  obtain ⟨es, c, hb, hm, ⟨hn, hf⟩ | ⟨j, hj, hf⟩⟩ := h.find h1 h2
  · obtain ⟨l, hl⟩ := key3 (n := x) (by omega) (by omega)
    have hget : (getObj b).run Try.prog w = .ok (.map es c) w := by simp [getObj, Sem.run, hb]
    have hset : ∀ o, (setObj b o).run Try.prog w = .ok () (w.putObj b o) := fun o => by simp [setObj, Sem.run, hb, World.putObj]
    refine ⟨.map (es.push { key := .int .i64 x, val := .bool true, born := c }) (c + 1), ?_, ⟨_, _, World.putObj_heap_same hlt, ?_⟩, ?_⟩
    · unfold Instr.mapUpdate
      simp [run_underlying Try.underlying123, hget, law3.check w _ hl, hf, hset, Sem.run_bind, Result.andThen, Sem.run_pure]
    · rw [Array.toList_push, List.map_append, List.map_append, hm]; rfl
    · intro y hy
      rcases List.mem_append.1 hy with hy | hy
      · exact hs y hy
      · obtain rfl : y = x := by simpa using hy
        exact ⟨h1, h2⟩
  · exact absurd (List.mem_of_getElem? hj) hx

/-- 'delete(taken, x)', x the last one taken -/
theorem TakenIs.give {w : World} {b : Nat} {L : List Int} {x : Int} (h : TakenIs w b (L ++ [x])) (hx : x ∉ L) (ty : TypeId) :
    ∃ o, (Builtin.delete_ #[123, 3] ty #[.map (some b), .int .i64 x]).run Try.prog w = .ok (.tuple #[]) (w.putObj b o) ∧ TakenIs (w.putObj b o) b L := by
  have hlt := h.lt
  have hs := h.small
  obtain ⟨h1, h2⟩ := hs x (by simp)
  obtain ⟨es, c, hb, hm, ⟨hn, hf⟩ | ⟨j, hj, hf⟩⟩ := h.find h1 h2
  · exact absurd (by simp) hn
  · obtain ⟨l, hl⟩ := key3 (n := x) (by omega) (by omega)
    have hget : (getObj b).run Try.prog w = .ok (.map es c) w := by simp [getObj, Sem.run, hb]
    have hset : ∀ o, (setObj b o).run Try.prog w = .ok () (w.putObj b o) := fun o => by simp [setObj, Sem.run, hb, World.putObj]
    have hjl : j = L.length := by
      rcases Nat.lt_or_ge j L.length with h | h
      · rw [List.getElem?_append_left h] at hj
        exact absurd (List.mem_of_getElem? hj) hx
      · have := (List.getElem?_eq_some_iff.1 hj).1
        simp at this
        omega
    subst hjl
    refine ⟨.map (es.eraseIdxIfInBounds L.length) c, ?_, ⟨_, _, World.putObj_heap_same hlt, ?_⟩, fun y hy => hs y (by simp [hy])⟩
    · unfold Builtin.delete_
      simp [run_underlying Try.underlying123, hget, law3.check w _ hl, hf, hset, Sem.run_bind, Result.andThen, Sem.run_pure]
    · have hlen : es.size = L.length + 1 := by have := congrArg List.length hm; simpa using this
      have e1 : (es.eraseIdxIfInBounds L.length).toList = es.toList.take L.length := by
        rw [Array.eraseIdxIfInBounds, dif_pos (by omega), Array.toList_eraseIdx, List.eraseIdx_eq_take_drop_succ, List.drop_eq_nil_of_le (by simp; omega), List.append_nil]
      rw [e1, List.map_take, hm, List.map_append, List.take_left' (by simp)]
end Go.Proofs.Ytnjbamikfjdofaa

/- What is known to be best: maps keyed by how long each blade has run. -/
import Derived.Test.YtdncppempgpooaaDoorRuS
import Derived.DeepKeys4
import Derived.RangeFuncRecord
import Derived.Maps.Own
set_option linter.unusedSimpArgs false
set_option linter.unusedVariables false
namespace Go.Proofs.YtdncppempgpooaaDoor
open Go.RowKit Go.Maps Go.WideMaps

abbrev wf64 (n : Int) : Prop := (Lit.int .i64 n).wf = true
theorem wf64_of {n : Int} (h1 : -9223372036854775808 ≤ n) (h2 : n ≤ 9223372036854775807) : wf64 n := WalkArith.wf_i64 (by omega)
theorem laidOut : laidOutB Tryd.prog = true := by kernel_rfl
theorem row85 : (85 : TypeId) < Tryd.prog.types.size := of_decide_eq_true (by kernel_rfl)
theorem wide85 : (match Tryd.prog.underlying 85 with | some (.array _ _) | some (.struct _) => true | _ => false) = true := by kernel_rfl
set_option maxRecDepth 100000 in
theorem law85 : Keyed Tryd.prog 85 := Keyed.of_law (deep_law_laid laidOut (m := 2) (by omega) row85 (by kernel_rfl) wide85)
@[reducible] def ranV (r : Nat → Int) : Value := .agg #[.int .i64 (r 0), .int .i64 (r 1), .int .i64 (r 2), .int .i64 (r 3), .int .i64 (r 4)]
theorem keyType85 : Tryd.prog.keyType 85 = true := by kernel_rfl
theorem cells85 : Tryd.prog.cellsOf 85 = 5 := by kernel_rfl
theorem cells3 : Tryd.prog.cellsOf 3 = 1 := by kernel_rfl
theorem typesN : Tryd.prog.types.size = 150 := by kernel_rfl
set_option maxRecDepth 100000 in
theorem key85 {r : Nat → Int} (h : ∀ k, k < 5 → wf64 (r k)) : ∃ l, keyOf Tryd.prog 85 (ranV r) = some l := by
  have hf : (ranV r).formed Tryd.prog 85 = true := by simp [Value.formed, Tryd.underlying85, cells85]
  have hc : (ranV r).cells.toList = [.int .i64 (r 0), .int .i64 (r 1), .int .i64 (r 2), .int .i64 (r 3), .int .i64 (r 4)] := by simp [Value.cells]
  have h0 : ∀ n : Int, wf64 n → Tryd.prog.keyLits 150 3 [.int .i64 n] = some [.int .i64 n] := fun n hn => by
    unfold Program.keyLits
    rw [Tryd.underlying3]
    simp [hn]
  have hl : Tryd.prog.keyLits 151 85 [.int .i64 (r 0), .int .i64 (r 1), .int .i64 (r 2), .int .i64 (r 3), .int .i64 (r 4)] = some [.int .i64 (r 0), .int .i64 (r 1), .int .i64 (r 2), .int .i64 (r 3), .int .i64 (r 4)] := by
    unfold Program.keyLits
    rw [Tryd.underlying85]
    have e : List.range 5 = [0, 1, 2, 3, 4] := rfl
    simp [cells85, cells3, e, h0 _ (h 0 (by omega)), h0 _ (h 1 (by omega)), h0 _ (h 2 (by omega)), h0 _ (h 3 (by omega)), h0 _ (h 4 (by omega))]
  unfold keyOf
  rw [Tryd.underlying85]
  simp only [keyType85, hf, Bool.and_self, if_true, typesN, hc, hl]
  exact ⟨_, rfl⟩

/-- Blades that are none have run nothing. -/
def Zer (r : Nat → Int) : Prop := ∀ k, 5 ≤ k → r k = 0
theorem zer_zero : Zer zeroR := fun _ _ => rfl
theorem Zer.bent {r : Nat → Int} (h : Zer r) (set : Nat) : Zer (bentR r set) := fun k hk => by
  unfold bentR; split
  · rfl
  · exact h k hk
theorem Zer.run {r : Nat → Int} (h : Zer r) {d : Dye} (hn : d.bl.length ≤ 5) (s : Int × Int) : Zer (runR d r s) := fun k hk => by
  unfold runR; rw [if_neg (by omega)]; exact h k hk
theorem ranV_inj {r r' : Nat → Int} (h : ranV r = ranV r') (hz : Zer r) (hz' : Zer r') : r = r' := by
  simp only [ranV, Value.agg.injEq, Array.mk.injEq, List.cons.injEq, Value.int.injEq, true_and, and_true] at h
  obtain ⟨h0, h1, h2, h3, h4⟩ := h
  funext k
  by_cases hk : k < 5
  · rcases (by omega : k = 0 ∨ k = 1 ∨ k = 2 ∨ k = 3 ∨ k = 4) with rfl | rfl | rfl | rfl | rfl <;> assumption
  · rw [hz k (by omega), hz' k (by omega)]

/-- A slice of numbers: its block is one of numbers. -/
def On3 (w : World) (ao : Option Addr) : Prop := ∀ b off x, ao = some ⟨b, off, x⟩ → ∃ cs, w.heap[b]? = some (.cells cs 3)
/-- A course's value: what it costs, and its sets. -/
def CrV (c : Int × List Nat) (v : Value) (w : World) : Prop := ∃ ao cap, v = .agg #[.int .i64 c.1, .slice ao c.2.length cap] ∧ IntsAt w ao (c.2.map Int.ofNat) ∧ On3 w ao ∧ (ao = none → cap = 0)

/-- Block b is a map in which each entry is the course that f tells for its key. -/
structure MemoIs (f : (Nat → Int) → Int × List Nat) (w : World) (b : Nat) : Prop where
  ex : ∃ es clock, w.heap[b]? = some (.map es clock) ∧ ∀ e ∈ es.toList, ∃ r, e.key = ranV r ∧ Zer r ∧ RunB 10000 r ∧ CrV (f r) e.val w
theorem MemoIs.lt {f : (Nat → Int) → Int × List Nat} {w : World} {b : Nat} (h : MemoIs f w b) : b < w.heap.size := by
  obtain ⟨es, c, hb, _⟩ := h.ex
  exact at_ltS hb
theorem runB_wf {r : Nat → Int} (h : RunB 10000 r) : ∀ k, k < 5 → wf64 (r k) := fun k hk => by
  have := h k hk
  exact wf64_of (by omega) (by omega)

theorem zero97 (w : World) : (zeroValue 97).run Tryd.prog w = .ok (.agg #[.int .i64 0, .slice none 0 0]) w := by kernel_rfl

/-- 'c, ok := best[i][m.ran]' -/
theorem MemoIs.look {f : (Nat → Int) → Int × List Nat} {w : World} {b : Nat} (h : MemoIs f w b) {r : Nat → Int} (hz : Zer r) (hr : RunB 10000 r) :
    ∃ v ok, (Instr.lookup 115 (.map (some b)) (ranV r) true).run Tryd.prog w = .ok (.tuple #[v, .bool ok]) w ∧ (ok = true → CrV (f r) v w) ∧ ∃ x y, v = .agg #[x, y] ∧ (∃ c, x = .int .i64 c) ∧ ∃ ao n cap, y = .slice ao n cap := by
  obtain ⟨es, c, hb, hes⟩ := h.ex
  obtain ⟨l, hl⟩ := key85 (runB_wf hr)
  have hget : (getObj b).run Tryd.prog w = .ok (.map es c) w := by simp [getObj, Sem.run, hb]
  have hks : ∀ e ∈ es.toList, ∃ l, keyOf Tryd.prog 85 e.key = some l := fun e he => by
    obtain ⟨r', hk, _, hr', _⟩ := hes e he
    rw [hk]; exact key85 (runB_wf hr')
  rcases law85.find w hl es.toList hks with ⟨a1, a2⟩ | ⟨j, e, a1, a2, a3⟩
  · refine ⟨_, false, ?_, fun h => (by cases h), _, _, rfl, ⟨0, rfl⟩, none, 0, 0, rfl⟩
    unfold Instr.lookup
    simp [run_underlying Tryd.underlying115, hget, law85.check w _ hl, a1, zero97, Sem.run_bind, Result.andThen, Sem.run_pure]
  · obtain ⟨r', hk, hz', _, hc⟩ := hes e (List.mem_of_getElem? a2)
    have hrr : r = r' := ranV_inj (by rw [← a3, hk]) hz hz'
    subst hrr
    obtain ⟨ao, cap, hv, hi⟩ := hc
    refine ⟨e.val, true, ?_, fun _ => ⟨ao, cap, hv, hi⟩, _, _, hv, ⟨_, rfl⟩, _, _, _, rfl⟩
    unfold Instr.lookup
    simp [run_underlying Tryd.underlying115, hget, law85.check w _ hl, a1, Sem.run_bind, Result.andThen, Sem.run_pure]

theorem on3_modT {T : Nat → Prop} {w w' : World} {ao : Option Addr} (h : On3 w ao) (hm : Mod T w w') (hT : ∀ k, T k → ∀ cs, w.heap[k]? ≠ some (.cells cs 3)) : On3 w' ao := fun b off x e => by
  obtain ⟨cs, hc⟩ := h b off x e
  exact ⟨cs, hm.at hc (fun ht => hT b ht cs hc)⟩
theorem ints_modT {T : Nat → Prop} {w w' : World} {ao : Option Addr} {zs : List Int} (h : IntsAt w ao zs) (ho : On3 w ao) (hm : Mod T w w') (hT : ∀ k, T k → ∀ cs, w.heap[k]? ≠ some (.cells cs 3)) : IntsAt w' ao zs :=
  ⟨fun hne => by
    obtain ⟨b, off, h1, h2, h3⟩ := h.lies hne
    obtain ⟨cs, hc⟩ := ho b off none h1
    exact ⟨b, off, h1, Nat.lt_of_lt_of_le h2 hm.size, fun j hj => (cell_same (hm.block b h2 (fun ht => hT b ht cs hc)) _).trans (h3 j hj)⟩, h.small⟩
theorem CrV.modT {T : Nat → Prop} {c : Int × List Nat} {v : Value} {w w' : World} (h : CrV c v w) (hm : Mod T w w') (hT : ∀ k, T k → ∀ cs, w.heap[k]? ≠ some (.cells cs 3)) : CrV c v w' := by
  obtain ⟨ao, cap, hv, hi, ho, hn⟩ := h
  exact ⟨ao, cap, hv, ints_modT hi ho hm hT, on3_modT ho hm hT, hn⟩
theorem CrV.mod {c : Int × List Nat} {v : Value} {w w' : World} (h : CrV c v w) (hm : Mod noB w w') : CrV c v w' := h.modT hm (fun _ h => h.elim)
theorem MemoIs.modT {f : (Nat → Int) → Int × List Nat} {T : Nat → Prop} {w w' : World} {b : Nat} (h : MemoIs f w b) (hm : Mod T w w') (hT : ∀ k, T k → ∀ cs, w.heap[k]? ≠ some (.cells cs 3)) (hb : w'.heap[b]? = w.heap[b]?) : MemoIs f w' b := by
  obtain ⟨es, c, h1, h2⟩ := h.ex
  exact ⟨es, c, hb.trans h1, fun e he => by
    obtain ⟨r, hk, hz, hr, hc⟩ := h2 e he
    exact ⟨r, hk, hz, hr, hc.modT hm hT⟩⟩

/-- 'best[i][m.ran] = c' -/
theorem MemoIs.store {f : (Nat → Int) → Int × List Nat} {w : World} {b : Nat} (h : MemoIs f w b) {r : Nat → Int} (hz : Zer r) (hr : RunB 10000 r) {v : Value} (hv : CrV (f r) v w) :
    ∃ es c, (Instr.mapUpdate 115 (.map (some b)) (ranV r) v).run Tryd.prog w = .ok () (w.putObj b (.map es c)) ∧ MemoIs f (w.putObj b (.map es c)) b := by
  have hlt := h.lt
  obtain ⟨es, c, hb, hes⟩ := h.ex
  obtain ⟨l, hl⟩ := key85 (runB_wf hr)
  have hget : (getObj b).run Tryd.prog w = .ok (.map es c) w := by simp [getObj, Sem.run, hb]
  have hset : ∀ o, (setObj b o).run Tryd.prog w = .ok () (w.putObj b o) := fun o => by simp [setObj, Sem.run, hb, World.putObj]
  have hks : ∀ e ∈ es.toList, ∃ l, keyOf Tryd.prog 85 e.key = some l := fun e he => by
    obtain ⟨r', hk, _, hr', _⟩ := hes e he
    rw [hk]; exact key85 (runB_wf hr')
  have keep : ∀ (o : Obj) {c : Int × List Nat} {v : Value}, CrV c v w → CrV c v (w.putObj b o) := fun o _ _ hc =>
    hc.modT (T := fun k => k = b) ((Mod.refl (fun k => k = b) w).putObj (fun _ => rfl) o) (fun k hk cs hc => by rw [hk, hb] at hc; cases hc)
  rcases law85.find w hl es.toList hks with ⟨a1, a2⟩ | ⟨j, e, a1, a2, a3⟩
  · refine ⟨es.push { key := ranV r, val := v, born := c }, c + 1, ?_, ⟨_, _, World.putObj_heap_same hlt, fun e he => ?_⟩⟩
    · unfold Instr.mapUpdate
      simp [run_underlying Tryd.underlying115, hget, law85.check w _ hl, a1, hset, Sem.run_bind, Result.andThen, Sem.run_pure]
    · simp only [Array.toList_push, List.mem_append, List.mem_singleton] at he
      rcases he with he | rfl
      · obtain ⟨r', hk, hz', hr', hc⟩ := hes e he
        exact ⟨r', hk, hz', hr', keep _ hc⟩
      · exact ⟨r, rfl, hz, hr, keep _ hv⟩
  · have hj' : es[j]? = some e := by simpa using a2
    refine ⟨es.modify j fun e => { e with key := ranV r, val := v }, c, ?_, ⟨_, _, World.putObj_heap_same hlt, fun e' he => ?_⟩⟩
    · unfold Instr.mapUpdate
      simp [run_underlying Tryd.underlying115, hget, law85.check w _ hl, a1, hset, hj', a3, law85.stays w hl, Sem.run_bind, Result.andThen, Sem.run_pure]
    · rw [Array.mem_toList_iff, Array.mem_iff_getElem] at he
      obtain ⟨i, hi, rfl⟩ := he
      rw [Array.getElem_modify]
      split
      · exact ⟨r, rfl, hz, hr, keep _ hv⟩
      · have hi2 : i < es.size := by simpa using hi
        obtain ⟨r', hk, hz', hr', hc⟩ := hes es[i] (by simp)
        exact ⟨r', hk, hz', hr', keep _ hc⟩
end Go.Proofs.YtdncppempgpooaaDoor

/- Arrays in memory, told by a function of the place. -/
import Derived.Test.YtogalmkeipigeaaLoop
import Derived.Laws.Rows
set_option linter.unusedSimpArgs false
set_option linter.unusedVariables false
namespace Go.Proofs.Ytogalmkeipigeaa
open Go.RowKit

def fcells (n : Nat) (f : Nat → Value) : Array Value := ((List.range n).map f).toArray

theorem fcells_size (n : Nat) (f : Nat → Value) : (fcells n f).size = n := by simp [fcells]
theorem fcells_at {n : Nat} {f : Nat → Value} {k : Nat} (h : k < n) : (fcells n f)[k]? = some (f k) := by simp [fcells, h]

theorem fcells_cell {W : World} {b n : Nat} {f : Nat → Value} {T : TypeId} (h : W.heap[b]? = some (.cells (fcells n f) T)) {k : Nat} (hk : k < n) : W.cell? ⟨b, k, none⟩ = some (f k) := by
  simp only [World.cell?, h]
  simpa using fcells_at hk
theorem cells_frozen {W : World} {b : Nat} {cs : Array Value} {T : TypeId} (h : W.heap[b]? = some (.cells cs T)) (k : Nat) : W.frozen? ⟨b, k, none⟩ = false := by
  simp only [World.frozen?, h]
  simp
theorem fcells_set {n : Nat} {f : Nat → Value} {k : Nat} (v : Value) : (fcells n f).setIfInBounds k v = fcells n (fun j => if j = k then v else f j) := by
  apply Array.ext
  · simp [fcells]
  · intro i h1 h2
    simp only [fcells, Array.getElem_setIfInBounds, List.getElem_toArray, List.getElem_map, List.getElem_range]
    by_cases e : k = i
    · subst e; simp
    · simp [e, Ne.symm e]
theorem setCell_at {W : World} {b : Nat} {cs : Array Value} {T : TypeId} (h : W.heap[b]? = some (.cells cs T)) (k : Nat) (v : Value) : (W.setCell ⟨b, k, none⟩ v).heap[b]? = some (.cells (cs.setIfInBounds k v) T) := by
  have hlt := (Array.getElem?_eq_some_iff.1 h).1
  show (W.heap.modify b _)[b]? = _
  rw [Array.getElem?_modify, if_pos rfl, h]
  simp
theorem fcells_store {W : World} {b n : Nat} {f : Nat → Value} {T : TypeId} (h : W.heap[b]? = some (.cells (fcells n f) T)) (k : Nat) (v : Value) :
    (W.setCell ⟨b, k, none⟩ v).heap[b]? = some (.cells (fcells n (fun j => if j = k then v else f j)) T) := by
  rw [setCell_at h, fcells_set]
theorem fcells_replicate (n : Nat) (v : Value) : Array.replicate n v = fcells n (fun _ => v) := by
  apply Array.ext
  · simp [fcells]
  · intro i h1 h2
    simp [fcells]

def boolCells (n : Nat) (R : Nat → Bool) : Array Value := fcells n (fun k => .bool (R k))
theorem boolCells_store {W : World} {b n : Nat} {R : Nat → Bool} {T : TypeId} (h : W.heap[b]? = some (.cells (boolCells n R) T)) (k : Nat) :
    (W.setCell ⟨b, k, none⟩ (.bool true)).heap[b]? = some (.cells (boolCells n (fun j => if j = k then true else R j)) T) := by
  unfold boolCells at *
  rw [fcells_store h]
  congr 2
  congr 1
  funext j
  by_cases e : j = k <;> simp [e]
/-! ### A whole array, read or written at once -/
section
variable {P : Program} {F : Fence} {n : Nat} {ops : Array Oper} {rest : List Oper} {o : Oper} {a : Act} {w : World} {Q : Exit → Act → World → Prop}

theorem setRow_put {b : Nat} {cs cs' : Array Value} {t : TypeId} (h : w.heap[b]? = some (.cells cs t)) : w.setRow b cs' = w.putObj b (.cells cs' t) := by
  obtain ⟨hlt, hv⟩ := Array.getElem?_eq_some_iff.1 h
  unfold World.setRow World.putObj
  congr 1
  apply Array.ext_getElem?
  intro i
  rw [Array.getElem?_modify, Array.getElem?_setIfInBounds]
  by_cases e : b = i
  · subst e
    simp [hlt, hv]
  · simp [e]

theorem alloc_put (w : World) (o o' : Obj) : (w.alloc o).putObj w.heap.size o' = w.alloc o' := by
  unfold World.putObj World.alloc
  congr 1
  apply Array.ext_getElem?
  intro i
  simp only [Array.getElem?_setIfInBounds, Array.getElem?_push, Array.size_push]
  by_cases e : w.heap.size = i
  · subst e; simp
  · have e' : ¬ i = w.heap.size := fun h => e h.symm
    simp [e, e']

theorem wpListIn_loadRow (hg : o.guard = none) (ty : TypeId) (x : Operand) (hop : o.op = .load ty x) (b : Nat) (hx : a.eval x = .pointer (some ⟨b, 0, none⟩)) (t : TypeId) (cs : Array Value) (d : TypeDesc) (hb : w.heap[b]? = some (.cells cs t))
    (hu : P.underlying ty = some d) (hd : (match d with | .struct _ | .array _ _ => true | _ => false) = true) (hi : (P.info? ty).map (·.size) = some cs.size)
    (hK : wpListIn F n P ops Q rest (a.put o.dst (.agg cs)) w) : wpListIn F n P ops Q (o :: rest) a w := by
  refine wpListIn_plain hg fun K' hK' => ?_
  unfold Oper.wpIn
  refine ⟨by simp [Oper.about, hop], ?_⟩
  rw [Oper.semAt_eq _ _ _ (by rw [hop]; intro c hc'; cases hc')]
  unfold execOp
  simp only [hop, hx, Instr.loadAt, Instr.sureAddr, Sem.run_bind, Sem.run_pure, Result.andThen_ok, run_loadVar_row w b t ty cs (0, 0) d hb hu hd hi]
  exact hK' _ _ hK

theorem wpListIn_storeRow (hg : o.guard = none) (ty : TypeId) (x y : Operand) (hop : o.op = .store ty x y) (b : Nat) (hx : a.eval x = .pointer (some ⟨b, 0, none⟩)) (cells : Array Value) (hy : a.eval y = .agg cells) (t : TypeId) (old : Array Value)
    (hb : w.heap[b]? = some (.cells old t)) (hi : (P.info? ty).map (·.size) = some cells.size) (hold : old.size = cells.size) (h1 : cells.all (·.oneCell') = true)
    (hK : wpListIn F n P ops Q rest (a.put o.dst undef) (w.putObj b (.cells cells t))) : wpListIn F n P ops Q (o :: rest) a w := by
  refine wpListIn_plain hg fun K' hK' => ?_
  unfold Oper.wpIn
  refine ⟨by simp [Oper.about, hop], ?_⟩
  rw [Oper.semAt_eq _ _ _ (by rw [hop]; intro c hc'; cases hc')]
  unfold execOp
  simp only [hop, hx, hy, Instr.storeAt, Instr.sureAddr, Sem.run_bind, Sem.run_pure, Result.andThen_ok, run_storeVar_row w b t ty old cells hb hi hold h1]
  rw [setRow_put hb]
  exact hK' _ _ hK
end

end Go.Proofs.Ytogalmkeipigeaa

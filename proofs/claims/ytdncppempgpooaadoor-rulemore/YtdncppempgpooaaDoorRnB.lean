/- Several texts in one (a claim holds at most 60 files): each has its own words ahead of it. -/
import Derived.Test.YtdncppempgpooaaDoorRnA
import Derived.Deep.DeepCutAuto
import Derived.Deep.CutRange
import Derived.Deep.CutBlock
import Derived.Test.YtdncppempgpooaaDoorRnX
set_option linter.unusedSimpArgs false
set_option linter.unusedVariables false

/- RuleMore: the region that takes one of the three dies. (The operations: written by wip/tools.) -/
namespace Go.Proofs.YtdncppempgpooaaDoor
open Go Go.RowKit Go.Shelf

theorem inBlock_only {id : Nat} {K : Act → World → Prop} {Q : Exit → Act → World → Prop} (h : ∀ a w, K a w → Q .normal a w) : ∀ e a w, Exit.inBlock id (only K) e a w → Exit.inBlock id Q e a w := by
  intro e a w hq
  cases e with
  | exit id' =>
    simp only [Exit.inBlock] at hq ⊢
    split at hq
    · rename_i he
      rw [if_pos he]
      exact h _ _ hq.2
    · exact absurd hq.1 (by simp)
  | normal => exact h _ _ hq.2
  | _ => exact absurd hq.1 (by simp)

theorem then_only {K K' : Act → World → Prop} {Q : Exit → Act → World → Prop} (h : ∀ a w, K a w → K' a w) : ∀ e a w, only K e a w → Exit.then K' Q e a w := by
  rintro e a w ⟨rfl, hk⟩
  exact h _ _ hk
theorem end_frame2 (F : (Nat → Value) → Act) (a : Act) (h : a = F (tmpOf a)) : ∃ v, a = F v := ⟨tmpOf a, h⟩


@[reducible] def mj0 : Oper := { dst := some 195, op := Op.load 24 (Operand.tmp 15), type := 24, pos := "outright.go:221", after := #[], guard := none }
@[reducible] def mj1 : Oper := { dst := some 196, op := Op.load 24 (Operand.tmp 16), type := 24, pos := "outright.go:221", after := #[], guard := none }
@[reducible] def mj2 : Oper := { dst := some 197, op := Op.load 24 (Operand.tmp 4), type := 24, pos := "outright.go:221", after := #[], guard := none }
@[reducible] def mj3 : Oper := { dst := some 198, op := Op.build 68 #[(0, Operand.tmp 195), (1, Operand.tmp 196), (2, Operand.tmp 197)], type := 68, pos := "outright.go:221", after := #[{ on := 0, ground := Ground.data }, { on := 1, ground := Ground.data }, { on := 2, ground := Ground.data }], guard := none }
@[reducible] def mj4 : Oper := { dst := some 199, op := Op.move (Operand.tmp 20), type := 3, pos := "outright.go:221", after := #[], guard := none }
@[reducible] def mj5 : Oper := { dst := some 200, op := Op.index 68 (Operand.tmp 198) (Operand.tmp 199), type := 24, pos := "outright.go:221", after := #[{ on := 3, ground := Ground.data }, { on := 4, ground := Ground.data }], guard := none }
@[reducible] def mj6 : Oper := { dst := some 201, op := Op.move (Operand.tmp 1), type := 33, pos := "outright.go:221", after := #[{ on := 8, ground := Ground.gcOnly Departure.lateStores }], guard := none }
@[reducible] def mj7 : Oper := { dst := some 21, op := Op.alloc 24, type := 0, pos := "outright.go:221", after := #[], guard := none }
@[reducible] def mj8 : Oper := { dst := none, op := Op.store 24 (Operand.tmp 21) (Operand.tmp 200), type := 0, pos := "outright.go:221", after := #[{ on := 7, ground := Ground.data }, { on := 5, ground := Ground.data }, { on := 0, ground := Ground.phase }, { on := 1, ground := Ground.phase }, { on := 2, ground := Ground.phase }, { on := 3, ground := Ground.phase }, { on := 4, ground := Ground.phase }, { on := 5, ground := Ground.phase }, { on := 6, ground := Ground.textOnly Departure.lateStores }, { on := 7, ground := Ground.phase }], guard := none }
@[reducible] def mj9 : Oper := { dst := some 22, op := Op.assign (Operand.tmp 201), type := 33, pos := "outright.go:221", after := #[{ on := 6, ground := Ground.data }, { on := 8, ground := Ground.chain }, { on := 0, ground := Ground.phase }, { on := 1, ground := Ground.phase }, { on := 2, ground := Ground.phase }, { on := 3, ground := Ground.phase }, { on := 4, ground := Ground.phase }, { on := 5, ground := Ground.phase }, { on := 6, ground := Ground.phase }, { on := 7, ground := Ground.phase }, { on := 8, ground := Ground.phase }], guard := none }
@[reducible] def mjOps : List Oper := [mj0, mj1, mj2, mj3, mj4, mj5, mj6, mj7, mj8, mj9]
@[reducible] def mjV (ao : Nat → Option Addr) (cap : Nat → Nat) (y : Nat → Dye) (i : Nat) : Value := dyV (ao i) (y i).bl.length (cap i) (y i)
@[reducible] def mjF (ao : Nat → Option Addr) (cap : Nat → Nat) (y : Nat → Dye) (i xb : Nat) (lv : Value) (a0 : Act) : Act :=
  (((((((((a0.put (some 195) (mjV ao cap y 0)).put (some 196) (mjV ao cap y 1)).put (some 197) (mjV ao cap y 2)).put (some 198) (.agg (dyC (ao 0) (y 0).bl.length (cap 0) (y 0) ++ dyC (ao 1) (y 1).bl.length (cap 1) (y 1) ++ dyC (ao 2) (y 2).bl.length (cap 2) (y 2)))).put (some 199) (.int .i64 (i : Int))).put (some 200) (mjV ao cap y i)).put (some 201) lv).put (some 21) (.pointer (some ⟨xb, 0, none⟩))).put (some 22) lv)
set_option maxRecDepth 100000 in
theorem run_build68 {o : Oper} {a : Act} {w : World} {s t u : Nat} (hop : o.op = .build 68 #[(0, .tmp s), (1, .tmp t), (2, .tmp u)]) {p0 p1 p2 p3 q0 q1 q2 q3 r0 r1 r2 r3 : Value} (hx : a.eval (.tmp s) = .agg #[p0, p1, p2, p3]) (hy : a.eval (.tmp t) = .agg #[q0, q1, q2, q3]) (hz : a.eval (.tmp u) = .agg #[r0, r1, r2, r3]) : (execOp a.eval o).run Tryd.prog w = .ok (.value (.agg #[p0, p1, p2, p3, q0, q1, q2, q3, r0, r1, r2, r3])) w := by
  have e1 : a.tmps[s]?.getD undef = .agg #[p0, p1, p2, p3] := by simpa [Act.eval] using hx
  have e2 : a.tmps[t]?.getD undef = .agg #[q0, q1, q2, q3] := by simpa [Act.eval] using hy
  have e3 : a.tmps[u]?.getD undef = .agg #[r0, r1, r2, r3] := by simpa [Act.eval] using hz
  simp only [execOp, hop]
  go_simp
  done
set_option maxRecDepth 100000 in
theorem run_index68 {o : Oper} {a : Act} {w : World} {s t : Nat} (hop : o.op = .index 68 (.tmp s) (.tmp t)) {p0 p1 p2 p3 q0 q1 q2 q3 r0 r1 r2 r3 : Value} (hx : a.eval (.tmp s) = .agg #[p0, p1, p2, p3, q0, q1, q2, q3, r0, r1, r2, r3]) {i : Nat} (hy : a.eval (.tmp t) = .int .i64 (i : Int)) : (i = 0 → (execOp a.eval o).run Tryd.prog w = .ok (.value (.agg #[p0, p1, p2, p3])) w) ∧ (i = 1 → (execOp a.eval o).run Tryd.prog w = .ok (.value (.agg #[q0, q1, q2, q3])) w) ∧ (i = 2 → (execOp a.eval o).run Tryd.prog w = .ok (.value (.agg #[r0, r1, r2, r3])) w) := by
  have e1 : a.tmps[s]?.getD undef = .agg #[p0, p1, p2, p3, q0, q1, q2, q3, r0, r1, r2, r3] := by simpa [Act.eval] using hx
  have e2 : a.tmps[t]?.getD undef = .int .i64 (i : Int) := by simpa [Act.eval] using hy
  refine ⟨?_, ?_, ?_⟩ <;> (rintro rfl; simp only [execOp, hop]; go_simp; try rfl)

set_option maxRecDepth 100000 in
set_option maxHeartbeats 4000000 in
theorem region_mj {rid : Nat} {Q : Exit → Act → World → Prop} {a0 : Act} {w : World} {ao : Nat → Option Addr} {cap : Nat → Nat} {y : Nat → Dye} {pb : Nat → Nat} {i : Nat} {lv : Value} (hi : i < 3) (hsz : a0.tmps.size = 256)
    (x15 : a0.eval (.tmp 15) = .pointer (some ⟨pb 0, 0, none⟩)) (x16 : a0.eval (.tmp 16) = .pointer (some ⟨pb 1, 0, none⟩)) (x4 : a0.eval (.tmp 4) = .pointer (some ⟨pb 2, 0, none⟩)) (x20 : a0.eval (.tmp 20) = .int .i64 (i : Int)) (x1 : a0.eval (.tmp 1) = lv)
    (h0 : w.heap[pb 0]? = some (.cells (dyC (ao 0) (y 0).bl.length (cap 0) (y 0)) 24)) (h1 : w.heap[pb 1]? = some (.cells (dyC (ao 1) (y 1).bl.length (cap 1) (y 1)) 24)) (h2 : w.heap[pb 2]? = some (.cells (dyC (ao 2) (y 2).bl.length (cap 2) (y 2)) 24))
    (hend : ∀ w' xb, w'.heap[xb]? = some (.cells (dyC (ao i) (y i).bl.length (cap i) (y i)) 24) → Mod noB w w' → Q .normal (mjF ao cap y i xb lv a0) w') : (Code.region rid mjOps.toArray false).wp Tryd.prog Q a0 w := by
  have P : ∀ (a : Act) {s t : Nat} (v : Value), s ≠ t → (a.put (some s) v).eval (.tmp t) = a.eval (.tmp t) := fun a s t v h => eval_put_ne a h v
  have Z : ∀ (a : Act) (s : Nat) (v : Value), (a.put (some s) v).tmps.size = a.tmps.size := fun a s v => put_sizeO a (some s) v
  refine wp_region_lit ?_
  refine wpList_front (step_loadRow rfl 24 rfl (pb 0) x15 _ 24 _ h0 rfl Tryd.underlying24 info24 ?_)
  refine wpList_front (step_loadRow rfl 24 rfl (pb 1) ((P _ _ (by decide)).trans x16) _ 24 _ h1 rfl Tryd.underlying24 info24 ?_)
  refine wpList_front (step_loadRow rfl 24 rfl (pb 2) ((P _ _ (by decide)).trans ((P _ _ (by decide)).trans x4)) _ 24 _ h2 rfl Tryd.underlying24 info24 ?_)
  refine wpList_front (step_run rfl _ _ (run_build68 rfl ((P _ _ (by decide)).trans ((P _ _ (by decide)).trans (eval_put_eq _ (by rw [hsz]; decide) _))) ((P _ _ (by decide)).trans (eval_put_eq _ (by rw [Z, hsz]; decide) _)) (eval_put_eq _ (by rw [Z, Z, hsz]; decide) _)) ?_)
  refine wpList_front (step_run rfl _ _ (run_move rfl ((P _ _ (by decide)).trans ((P _ _ (by decide)).trans ((P _ _ (by decide)).trans ((P _ _ (by decide)).trans x20))))) ?_)
  have hidx := run_index68 (o := mj5) (w := w) (a := ((((a0.put (some 195) (mjV ao cap y 0)).put (some 196) (mjV ao cap y 1)).put (some 197) (mjV ao cap y 2)).put (some 198) (.agg (dyC (ao 0) (y 0).bl.length (cap 0) (y 0) ++ dyC (ao 1) (y 1).bl.length (cap 1) (y 1) ++ dyC (ao 2) (y 2).bl.length (cap 2) (y 2)))).put (some 199) (.int .i64 (i : Int))) rfl ((P _ _ (by decide)).trans (eval_put_eq _ (by rw [Z, Z, Z, hsz]; decide) _)) (eval_put_eq _ (by rw [Z, Z, Z, Z, hsz]; decide) _)
  have hidx' : (execOp (((((a0.put (some 195) (mjV ao cap y 0)).put (some 196) (mjV ao cap y 1)).put (some 197) (mjV ao cap y 2)).put (some 198) (.agg (dyC (ao 0) (y 0).bl.length (cap 0) (y 0) ++ dyC (ao 1) (y 1).bl.length (cap 1) (y 1) ++ dyC (ao 2) (y 2).bl.length (cap 2) (y 2)))).put (some 199) (.int .i64 (i : Int))).eval mj5).run Tryd.prog w = .ok (.value (mjV ao cap y i)) w := by
    rcases (by omega : i = 0 ∨ i = 1 ∨ i = 2) with h | h | h
    · rw [hidx.1 h]; subst h; rfl
    · rw [hidx.2.1 h]; subst h; rfl
    · rw [hidx.2.2 h]; subst h; rfl
  clear hidx
  refine wpList_front (step_run rfl _ _ hidx' ?_)
  clear hidx'
  refine wpList_front (step_run rfl _ _ (run_move rfl ((P _ _ (by decide)).trans ((P _ _ (by decide)).trans ((P _ _ (by decide)).trans ((P _ _ (by decide)).trans ((P _ _ (by decide)).trans ((P _ _ (by decide)).trans x1))))))) ?_)
  refine wpList_front (step_run rfl _ _ (run_alloc24 rfl) ?_)
  refine wpList_front (step_storeRow rfl 24 rfl w.heap.size (dyC (ao i) (y i).bl.length (cap i) (y i)) (eval_put_eq _ (by rw [Z, Z, Z, Z, Z, Z, Z, hsz]; decide) _) ((P _ _ (by decide)).trans ((P _ _ (by decide)).trans (eval_put_eq _ (by rw [Z, Z, Z, Z, Z, hsz]; decide) _))) 24 _ (World.alloc_heap_new _ _) (by kernel_rfl) rfl (by simp [Value.oneCell']) ?_)
  rw [show ∀ a : Act, a.put mj8.dst undef = a from fun _ => rfl]
  refine wpList_front (step_run rfl _ _ (run_assign rfl ((P _ _ (by decide)).trans (eval_put_eq _ (by rw [Z, Z, Z, Z, Z, Z, hsz]; decide) _))) ?_)
  refine wpList_nil (hend _ w.heap.size ?_ ?_)
  · rw [putObj_at (World.alloc_heap_new _ _)]; simp
  · exact ((Mod.refl noB w).alloc _).putObj (fun h => absurd h (by omega)) _
end Go.Proofs.YtdncppempgpooaaDoor

/- RuleMore: the regions that copy the blades and the stints. (The operations: written by wip/tools.) -/
namespace Go.Proofs.YtdncppempgpooaaDoor
open Go Go.RowKit Go.Shelf

@[reducible] def md0 : Oper := { dst := some 95, op := Op.buildSlice 22 0 #[], type := 22, pos := "outright.go:210", after := #[], guard := none }
@[reducible] def md1 : Oper := { dst := some 96, op := Op.fieldAddr 24 (Operand.tmp 4) 0, type := 0, pos := "outright.go:210", after := #[], guard := none }
@[reducible] def md2 : Oper := { dst := some 97, op := Op.load 22 (Operand.tmp 96), type := 22, pos := "outright.go:210", after := #[{ on := 1, ground := Ground.data }], guard := none }
@[reducible] def md3 : Oper := { dst := some 98, op := Op.call { callee := Callee.builtin Builtin.append, args := #[Operand.tmp 95, Operand.tmp 97], argTypes := #[22, 22] }, type := 22, pos := "outright.go:210", after := #[{ on := 0, ground := Ground.data }, { on := 2, ground := Ground.data }], guard := none }
@[reducible] def md4 : Oper := { dst := some 99, op := Op.fieldAddr 24 (Operand.tmp 15) 0, type := 0, pos := "outright.go:210", after := #[{ on := 0, ground := Ground.phase }, { on := 1, ground := Ground.phase }, { on := 2, ground := Ground.phase }, { on := 3, ground := Ground.phase }], guard := none }
@[reducible] def md5 : Oper := { dst := none, op := Op.store 22 (Operand.tmp 99) (Operand.tmp 98), type := 0, pos := "outright.go:210", after := #[{ on := 4, ground := Ground.data }, { on := 3, ground := Ground.data }, { on := 3, ground := Ground.chain }, { on := 0, ground := Ground.phase }, { on := 1, ground := Ground.phase }, { on := 2, ground := Ground.phase }, { on := 3, ground := Ground.phase }], guard := none }
@[reducible] def mdOps : List Oper := [md0, md1, md2, md3, md4, md5]
@[reducible] def mk0 : Oper := { dst := some 154, op := Op.buildSlice 33 0 #[], type := 33, pos := "outright.go:215", after := #[], guard := none }
@[reducible] def mk1 : Oper := { dst := some 155, op := Op.move (Operand.tmp 1), type := 33, pos := "outright.go:215", after := #[], guard := none }
@[reducible] def mk2 : Oper := { dst := some 156, op := Op.call { callee := Callee.builtin Builtin.append, args := #[Operand.tmp 154, Operand.tmp 155], argTypes := #[33, 33] }, type := 33, pos := "outright.go:215", after := #[{ on := 0, ground := Ground.data }, { on := 1, ground := Ground.data }], guard := none }
@[reducible] def mk3 : Oper := { dst := some 18, op := Op.assign (Operand.tmp 156), type := 33, pos := "outright.go:215", after := #[{ on := 2, ground := Ground.data }, { on := 2, ground := Ground.chain }, { on := 0, ground := Ground.phase }, { on := 1, ground := Ground.phase }, { on := 2, ground := Ground.phase }], guard := none }
@[reducible] def mkOps : List Oper := [mk0, mk1, mk2, mk3]

/-- Blades in a block of their own. -/
def BlAt (g : Nat) (bl : List Bld) (W : World) : Prop := ∃ cur, W.heap[g]? = some (.cells cur 53) ∧ ∀ k x, bl[k]? = some x → ∀ j, j < 4 → cur[k * 4 + j]? = (blC x)[j]?
theorem own_blAt {base n g cp : Nat} {L : List Bld} {W : World} (h : OwnB base (.slice (some ⟨g, 0, none⟩) n cp) n L W) (hn : L.length = n) : BlAt g L W ∧ base ≤ g := by
  have h0 := h.1
  rcases h0.2 with ⟨hz, _⟩ | ⟨g', cap', cur, hv, hbg, hh, _⟩
  · cases hz
  · cases hv
    refine ⟨⟨cur, hh, fun k x hx j hj => ?_⟩, hbg⟩
    have hk := (List.getElem?_eq_some_iff.1 hx).1
    have := h0.cellAt (k * 4 + j) (by omega)
    rw [cellsAt hh] at this
    rw [this]
    exact flat_at L k x hx j hj
theorem BlAt.blades {g B : Nat} {L : List Bld} {W : World} (h : BlAt g L W) (hB : g < B) (hs : L.length ≤ 100) : BladesAt B W (some ⟨g, 0, none⟩) L :=
  ⟨fun _ => by
    obtain ⟨cur, h1, h2⟩ := h
    exact ⟨g, 0, rfl, hB, fun k x hx j hj => by rw [Nat.zero_add, cellsAt h1]; exact h2 k x hx j hj⟩, by omega⟩
theorem bl_cur {cur : Array Value} {bl : List Bld} {k t5 t3 : Nat} (hcs : ∀ j x, bl[j]? = some x → ∀ i, i < 4 → cur[j * 4 + i]? = (blC x)[i]?) {y : Bld} (hx : bl[k]? = some y) :
    ∀ j x, (bl.set k (sharpB y t5 t3))[j]? = some x → ∀ i, i < 4 → ((cur.setIfInBounds (0 + k * 4 + 1) (.int .i64 (sharpB y t5 t3).f.2)).setIfInBounds (0 + k * 4 + 3) (.int .i64 (sharpB y t5 t3).w.2))[j * 4 + i]? = (blC x)[i]? := by
  intro j x hj i hi
  have hk := hcs k _ hx
  have e0 := hk 0 (by omega)
  have e1 := hk 1 (by omega)
  have e2 := hk 2 (by omega)
  have e3 := hk 3 (by omega)
  simp at e0 e1 e2 e3
  have z1 := (Array.getElem?_eq_some_iff.1 e1).1
  have z3 := (Array.getElem?_eq_some_iff.1 e3).1
  rw [List.getElem?_set] at hj
  simp only [Array.getElem?_setIfInBounds, Nat.zero_add, Array.size_setIfInBounds]
  by_cases h : k = j
  · subst h
    have hl := (List.getElem?_eq_some_iff.1 hx).1
    rw [if_pos rfl, if_pos hl] at hj
    obtain rfl := Option.some.inj hj
    rcases (by omega : i = 0 ∨ i = 1 ∨ i = 2 ∨ i = 3) with rfl | rfl | rfl | rfl
    · rw [if_neg (by omega), if_neg (by omega)]; simpa [sharpB] using e0
    · rw [if_neg (by omega), if_pos rfl, if_pos z1]; rfl
    · rw [if_neg (by omega), if_neg (by omega)]; simpa [sharpB] using e2
    · rw [if_pos rfl, if_pos z3]; rfl
  · rw [if_neg h] at hj
    rw [if_neg (by omega), if_neg (by omega)]
    exact hcs j x hj i hi
theorem own_stAt {base n g cp : Nat} {L : List (Int × Int)} {W : World} (h : OwnS base (.slice (some ⟨g, 0, none⟩) n cp) n L W) (hn : L.length = n) : (∃ cur, W.heap[g]? = some (.cells cur 58) ∧ ∀ k x, L[k]? = some x → cur[k * 2]? = some (.int .i64 x.1) ∧ cur[k * 2 + 1]? = some (.int .i64 x.2)) ∧ base ≤ g := by
  have h0 := h.1
  rcases h0.2 with ⟨hz, _⟩ | ⟨g', cap', cur, hv, hbg, hh, _⟩
  · cases hz
  · cases hv
    have flat2 : ∀ (L : List (Int × Int)) (k : Nat) (x : Int × Int), L[k]? = some x → ∀ j, j < 2 → (flatS L)[k * 2 + j]? = (spC x)[j]? := by
      intro L
      induction L with
      | nil => intro k x h; simp at h
      | cons b L ih =>
        intro k x h j hj
        have e : flatS (b :: L) = (spC b).toList ++ flatS L := by simp [flatS]
        rw [e]
        cases k with
        | zero =>
          obtain rfl : b = x := by simpa using h
          rw [List.getElem?_append_left (by simp; omega), Nat.zero_mul, Nat.zero_add]
          simp
        | succ k =>
          rw [List.getElem?_append_right (by simp; omega), show (k + 1) * 2 + j - (spC b).toList.length = k * 2 + j by simp; omega]
          exact ih k x (by simpa using h) j hj
    refine ⟨⟨cur, hh, fun k x hx => ?_⟩, hbg⟩
    have hk := (List.getElem?_eq_some_iff.1 hx).1
    have g0 := h0.cellAt (k * 2 + 0) (by omega)
    have g1 := h0.cellAt (k * 2 + 1) (by omega)
    rw [cellsAt hh, flat2 L k x hx 0 (by omega)] at g0
    rw [cellsAt hh, flat2 L k x hx 1 (by omega)] at g1
    exact ⟨g0, g1⟩
theorem run_build33 {o : Oper} {a : Act} {w : World} (hop : o.op = .buildSlice 33 0 #[]) : (execOp a.eval o).run Tryd.prog w = .ok (.value (.slice (some ⟨w.heap.size, 0, none⟩) 0 0)) (w.alloc (.cells #[] 58)) := by
  simp only [execOp, hop]
  go_simp
  done

set_option maxRecDepth 100000 in
set_option maxHeartbeats 4000000 in
theorem region_md {rid : Nat} {Q : Exit → Act → World → Prop} {a0 : Act} {w : World} {ab af cap db sb B : Nat} {d : Dye} (hsz : a0.tmps.size = 256)
    (x4 : a0.eval (.tmp 4) = .pointer (some ⟨db, 0, none⟩)) (x15 : a0.eval (.tmp 15) = .pointer (some ⟨sb, 0, none⟩)) (h5 : d.bl.length ≤ 5) (h0 : d.bl ≠ [])
    (hdie : w.heap[db]? = some (.cells (dyC (some ⟨ab, af, none⟩) d.bl.length cap d) 24)) (hsb : w.heap[sb]? = some (.cells (dyC (some ⟨ab, af, none⟩) d.bl.length cap d) 24)) (hbl : BladesAt B w (some ⟨ab, af, none⟩) d.bl) (hB : B ≤ w.heap.size)
    (hend : ∀ g cp w', BlAt g d.bl w' → w.heap.size ≤ g → w'.heap[sb]? = some (.cells #[.slice (some ⟨g, 0, none⟩) d.bl.length cp, .int .i64 d.bound, .int .i64 d.stop, .int .i64 d.bend] 24) → Mod (fun j => j = sb) w w' →
      Q .normal (((((a0.put (some 95) (.slice (some ⟨w.heap.size, 0, none⟩) 0 0)).put (some 96) (.pointer (some ⟨db, 0, none⟩))).put (some 97) (.slice (some ⟨ab, af, none⟩) d.bl.length cap)).put (some 98) (.slice (some ⟨g, 0, none⟩) d.bl.length cp)).put (some 99) (.pointer (some ⟨sb, 0, none⟩))) w') : (Code.region rid mdOps.toArray false).wp Tryd.prog Q a0 w := by
  have P : ∀ (a : Act) {s t : Nat} (v : Value), s ≠ t → (a.put (some s) v).eval (.tmp t) = a.eval (.tmp t) := fun a s t v h => eval_put_ne a h v
  have Z : ∀ (a : Act) (s : Nat) (v : Value), (a.put (some s) v).tmps.size = a.tmps.size := fun a s v => put_sizeO a (some s) v
  obtain ⟨b0, o0, hb0, hab, hcells⟩ := hbl.lies h0
  obtain ⟨rfl, rfl⟩ : ab = b0 ∧ af = o0 := by
    have := Option.some.inj hb0
    exact ⟨congrArg Addr.block this, congrArg Addr.off this⟩
  have hm1 := (Mod.refl noB w).alloc (.cells #[] 53)
  have hdie1 := hm1.at hdie id
  have hsb1 := hm1.at hsb id
  have hown := own_build w
  have hcw : ∀ i x, d.bl[i]? = some x → ∀ j, j < 4 → (w.alloc (.cells #[] 53)).cell? ⟨ab, af + i * 4 + j, none⟩ = (blC x)[j]? := fun i x hx j hj => (cell_same (hm1.block ab (by omega) id) _).trans (hcells i x hx j hj)
  have hp := part_cells (k := 0) (L := d.bl) hcw (fun i x h => by rw [Nat.zero_add]; exact h)
  rw [Nat.zero_mul, Nat.add_zero] at hp
  have hle : w.heap.size ≤ (w.alloc (.cells #[] 53)).heap.size := hm1.size
  have hslt := at_ltS hsb
  refine wp_region_lit ?_
  refine wpList_front (step_run rfl _ _ (run_build22 rfl) ?_)
  generalize hW1 : w.alloc (.cells #[] 53) = w1 at *
  refine wpList_front (step_run rfl _ _ (run_field24 rfl ((P _ _ (by decide)).trans x4)) ?_)
  refine wpList_front (step_run rfl _ _ (run_load22 rfl (eval_put_eq _ (by rw [Z, hsz]; decide) _) (cellsAt hdie1 0)) ?_)
  refine app_blades rfl rfl ((P _ _ (by decide)).trans ((P _ _ (by decide)).trans (eval_put_eq _ (by rw [hsz]; decide) _))) hown (eval_put_eq _ (by rw [Z, Z, hsz]; decide) _) (L2 := d.bl) rfl hp hle (by omega) ?_
  intro v' w2 hown2 hm2
  rw [Nat.zero_add, List.nil_append] at hown2
  obtain ⟨g, cp, rfl, _⟩ := hown2.2
  obtain ⟨hbl2, hbg⟩ := own_blAt hown2 rfl
  have hsb2 := hm2.at hsb1 (fun h => by omega)
  refine wpList_front (step_run rfl _ _ (run_field24 rfl ((P _ _ (by decide)).trans ((P _ _ (by decide)).trans ((P _ _ (by decide)).trans ((P _ _ (by decide)).trans x15))))) ?_)
  refine wpList_front (step_store22 rfl rfl (eval_put_eq _ (by rw [Z, Z, Z, Z, hsz]; decide) _) ((P _ _ (by decide)).trans (eval_put_eq _ (by rw [Z, Z, Z, hsz]; decide) _)) hsb2 ?_)
  refine wpList_nil (hend g cp _ ?_ hbg ?_ ?_)
  · obtain ⟨cur, h1, h2⟩ := hbl2
    refine ⟨cur, ?_, h2⟩
    have hne : sb ≠ g := by omega
    exact (((Mod.refl (fun j => j = sb) w2).setCell (p := ⟨sb, 0, none⟩) (fun _ => rfl) _).block g (at_ltS h1) (fun e => hne e.symm)).trans h1
  · rw [setCell_at hsb2]; rfl
  · exact (show Mod (fun j => j = sb) w w2 from (hm1.wider (fun _ _ h => h.elim)).then hm2 (fun i h1 h2 => by omega)).setCell (p := ⟨sb, 0, none⟩) (fun _ => rfl) _

set_option maxRecDepth 100000 in
set_option maxHeartbeats 4000000 in
theorem region_mk {rid : Nat} {Q : Exit → Act → World → Prop} {a0 : Act} {w : World} {lo : Option Addr} {l : List (Int × Int)} {lcap B : Nat} (hsz : a0.tmps.size = 256)
    (x1 : a0.eval (.tmp 1) = .slice lo l.length lcap) (hst : StintsAt B w lo l) (hB : B ≤ w.heap.size) (h7 : l.length ≤ 7) (hcn : lo = none → lcap = 0)
    (hend : ∀ g cp w', (∃ cur, w'.heap[g]? = some (.cells cur 58) ∧ ∀ k x, l[k]? = some x → cur[k * 2]? = some (.int .i64 x.1) ∧ cur[k * 2 + 1]? = some (.int .i64 x.2)) → w.heap.size ≤ g → Mod noB w w' →
      Q .normal ((((a0.put (some 154) (.slice (some ⟨w.heap.size, 0, none⟩) 0 0)).put (some 155) (.slice lo l.length lcap)).put (some 156) (.slice (some ⟨g, 0, none⟩) l.length cp)).put (some 18) (.slice (some ⟨g, 0, none⟩) l.length cp)) w') : (Code.region rid mkOps.toArray false).wp Tryd.prog Q a0 w := by
  have P : ∀ (a : Act) {s t : Nat} (v : Value), s ≠ t → (a.put (some s) v).eval (.tmp t) = a.eval (.tmp t) := fun a s t v h => eval_put_ne a h v
  have Z : ∀ (a : Act) (s : Nat) (v : Value), (a.put (some s) v).tmps.size = a.tmps.size := fun a s v => put_sizeO a (some s) v
  have hm1 := (Mod.refl noB w).alloc (.cells #[] 58)
  have hst1 : StintsAt B (w.alloc (.cells #[] 58)) lo l := hst.low (Low.ofN hm1 hB)
  have hle : w.heap.size ≤ (w.alloc (.cells #[] 58)).heap.size := hm1.size
  have hnew := World.alloc_heap_new w (.cells #[] 58)
  refine wp_region_lit ?_
  refine wpList_front (step_run rfl _ _ (run_build33 rfl) ?_)
  generalize hW1 : w.alloc (.cells #[] 58) = w1 at *
  refine wpList_front (step_run rfl _ _ (run_move rfl ((P _ _ (by decide)).trans x1)) ?_)
  refine app_stints (base := w.heap.size) rfl rfl ((P _ _ (by decide)).trans (eval_put_eq _ (by rw [hsz]; decide) _)) hnew (Nat.le_refl _) (eval_put_eq _ (by rw [Z, hsz]; decide) _) hst1 (by omega) hcn hle ?_
  intro v' w2 hown hm2
  obtain ⟨g, cp, rfl, _⟩ := hown.2
  obtain ⟨hst2, hbg⟩ := own_stAt hown rfl
  refine wpList_front (step_run rfl _ _ (run_assign rfl (eval_put_eq _ (by rw [Z, Z, hsz]; decide) _)) ?_)
  exact wpList_nil (hend g cp _ hst2 hbg (hm1.then hm2 (fun i h1 h2 => by omega)))
end Go.Proofs.YtdncppempgpooaaDoor

/- RuleMore: the law's walk: the loop that makes every stint less. (Its code and frame: written by wip/tools.) -/
namespace Go.Proofs.YtdncppempgpooaaDoor
open Go Go.RowKit Go.Shelf

def StAt (sg : Nat) (g : Nat → Int × Int → Int × Int) (l : List (Int × Int)) (W : World) : Prop := ∃ cur, W.heap[sg]? = some (.cells cur 58) ∧ ∀ k x, l[k]? = some x → cur[k * 2]? = some (.int .i64 (g k x).1) ∧ cur[k * 2 + 1]? = some (.int .i64 (g k x).2)
theorem st_cur {cur : Array Value} {l : List (Int × Int)} {k t4 t6 : Nat} {q1 q2 : Int} (hcs : ∀ j x, l[j]? = some x → cur[j * 2]? = some (.int .i64 (if j < k then shortS t4 t6 x else x).1) ∧ cur[j * 2 + 1]? = some (.int .i64 (if j < k then shortS t4 t6 x else x).2)) (hx : l[k]? = some (q1, q2)) :
    ∀ j x, l[j]? = some x → ((cur.setIfInBounds (0 + k * 2) (.int .i64 (shortS t4 t6 (q1, q2)).1)).setIfInBounds (0 + k * 2 + 1) (.int .i64 (shortS t4 t6 (q1, q2)).2))[j * 2]? = some (.int .i64 (if j < k + 1 then shortS t4 t6 x else x).1) ∧ ((cur.setIfInBounds (0 + k * 2) (.int .i64 (shortS t4 t6 (q1, q2)).1)).setIfInBounds (0 + k * 2 + 1) (.int .i64 (shortS t4 t6 (q1, q2)).2))[j * 2 + 1]? = some (.int .i64 (if j < k + 1 then shortS t4 t6 x else x).2) := by
  intro j x hj
  obtain ⟨g1, g2⟩ := hcs j x hj
  obtain ⟨k1, k2⟩ := hcs k _ hx
  have z1 := (Array.getElem?_eq_some_iff.1 k1).1
  have z2 := (Array.getElem?_eq_some_iff.1 k2).1
  by_cases h : j = k
  · subst h
    obtain rfl := Option.some.inj (hx.symm.trans hj)
    rw [if_pos (by omega)]
    simp only [Array.getElem?_setIfInBounds, Nat.zero_add, Array.size_setIfInBounds]
    constructor
    · rw [if_neg (by omega), if_pos trivial, if_pos z1]
    · rw [if_pos trivial, if_pos z2]
  · rw [show (if j < k + 1 then shortS t4 t6 x else x) = (if j < k then shortS t4 t6 x else x) from by
      by_cases h2 : j < k
      · rw [if_pos h2, if_pos (by omega)]
      · rw [if_neg h2, if_neg (by omega)]]
    simp only [Array.getElem?_setIfInBounds, Nat.zero_add, Array.size_setIfInBounds]
    constructor
    · rw [if_neg (by omega), if_neg (by omega)]; exact g1
    · rw [if_neg (by omega), if_neg (by omega)]; exact g2

@[reducible] def bodyS : Code := (((Code.region 17 #[{ dst := some 157, op := Op.move (Operand.tmp 19), type := 3, pos := "outright.go:216", after := #[], guard := none }, { dst := some 158, op := Op.move (Operand.tmp 18), type := 33, pos := "outright.go:216", after := #[], guard := none }, { dst := some 159, op := Op.call { callee := Callee.builtin Builtin.len, args := #[Operand.tmp 158], argTypes := #[33] }, type := 3, pos := "outright.go:216", after := #[{ on := 1, ground := Ground.data }], guard := none }, { dst := some 160, op := Op.binOp BinOp.lss 3 (Operand.tmp 157) (Operand.tmp 159) 3, type := 4, pos := "outright.go:216", after := #[{ on := 0, ground := Ground.data }, { on := 2, ground := Ground.data }], guard := none }] false).seq (Code.cond (Operand.tmp 160) Code.skip (Code.exit 0))).seq ((Code.block 1 ((Code.region 19 #[{ dst := some 163, op := Op.move (Operand.tmp 18), type := 33, pos := "outright.go:217", after := #[], guard := none }, { dst := some 164, op := Op.move (Operand.tmp 19), type := 3, pos := "outright.go:217", after := #[], guard := none }, { dst := some 165, op := Op.move (Operand.tmp 18), type := 33, pos := "outright.go:217", after := #[], guard := none }, { dst := some 166, op := Op.move (Operand.tmp 19), type := 3, pos := "outright.go:217", after := #[], guard := none }, { dst := some 167, op := Op.indexAddr 33 (Operand.tmp 165) (Operand.tmp 166), type := 0, pos := "outright.go:217", after := #[{ on := 2, ground := Ground.data }, { on := 3, ground := Ground.data }], guard := none }, { dst := some 168, op := Op.fieldAddr 58 (Operand.tmp 167) 0, type := 0, pos := "outright.go:217", after := #[{ on := 4, ground := Ground.data }], guard := none }, { dst := some 169, op := Op.load 3 (Operand.tmp 168), type := 3, pos := "outright.go:217", after := #[{ on := 5, ground := Ground.data }], guard := none }, { dst := some 170, op := Op.move (Operand.tmp 3), type := 5, pos := "outright.go:217", after := #[], guard := none }, { dst := some 171, op := Op.convert 5 3 (Operand.tmp 170), type := 3, pos := "outright.go:217", after := #[{ on := 7, ground := Ground.data }], guard := none }, { dst := some 172, op := Op.binOp BinOp.rem 3 (Operand.tmp 171) (Operand.const (Value.int IntKind.i64 4)) 3, type := 3, pos := "outright.go:217", after := #[{ on := 8, ground := Ground.data }], guard := none }, { dst := some 173, op := Op.binOp BinOp.sub 3 (Operand.tmp 169) (Operand.tmp 172) 3, type := 3, pos := "outright.go:217", after := #[{ on := 6, ground := Ground.data }, { on := 9, ground := Ground.data }], guard := none }, { dst := some 174, op := Op.call { callee := Callee.builtin Builtin.max, args := #[Operand.const (Value.int IntKind.i64 1), Operand.tmp 173], argTypes := #[3, 3] }, type := 3, pos := "outright.go:217", after := #[{ on := 10, ground := Ground.data }], guard := none }, { dst := some 175, op := Op.indexAddr 33 (Operand.tmp 163) (Operand.tmp 164), type := 0, pos := "outright.go:217", after := #[{ on := 0, ground := Ground.data }, { on := 1, ground := Ground.data }, { on := 0, ground := Ground.phase }, { on := 1, ground := Ground.phase }, { on := 2, ground := Ground.phase }, { on := 3, ground := Ground.phase }, { on := 4, ground := Ground.phase }, { on := 5, ground := Ground.phase }, { on := 6, ground := Ground.phase }, { on := 7, ground := Ground.phase }, { on := 8, ground := Ground.phase }, { on := 9, ground := Ground.phase }, { on := 10, ground := Ground.phase }, { on := 11, ground := Ground.phase }], guard := none }, { dst := some 176, op := Op.fieldAddr 58 (Operand.tmp 175) 0, type := 0, pos := "outright.go:217", after := #[{ on := 12, ground := Ground.data }, { on := 0, ground := Ground.phase }, { on := 1, ground := Ground.phase }, { on := 2, ground := Ground.phase }, { on := 3, ground := Ground.phase }, { on := 4, ground := Ground.phase }, { on := 5, ground := Ground.phase }, { on := 6, ground := Ground.phase }, { on := 7, ground := Ground.phase }, { on := 8, ground := Ground.phase }, { on := 9, ground := Ground.phase }, { on := 10, ground := Ground.phase }, { on := 11, ground := Ground.phase }], guard := none }, { dst := none, op := Op.store 3 (Operand.tmp 176) (Operand.tmp 174), type := 0, pos := "outright.go:217", after := #[{ on := 13, ground := Ground.data }, { on := 11, ground := Ground.data }, { on := 0, ground := Ground.phase }, { on := 1, ground := Ground.phase }, { on := 2, ground := Ground.phase }, { on := 3, ground := Ground.phase }, { on := 4, ground := Ground.phase }, { on := 5, ground := Ground.phase }, { on := 6, ground := Ground.phase }, { on := 7, ground := Ground.phase }, { on := 8, ground := Ground.phase }, { on := 9, ground := Ground.phase }, { on := 10, ground := Ground.phase }, { on := 11, ground := Ground.phase }], guard := none }] false).seq (Code.region 20 #[{ dst := some 177, op := Op.move (Operand.tmp 18), type := 33, pos := "outright.go:218", after := #[], guard := none }, { dst := some 178, op := Op.move (Operand.tmp 19), type := 3, pos := "outright.go:218", after := #[], guard := none }, { dst := some 179, op := Op.move (Operand.tmp 18), type := 33, pos := "outright.go:218", after := #[], guard := none }, { dst := some 180, op := Op.move (Operand.tmp 19), type := 3, pos := "outright.go:218", after := #[], guard := none }, { dst := some 181, op := Op.indexAddr 33 (Operand.tmp 179) (Operand.tmp 180), type := 0, pos := "outright.go:218", after := #[{ on := 2, ground := Ground.data }, { on := 3, ground := Ground.data }], guard := none }, { dst := some 182, op := Op.fieldAddr 58 (Operand.tmp 181) 1, type := 0, pos := "outright.go:218", after := #[{ on := 4, ground := Ground.data }], guard := none }, { dst := some 183, op := Op.load 3 (Operand.tmp 182), type := 3, pos := "outright.go:218", after := #[{ on := 5, ground := Ground.data }], guard := none }, { dst := some 184, op := Op.move (Operand.tmp 2), type := 5, pos := "outright.go:218", after := #[], guard := none }, { dst := some 185, op := Op.convert 5 3 (Operand.tmp 184), type := 3, pos := "outright.go:218", after := #[{ on := 7, ground := Ground.data }], guard := none }, { dst := some 186, op := Op.binOp BinOp.rem 3 (Operand.tmp 185) (Operand.const (Value.int IntKind.i64 6)) 3, type := 3, pos := "outright.go:218", after := #[{ on := 8, ground := Ground.data }], guard := none }, { dst := some 187, op := Op.binOp BinOp.add 3 (Operand.tmp 183) (Operand.tmp 186) 3, type := 3, pos := "outright.go:218", after := #[{ on := 6, ground := Ground.data }, { on := 9, ground := Ground.data }], guard := none }, { dst := some 188, op := Op.call { callee := Callee.builtin Builtin.min, args := #[Operand.const (Value.int IntKind.i64 100000), Operand.tmp 187], argTypes := #[3, 3] }, type := 3, pos := "outright.go:218", after := #[{ on := 10, ground := Ground.data }], guard := none }, { dst := some 189, op := Op.indexAddr 33 (Operand.tmp 177) (Operand.tmp 178), type := 0, pos := "outright.go:218", after := #[{ on := 0, ground := Ground.data }, { on := 1, ground := Ground.data }, { on := 0, ground := Ground.phase }, { on := 1, ground := Ground.phase }, { on := 2, ground := Ground.phase }, { on := 3, ground := Ground.phase }, { on := 4, ground := Ground.phase }, { on := 5, ground := Ground.phase }, { on := 6, ground := Ground.phase }, { on := 7, ground := Ground.phase }, { on := 8, ground := Ground.phase }, { on := 9, ground := Ground.phase }, { on := 10, ground := Ground.phase }, { on := 11, ground := Ground.phase }], guard := none }, { dst := some 190, op := Op.fieldAddr 58 (Operand.tmp 189) 1, type := 0, pos := "outright.go:218", after := #[{ on := 12, ground := Ground.data }, { on := 0, ground := Ground.phase }, { on := 1, ground := Ground.phase }, { on := 2, ground := Ground.phase }, { on := 3, ground := Ground.phase }, { on := 4, ground := Ground.phase }, { on := 5, ground := Ground.phase }, { on := 6, ground := Ground.phase }, { on := 7, ground := Ground.phase }, { on := 8, ground := Ground.phase }, { on := 9, ground := Ground.phase }, { on := 10, ground := Ground.phase }, { on := 11, ground := Ground.phase }], guard := none }, { dst := none, op := Op.store 3 (Operand.tmp 190) (Operand.tmp 188), type := 0, pos := "outright.go:218", after := #[{ on := 13, ground := Ground.data }, { on := 11, ground := Ground.data }, { on := 0, ground := Ground.phase }, { on := 1, ground := Ground.phase }, { on := 2, ground := Ground.phase }, { on := 3, ground := Ground.phase }, { on := 4, ground := Ground.phase }, { on := 5, ground := Ground.phase }, { on := 6, ground := Ground.phase }, { on := 7, ground := Ground.phase }, { on := 8, ground := Ground.phase }, { on := 9, ground := Ground.phase }, { on := 10, ground := Ground.phase }, { on := 11, ground := Ground.phase }], guard := none }] false))).seq (Code.region 18 #[{ dst := some 161, op := Op.move (Operand.tmp 19), type := 3, pos := "outright.go:216", after := #[], guard := none }, { dst := some 162, op := Op.binOp BinOp.add 3 (Operand.tmp 161) (Operand.const (Value.int IntKind.i64 1)) 3, type := 3, pos := "outright.go:216", after := #[{ on := 0, ground := Ground.data }], guard := none }, { dst := some 19, op := Op.assign (Operand.tmp 162), type := 3, pos := "outright.go:216", after := #[{ on := 1, ground := Ground.data }, { on := 0, ground := Ground.phase }, { on := 1, ground := Ground.phase }], guard := none }] false))).loop

set_option maxRecDepth 100000 in
set_option maxHeartbeats 32000000 in
theorem law10_short {x0 x4 x5 x6 x7 x8 x9 x10 x11 x12 x13 x14 x15 x16 x17 x20 x21 x22 x23 x24 x25 x26 x27 x28 x29 x30 x31 x32 x33 x34 x35 x36 x37 x38 x39 x40 x41 x42 x43 x44 x45 x46 x47 x48 x49 x50 x51 x52 x53 x54 x55 x56 x57 x58 x59 x60 x61 x62 x63 x64 x65 x66 x67 x68 x69 x70 x71 x72 x73 x74 x75 x76 x77 x78 x79 x80 x81 x82 x83 x84 x85 x86 x87 x88 x89 x90 x91 x92 x93 x94 x95 x96 x97 x98 x99 x100 x101 x102 x103 x104 x105 x106 x107 x108 x109 x110 x111 x112 x113 x114 x115 x116 x117 x118 x119 x120 x121 x122 x123 x124 x125 x126 x127 x128 x129 x130 x131 x132 x133 x134 x135 x136 x137 x138 x139 x140 x141 x142 x143 x144 x145 x146 x147 x148 x149 x150 x151 x152 x153 x154 x155 x156 x157 x158 x159 x160 x161 x162 x163 x164 x165 x166 x167 x168 x169 x170 x171 x172 x173 x174 x175 x176 x177 x178 x179 x180 x181 x182 x183 x184 x185 x186 x187 x188 x189 x190 x191 x192 x193 x194 x195 x196 x197 x198 x199 x200 x201 x202 x203 x204 x205 x206 x207 x208 x209 x210 x211 x212 x213 x214 x215 x216 x217 x218 x219 x220 x221 x222 x223 x224 x225 x226 x227 x228 x229 x230 x231 x232 x233 x234 x235 x236 x237 x238 x239 x240 x241 x242 x243 x244 x245 x246 x247 x248 x249 x250 x251 x252 x253 x254 x255 : Value} (lo : Option Addr) (lcap : Nat) (l : List (Int × Int)) (uw ub t4 t6 : Nat) (huw : uw ≤ 255) (hub : ub ≤ 255) (ht4 : Int.tmod (ub : Int) ((4 : Nat) : Int) = (t4 : Int)) (ht6 : Int.tmod (uw : Int) ((6 : Nat) : Int) = (t6 : Int)) (h4 : t4 ≤ 255) (h6 : t6 ≤ 255) (hl7 : l.length ≤ 7) (sg sc : Nat) (w6 : World)
    (HL : Hold (∀ s ∈ l, (1 ≤ s.1 ∧ s.1 ≤ 1000) ∧ 0 ≤ s.2 ∧ s.2 ≤ 100000)) (HS : Hold (StAt sg (fun _ x => x) l w6)) :
    Code.wp Tryd.prog bodyS (Exit.inBlock 0 (only fun a' w' => ∃ v : Nat → Value, a' = { tmps := List.toArray (x0 :: Value.slice lo l.length lcap :: Value.int .u8 (uw : Int) :: Value.int .u8 (ub : Int) :: x4 :: x5 :: x6 :: x7 :: x8 :: x9 :: x10 :: x11 :: x12 :: x13 :: x14 :: x15 :: x16 :: x17 :: Value.slice (some ⟨sg, 0, none⟩) l.length sc :: v 19 :: x20 :: x21 :: x22 :: x23 :: x24 :: x25 :: x26 :: x27 :: x28 :: x29 :: x30 :: x31 :: x32 :: x33 :: x34 :: x35 :: x36 :: x37 :: x38 :: x39 :: x40 :: x41 :: x42 :: x43 :: x44 :: x45 :: x46 :: x47 :: x48 :: x49 :: x50 :: x51 :: x52 :: x53 :: x54 :: x55 :: x56 :: x57 :: x58 :: x59 :: x60 :: x61 :: x62 :: x63 :: x64 :: x65 :: x66 :: x67 :: x68 :: x69 :: x70 :: x71 :: x72 :: x73 :: x74 :: x75 :: x76 :: x77 :: x78 :: x79 :: x80 :: x81 :: x82 :: x83 :: x84 :: x85 :: x86 :: x87 :: x88 :: x89 :: x90 :: x91 :: x92 :: x93 :: x94 :: x95 :: x96 :: x97 :: x98 :: x99 :: x100 :: x101 :: x102 :: x103 :: x104 :: x105 :: x106 :: x107 :: x108 :: x109 :: x110 :: x111 :: x112 :: x113 :: x114 :: x115 :: x116 :: x117 :: x118 :: x119 :: x120 :: x121 :: x122 :: x123 :: x124 :: x125 :: x126 :: x127 :: x128 :: x129 :: x130 :: x131 :: x132 :: x133 :: x134 :: x135 :: x136 :: x137 :: x138 :: x139 :: x140 :: x141 :: x142 :: x143 :: x144 :: x145 :: x146 :: x147 :: x148 :: x149 :: x150 :: x151 :: x152 :: x153 :: x154 :: x155 :: x156 :: v 157 :: v 158 :: v 159 :: v 160 :: v 161 :: v 162 :: v 163 :: v 164 :: v 165 :: v 166 :: v 167 :: v 168 :: v 169 :: v 170 :: v 171 :: v 172 :: v 173 :: v 174 :: v 175 :: v 176 :: v 177 :: v 178 :: v 179 :: v 180 :: v 181 :: v 182 :: v 183 :: v 184 :: v 185 :: v 186 :: v 187 :: v 188 :: v 189 :: v 190 :: x191 :: x192 :: x193 :: x194 :: x195 :: x196 :: x197 :: x198 :: x199 :: x200 :: x201 :: x202 :: x203 :: x204 :: x205 :: x206 :: x207 :: x208 :: x209 :: x210 :: x211 :: x212 :: x213 :: x214 :: x215 :: x216 :: x217 :: x218 :: x219 :: x220 :: x221 :: x222 :: x223 :: x224 :: x225 :: x226 :: x227 :: x228 :: x229 :: x230 :: x231 :: x232 :: x233 :: x234 :: x235 :: x236 :: x237 :: x238 :: x239 :: x240 :: x241 :: x242 :: x243 :: x244 :: x245 :: x246 :: x247 :: x248 :: x249 :: x250 :: x251 :: x252 :: x253 :: x254 :: x255 :: []), defers := [] } ∧ (StAt sg (fun _ x => shortS t4 t6 x) l w' ∧ Mod (fun j => j = sg) w6 w')))
      { tmps := List.toArray (x0 :: Value.slice lo l.length lcap :: Value.int .u8 (uw : Int) :: Value.int .u8 (ub : Int) :: x4 :: x5 :: x6 :: x7 :: x8 :: x9 :: x10 :: x11 :: x12 :: x13 :: x14 :: x15 :: x16 :: x17 :: Value.slice (some ⟨sg, 0, none⟩) l.length sc :: Value.int .i64 0 :: x20 :: x21 :: x22 :: x23 :: x24 :: x25 :: x26 :: x27 :: x28 :: x29 :: x30 :: x31 :: x32 :: x33 :: x34 :: x35 :: x36 :: x37 :: x38 :: x39 :: x40 :: x41 :: x42 :: x43 :: x44 :: x45 :: x46 :: x47 :: x48 :: x49 :: x50 :: x51 :: x52 :: x53 :: x54 :: x55 :: x56 :: x57 :: x58 :: x59 :: x60 :: x61 :: x62 :: x63 :: x64 :: x65 :: x66 :: x67 :: x68 :: x69 :: x70 :: x71 :: x72 :: x73 :: x74 :: x75 :: x76 :: x77 :: x78 :: x79 :: x80 :: x81 :: x82 :: x83 :: x84 :: x85 :: x86 :: x87 :: x88 :: x89 :: x90 :: x91 :: x92 :: x93 :: x94 :: x95 :: x96 :: x97 :: x98 :: x99 :: x100 :: x101 :: x102 :: x103 :: x104 :: x105 :: x106 :: x107 :: x108 :: x109 :: x110 :: x111 :: x112 :: x113 :: x114 :: x115 :: x116 :: x117 :: x118 :: x119 :: x120 :: x121 :: x122 :: x123 :: x124 :: x125 :: x126 :: x127 :: x128 :: x129 :: x130 :: x131 :: x132 :: x133 :: x134 :: x135 :: x136 :: x137 :: x138 :: x139 :: x140 :: x141 :: x142 :: x143 :: x144 :: x145 :: x146 :: x147 :: x148 :: x149 :: x150 :: x151 :: x152 :: x153 :: x154 :: x155 :: x156 :: x157 :: x158 :: x159 :: x160 :: x161 :: x162 :: x163 :: x164 :: x165 :: x166 :: x167 :: x168 :: x169 :: x170 :: x171 :: x172 :: x173 :: x174 :: x175 :: x176 :: x177 :: x178 :: x179 :: x180 :: x181 :: x182 :: x183 :: x184 :: x185 :: x186 :: x187 :: x188 :: x189 :: x190 :: x191 :: x192 :: x193 :: x194 :: x195 :: x196 :: x197 :: x198 :: x199 :: x200 :: x201 :: x202 :: x203 :: x204 :: x205 :: x206 :: x207 :: x208 :: x209 :: x210 :: x211 :: x212 :: x213 :: x214 :: x215 :: x216 :: x217 :: x218 :: x219 :: x220 :: x221 :: x222 :: x223 :: x224 :: x225 :: x226 :: x227 :: x228 :: x229 :: x230 :: x231 :: x232 :: x233 :: x234 :: x235 :: x236 :: x237 :: x238 :: x239 :: x240 :: x241 :: x242 :: x243 :: x244 :: x245 :: x246 :: x247 :: x248 :: x249 :: x250 :: x251 :: x252 :: x253 :: x254 :: x255 :: []), defers := [] } w6 := by
  unfold bodyS
  have HT := Hold.mk (And.intro ht4 ht6)
  clear ht4 ht6
  go_loopw [19] (fun i wr => ∃ k : Nat, k ≤ l.length ∧ i = .int .i64 k ∧ Hold (StAt sg (fun j x => if j < k then shortS t4 t6 x else x) l wr ∧ Mod (fun j => j = sg) w6 wr)) (fun i _ => l.length - (intOf i).toNat)
  case atStart => exact ⟨0, Nat.zero_le _, rfl, ⟨by simpa using HS.out, Mod.refl _ _⟩⟩
  case round =>
    obtain ⟨k, hk, rfl, HR⟩ := hrel
    by_cases hkl : k < l.length
    · obtain ⟨⟨q1, q2⟩, hx⟩ : ∃ x, l[k]? = some x := ⟨_, List.getElem?_eq_getElem hkl⟩
      have hxb := HL.out _ (List.mem_of_getElem? hx)
      simp only at hxb
      obtain ⟨⟨b1, b2⟩, b3, b4⟩ := hxb
      obtain ⟨cur, hcur, hcs⟩ := HR.out.1
      have HC := Hold.mk (And.intro hcur (And.intro hcs hx))
      have hkk := hcs k _ hx
      simp only [Nat.lt_irrefl, if_false] at hkk
      obtain ⟨p0, p1⟩ := hkk
      have P0 := Hold.mk (show cur[0 + k * 2]? = some (.int .i64 q1) by rw [Nat.zero_add]; exact p0)
      have P1 := Hold.mk (show cur[0 + k * 2 + 1]? = some (.int .i64 q2) by rw [Nat.zero_add]; exact p1)
      have HCN := Hold.mk (st_cur hcs hx)
      clear hcur hcs hx p0 p1
      have hkI : (k : Int) < (l.length : Int) := by omega
      go_upto_region 19 with fail
      refine region_mh (sg := sg) (f := 0) (n := l.length) (sc := sc) (i := k) (u := ub) (t := t4) (q := q1) (mx := (shortS t4 t6 (q1, q2)).1) rfl rfl rfl rfl (fun W' h => (cellsAt (h.at HC.out.1 id) _).trans P0.out) (fun W' h => ⟨_, _, _, h.at HC.out.1 id, P0.out⟩) hkl HT.out.1 hub h4 ⟨by omega, by omega⟩ rfl ?_
      intro w1 hM1
      simp only [mhDs, mhC, List.foldl_cons, List.foldl_nil, Act.put, List.setIfInBounds_toArray, List.set_cons_succ, List.set_cons_zero, List.getD_cons_zero, List.getD_cons_succ]
      have hc1 := setCell_at (hM1.at HC.out.1 id) (0 + k * 2) (.int .i64 (shortS t4 t6 (q1, q2)).1)
      have HM1 : Hold (Mod (fun j => j = sg) wr (w1.setCell ⟨sg, 0 + k * 2, none⟩ (.int .i64 (shortS t4 t6 (q1, q2)).1))) := ⟨(show Mod (fun j => j = sg) wr w1 from hM1.wider (fun _ _ h => h.elim)).setCell (p := ⟨sg, 0 + k * 2, none⟩) (fun _ => rfl) _⟩
      generalize w1.setCell ⟨sg, 0 + k * 2, none⟩ (.int .i64 (shortS t4 t6 (q1, q2)).1) = w2 at *
      have HC1 := Hold.mk hc1
      have P2 := Hold.mk (show (cur.setIfInBounds (0 + k * 2) (.int .i64 (shortS t4 t6 (q1, q2)).1))[0 + k * 2 + 1]? = some (.int .i64 q2) by rw [Array.getElem?_setIfInBounds, if_neg (by omega)]; exact P1.out)
      clear hc1 hM1
      go_upto_region 20 with fail
      refine region_mi (sg := sg) (f := 0) (n := l.length) (sc := sc) (i := k) (u := uw) (t := t6) (q := q2) (mx := (shortS t4 t6 (q1, q2)).2) rfl rfl rfl rfl (fun W' h => (cellsAt (h.at HC1.out id) _).trans P2.out) (fun W' h => ⟨_, _, _, h.at HC1.out id, P2.out⟩) hkl HT.out.2 huw h6 ⟨by omega, by omega⟩ rfl ?_
      intro w3 hM3
      simp only [miDs, miC, List.foldl_cons, List.foldl_nil, Act.put, List.setIfInBounds_toArray, List.set_cons_succ, List.set_cons_zero, List.getD_cons_zero, List.getD_cons_succ]
      have HC3 := Hold.mk (setCell_at (hM3.at HC1.out id) (0 + k * 2 + 1) (.int .i64 (shortS t4 t6 (q1, q2)).2))
      have HM3 : Hold (Mod (fun j => j = sg) wr (w3.setCell ⟨sg, 0 + k * 2 + 1, none⟩ (.int .i64 (shortS t4 t6 (q1, q2)).2))) := ⟨(show Mod (fun j => j = sg) wr w3 from HM1.out.trans (hM3.wider (fun _ _ h => h.elim))).setCell (p := ⟨sg, 0 + k * 2 + 1, none⟩) (fun _ => rfl) _⟩
      generalize w3.setCell ⟨sg, 0 + k * 2 + 1, none⟩ (.int .i64 (shortS t4 t6 (q1, q2)).2) = w4 at *
      clear hM3
      go_wp2
      go_roundw
      case rel => exact ⟨k + 1, by omega, by go_num, ⟨⟨_, HC3.out, HCN.out⟩, HR.out.2.trans HM3.out⟩⟩
      case measure => simp [intOf]; omega
    · obtain rfl : k = l.length := by omega
      have HE : Hold (StAt sg (fun _ x => shortS t4 t6 x) l wr ∧ Mod (fun j => j = sg) w6 wr) := ⟨by
        obtain ⟨⟨cur, h1, h2⟩, h3⟩ := HR.out
        refine ⟨⟨cur, h1, fun j x hj => ?_⟩, h3⟩
        have := h2 j x hj
        simp only [(List.getElem?_eq_some_iff.1 hj).1, if_true] at this
        exact this⟩
      go_wp2
      exact ⟨rfl, end_frame _ _ _ rfl HE.out⟩
end Go.Proofs.YtdncppempgpooaaDoor

/- RuleMore: the law's walk: the loop over the three pairs of a die and stints. (Its code and frame: written by wip/tools.) -/
namespace Go.Proofs.YtdncppempgpooaaDoor
open Go Go.RowKit Go.Shelf

@[reducible] def bodyT : Code := (Code.block 3 ((Code.region 24 #[{ dst := some 195, op := Op.load 24 (Operand.tmp 15), type := 24, pos := "outright.go:221", after := #[], guard := none }, { dst := some 196, op := Op.load 24 (Operand.tmp 16), type := 24, pos := "outright.go:221", after := #[], guard := none }, { dst := some 197, op := Op.load 24 (Operand.tmp 4), type := 24, pos := "outright.go:221", after := #[], guard := none }, { dst := some 198, op := Op.build 68 #[(0, Operand.tmp 195), (1, Operand.tmp 196), (2, Operand.tmp 197)], type := 68, pos := "outright.go:221", after := #[{ on := 0, ground := Ground.data }, { on := 1, ground := Ground.data }, { on := 2, ground := Ground.data }], guard := none }, { dst := some 199, op := Op.move (Operand.tmp 20), type := 3, pos := "outright.go:221", after := #[], guard := none }, { dst := some 200, op := Op.index 68 (Operand.tmp 198) (Operand.tmp 199), type := 24, pos := "outright.go:221", after := #[{ on := 3, ground := Ground.data }, { on := 4, ground := Ground.data }], guard := none }, { dst := some 201, op := Op.move (Operand.tmp 1), type := 33, pos := "outright.go:221", after := #[{ on := 8, ground := Ground.gcOnly Departure.lateStores }], guard := none }, { dst := some 21, op := Op.alloc 24, type := 0, pos := "outright.go:221", after := #[], guard := none }, { dst := none, op := Op.store 24 (Operand.tmp 21) (Operand.tmp 200), type := 0, pos := "outright.go:221", after := #[{ on := 7, ground := Ground.data }, { on := 5, ground := Ground.data }, { on := 0, ground := Ground.phase }, { on := 1, ground := Ground.phase }, { on := 2, ground := Ground.phase }, { on := 3, ground := Ground.phase }, { on := 4, ground := Ground.phase }, { on := 5, ground := Ground.phase }, { on := 6, ground := Ground.textOnly Departure.lateStores }, { on := 7, ground := Ground.phase }], guard := none }, { dst := some 22, op := Op.assign (Operand.tmp 201), type := 33, pos := "outright.go:221", after := #[{ on := 6, ground := Ground.data }, { on := 8, ground := Ground.chain }, { on := 0, ground := Ground.phase }, { on := 1, ground := Ground.phase }, { on := 2, ground := Ground.phase }, { on := 3, ground := Ground.phase }, { on := 4, ground := Ground.phase }, { on := 5, ground := Ground.phase }, { on := 6, ground := Ground.phase }, { on := 7, ground := Ground.phase }, { on := 8, ground := Ground.phase }], guard := none }] false).seq (((Code.region 25 #[{ dst := some 202, op := Op.move (Operand.tmp 20), type := 3, pos := "outright.go:222", after := #[], guard := none }, { dst := some 203, op := Op.binOp BinOp.eql 3 (Operand.tmp 202) (Operand.const (Value.int IntKind.i64 2)) 3, type := 4, pos := "outright.go:222", after := #[{ on := 0, ground := Ground.data }], guard := none }] false).seq (Code.cond (Operand.tmp 203) (Code.region 26 #[{ dst := some 204, op := Op.move (Operand.tmp 18), type := 33, pos := "outright.go:223", after := #[], guard := none }, { dst := some 22, op := Op.assign (Operand.tmp 204), type := 33, pos := "outright.go:223", after := #[{ on := 0, ground := Ground.data }, { on := 0, ground := Ground.phase }], guard := none }] false) Code.skip)).seq ((Code.region 27 #[{ dst := some 206, op := Op.load 24 (Operand.tmp 21), type := 24, pos := "outright.go:225", after := #[], guard := none }, { dst := some 207, op := Op.move (Operand.tmp 22), type := 33, pos := "outright.go:225", after := #[], guard := none }, { dst := some 208, op := Op.move (Operand.tmp 9), type := 34, pos := "outright.go:225", after := #[], guard := none }, { dst := some 209, op := Op.call { callee := Callee.value (Operand.func 18), args := #[Operand.tmp 206, Operand.tmp 207, Operand.tmp 208], argTypes := #[24, 33, 34] }, type := 35, pos := "outright.go:225", after := #[{ on := 0, ground := Ground.data }, { on := 1, ground := Ground.data }, { on := 2, ground := Ground.data }], guard := none }, { dst := some 205, op := Op.move (Operand.tmp 209), type := 35, pos := "outright.go:225", after := #[{ on := 3, ground := Ground.data }], guard := none }, { dst := some 210, op := Op.extract (Operand.tmp 205) 0, type := 3, pos := "outright.go:225", after := #[{ on := 4, ground := Ground.data }], guard := none }, { dst := some 211, op := Op.extract (Operand.tmp 205) 1, type := 3, pos := "outright.go:225", after := #[{ on := 4, ground := Ground.data }, { on := 9, ground := Ground.gcOnly Departure.lateStores }], guard := none }, { dst := some 212, op := Op.extract (Operand.tmp 205) 2, type := 3, pos := "outright.go:225", after := #[{ on := 4, ground := Ground.data }, { on := 10, ground := Ground.gcOnly Departure.lateStores }], guard := none }, { dst := some 213, op := Op.extract (Operand.tmp 205) 3, type := 29, pos := "outright.go:225", after := #[{ on := 4, ground := Ground.data }, { on := 11, ground := Ground.gcOnly Departure.lateStores }], guard := none }, { dst := some 23, op := Op.assign (Operand.tmp 210), type := 3, pos := "outright.go:225", after := #[{ on := 5, ground := Ground.data }, { on := 3, ground := Ground.chain }, { on := 0, ground := Ground.phase }, { on := 1, ground := Ground.phase }, { on := 2, ground := Ground.phase }, { on := 3, ground := Ground.phase }, { on := 4, ground := Ground.phase }, { on := 5, ground := Ground.phase }, { on := 6, ground := Ground.textOnly Departure.lateStores }, { on := 7, ground := Ground.textOnly Departure.lateStores }, { on := 8, ground := Ground.textOnly Departure.lateStores }], guard := none }, { dst := some 24, op := Op.assign (Operand.tmp 211), type := 3, pos := "outright.go:225", after := #[{ on := 6, ground := Ground.data }, { on := 9, ground := Ground.chain }, { on := 0, ground := Ground.phase }, { on := 1, ground := Ground.phase }, { on := 2, ground := Ground.phase }, { on := 3, ground := Ground.phase }, { on := 4, ground := Ground.phase }, { on := 5, ground := Ground.phase }, { on := 6, ground := Ground.phase }, { on := 7, ground := Ground.textOnly Departure.lateStores }, { on := 8, ground := Ground.textOnly Departure.lateStores }, { on := 9, ground := Ground.phase }], guard := none }, { dst := some 25, op := Op.assign (Operand.tmp 212), type := 3, pos := "outright.go:225", after := #[{ on := 7, ground := Ground.data }, { on := 10, ground := Ground.chain }, { on := 0, ground := Ground.phase }, { on := 1, ground := Ground.phase }, { on := 2, ground := Ground.phase }, { on := 3, ground := Ground.phase }, { on := 4, ground := Ground.phase }, { on := 5, ground := Ground.phase }, { on := 6, ground := Ground.phase }, { on := 7, ground := Ground.phase }, { on := 8, ground := Ground.textOnly Departure.lateStores }, { on := 9, ground := Ground.phase }, { on := 10, ground := Ground.phase }], guard := none }, { dst := some 26, op := Op.assign (Operand.tmp 213), type := 29, pos := "outright.go:225", after := #[{ on := 8, ground := Ground.data }, { on := 11, ground := Ground.chain }, { on := 0, ground := Ground.phase }, { on := 1, ground := Ground.phase }, { on := 2, ground := Ground.phase }, { on := 3, ground := Ground.phase }, { on := 4, ground := Ground.phase }, { on := 5, ground := Ground.phase }, { on := 6, ground := Ground.phase }, { on := 7, ground := Ground.phase }, { on := 8, ground := Ground.phase }, { on := 9, ground := Ground.phase }, { on := 10, ground := Ground.phase }, { on := 11, ground := Ground.phase }], guard := none }] false).seq ((Code.region 28 #[{ dst := some 215, op := Op.load 24 (Operand.tmp 21), type := 24, pos := "outright.go:226", after := #[], guard := none }, { dst := some 216, op := Op.move (Operand.tmp 22), type := 33, pos := "outright.go:226", after := #[], guard := none }, { dst := some 217, op := Op.call { callee := Callee.value (Operand.func 25), args := #[Operand.tmp 215, Operand.tmp 216], argTypes := #[24, 33] }, type := 43, pos := "outright.go:226", after := #[{ on := 0, ground := Ground.data }, { on := 1, ground := Ground.data }], guard := none }, { dst := some 214, op := Op.move (Operand.tmp 217), type := 43, pos := "outright.go:226", after := #[{ on := 2, ground := Ground.data }], guard := none }, { dst := some 218, op := Op.extract (Operand.tmp 214) 0, type := 34, pos := "outright.go:226", after := #[{ on := 3, ground := Ground.data }], guard := none }, { dst := some 219, op := Op.extract (Operand.tmp 214) 1, type := 3, pos := "outright.go:226", after := #[{ on := 3, ground := Ground.data }, { on := 7, ground := Ground.gcOnly Departure.lateStores }], guard := none }, { dst := some 220, op := Op.extract (Operand.tmp 214) 2, type := 29, pos := "outright.go:226", after := #[{ on := 3, ground := Ground.data }, { on := 8, ground := Ground.gcOnly Departure.lateStores }], guard := none }, { dst := some 27, op := Op.assign (Operand.tmp 218), type := 34, pos := "outright.go:226", after := #[{ on := 4, ground := Ground.data }, { on := 2, ground := Ground.chain }, { on := 0, ground := Ground.phase }, { on := 1, ground := Ground.phase }, { on := 2, ground := Ground.phase }, { on := 3, ground := Ground.phase }, { on := 4, ground := Ground.phase }, { on := 5, ground := Ground.textOnly Departure.lateStores }, { on := 6, ground := Ground.textOnly Departure.lateStores }], guard := none }, { dst := some 28, op := Op.assign (Operand.tmp 219), type := 3, pos := "outright.go:226", after := #[{ on := 5, ground := Ground.data }, { on := 7, ground := Ground.chain }, { on := 0, ground := Ground.phase }, { on := 1, ground := Ground.phase }, { on := 2, ground := Ground.phase }, { on := 3, ground := Ground.phase }, { on := 4, ground := Ground.phase }, { on := 5, ground := Ground.phase }, { on := 6, ground := Ground.textOnly Departure.lateStores }, { on := 7, ground := Ground.phase }], guard := none }, { dst := some 29, op := Op.assign (Operand.tmp 220), type := 29, pos := "outright.go:226", after := #[{ on := 6, ground := Ground.data }, { on := 8, ground := Ground.chain }, { on := 0, ground := Ground.phase }, { on := 1, ground := Ground.phase }, { on := 2, ground := Ground.phase }, { on := 3, ground := Ground.phase }, { on := 4, ground := Ground.phase }, { on := 5, ground := Ground.phase }, { on := 6, ground := Ground.phase }, { on := 7, ground := Ground.phase }, { on := 8, ground := Ground.phase }], guard := none }] false).seq ((Code.region 29 #[{ dst := some 222, op := Op.load 24 (Operand.tmp 21), type := 24, pos := "outright.go:227", after := #[], guard := none }, { dst := some 223, op := Op.move (Operand.tmp 22), type := 33, pos := "outright.go:227", after := #[], guard := none }, { dst := some 224, op := Op.call { callee := Callee.value (Operand.func 20), args := #[Operand.tmp 222, Operand.tmp 223], argTypes := #[24, 33] }, type := 38, pos := "outright.go:227", after := #[{ on := 0, ground := Ground.data }, { on := 1, ground := Ground.data }], guard := none }, { dst := some 221, op := Op.move (Operand.tmp 224), type := 38, pos := "outright.go:227", after := #[{ on := 2, ground := Ground.data }], guard := none }, { dst := some 225, op := Op.extract (Operand.tmp 221) 0, type := 37, pos := "outright.go:227", after := #[{ on := 3, ground := Ground.data }], guard := none }, { dst := some 226, op := Op.extract (Operand.tmp 221) 1, type := 34, pos := "outright.go:227", after := #[{ on := 3, ground := Ground.data }, { on := 7, ground := Ground.gcOnly Departure.lateStores }], guard := none }, { dst := some 227, op := Op.extract (Operand.tmp 221) 2, type := 29, pos := "outright.go:227", after := #[{ on := 3, ground := Ground.data }, { on := 8, ground := Ground.gcOnly Departure.lateStores }], guard := none }, { dst := some 30, op := Op.assign (Operand.tmp 225), type := 37, pos := "outright.go:227", after := #[{ on := 4, ground := Ground.data }, { on := 2, ground := Ground.chain }, { on := 0, ground := Ground.phase }, { on := 1, ground := Ground.phase }, { on := 2, ground := Ground.phase }, { on := 3, ground := Ground.phase }, { on := 4, ground := Ground.phase }, { on := 5, ground := Ground.textOnly Departure.lateStores }, { on := 6, ground := Ground.textOnly Departure.lateStores }], guard := none }, { dst := some 31, op := Op.assign (Operand.tmp 226), type := 34, pos := "outright.go:227", after := #[{ on := 5, ground := Ground.data }, { on := 7, ground := Ground.chain }, { on := 0, ground := Ground.phase }, { on := 1, ground := Ground.phase }, { on := 2, ground := Ground.phase }, { on := 3, ground := Ground.phase }, { on := 4, ground := Ground.phase }, { on := 5, ground := Ground.phase }, { on := 6, ground := Ground.textOnly Departure.lateStores }, { on := 7, ground := Ground.phase }], guard := none }, { dst := some 32, op := Op.assign (Operand.tmp 227), type := 29, pos := "outright.go:227", after := #[{ on := 6, ground := Ground.data }, { on := 8, ground := Ground.chain }, { on := 0, ground := Ground.phase }, { on := 1, ground := Ground.phase }, { on := 2, ground := Ground.phase }, { on := 3, ground := Ground.phase }, { on := 4, ground := Ground.phase }, { on := 5, ground := Ground.phase }, { on := 6, ground := Ground.phase }, { on := 7, ground := Ground.phase }, { on := 8, ground := Ground.phase }], guard := none }] false).seq ((Code.region 30 #[{ dst := some 228, op := Op.move (Operand.tmp 26), type := 29, pos := "outright.go:228", after := #[], guard := none }, { dst := some 229, op := Op.binOp BinOp.neq 29 (Operand.tmp 228) (Operand.const (Value.int IntKind.i64 0)) 29, type := 4, pos := "outright.go:228", after := #[{ on := 0, ground := Ground.data }], guard := none }, { dst := some 230, op := Op.move (Operand.tmp 229), type := 4, pos := "outright.go:228", after := #[{ on := 1, ground := Ground.data }], guard := none }, { dst := some 231, op := Op.move (Operand.tmp 23), type := 3, pos := "outright.go:228", after := #[{ on := 2, ground := Ground.guard }], guard := some (2, false) }, { dst := some 232, op := Op.move (Operand.tmp 10), type := 3, pos := "outright.go:228", after := #[{ on := 2, ground := Ground.guard }], guard := some (2, false) }, { dst := some 233, op := Op.binOp BinOp.neq 3 (Operand.tmp 231) (Operand.tmp 232) 3, type := 4, pos := "outright.go:228", after := #[{ on := 3, ground := Ground.data }, { on := 4, ground := Ground.data }, { on := 2, ground := Ground.guard }], guard := some (2, false) }, { dst := some 234, op := Op.pick (Operand.tmp 230) (Operand.const (Value.bool true)) (Operand.tmp 233), type := 4, pos := "outright.go:228", after := #[{ on := 2, ground := Ground.data }, { on := 5, ground := Ground.data }], guard := none }, { dst := some 235, op := Op.move (Operand.tmp 234), type := 4, pos := "outright.go:228", after := #[{ on := 6, ground := Ground.data }, { on := 2, ground := Ground.chain }], guard := none }, { dst := some 236, op := Op.move (Operand.tmp 29), type := 29, pos := "outright.go:228", after := #[{ on := 7, ground := Ground.guard }], guard := some (7, false) }, { dst := some 237, op := Op.binOp BinOp.neq 29 (Operand.tmp 236) (Operand.const (Value.int IntKind.i64 0)) 29, type := 4, pos := "outright.go:228", after := #[{ on := 8, ground := Ground.data }, { on := 7, ground := Ground.guard }], guard := some (7, false) }, { dst := some 238, op := Op.pick (Operand.tmp 235) (Operand.const (Value.bool true)) (Operand.tmp 237), type := 4, pos := "outright.go:228", after := #[{ on := 7, ground := Ground.data }, { on := 9, ground := Ground.data }], guard := none }, { dst := some 239, op := Op.move (Operand.tmp 238), type := 4, pos := "outright.go:228", after := #[{ on := 10, ground := Ground.data }, { on := 7, ground := Ground.chain }], guard := none }, { dst := some 240, op := Op.move (Operand.tmp 28), type := 3, pos := "outright.go:228", after := #[{ on := 11, ground := Ground.guard }], guard := some (11, false) }, { dst := some 241, op := Op.move (Operand.tmp 10), type := 3, pos := "outright.go:228", after := #[{ on := 11, ground := Ground.guard }], guard := some (11, false) }, { dst := some 242, op := Op.binOp BinOp.gtr 3 (Operand.tmp 240) (Operand.tmp 241) 3, type := 4, pos := "outright.go:228", after := #[{ on := 12, ground := Ground.data }, { on := 13, ground := Ground.data }, { on := 11, ground := Ground.guard }], guard := some (11, false) }, { dst := some 243, op := Op.pick (Operand.tmp 239) (Operand.const (Value.bool true)) (Operand.tmp 242), type := 4, pos := "outright.go:228", after := #[{ on := 11, ground := Ground.data }, { on := 14, ground := Ground.data }], guard := none }, { dst := some 244, op := Op.move (Operand.tmp 243), type := 4, pos := "outright.go:228", after := #[{ on := 15, ground := Ground.data }, { on := 11, ground := Ground.chain }], guard := none }, { dst := some 245, op := Op.move (Operand.tmp 32), type := 29, pos := "outright.go:228", after := #[{ on := 16, ground := Ground.guard }], guard := some (16, false) }, { dst := some 246, op := Op.binOp BinOp.neq 29 (Operand.tmp 245) (Operand.const (Value.int IntKind.i64 0)) 29, type := 4, pos := "outright.go:228", after := #[{ on := 17, ground := Ground.data }, { on := 16, ground := Ground.guard }], guard := some (16, false) }, { dst := some 247, op := Op.pick (Operand.tmp 244) (Operand.const (Value.bool true)) (Operand.tmp 246), type := 4, pos := "outright.go:228", after := #[{ on := 16, ground := Ground.data }, { on := 18, ground := Ground.data }], guard := none }, { dst := some 248, op := Op.move (Operand.tmp 247), type := 4, pos := "outright.go:228", after := #[{ on := 19, ground := Ground.data }, { on := 16, ground := Ground.chain }], guard := none }, { dst := some 249, op := Op.move (Operand.tmp 30), type := 37, pos := "outright.go:228", after := #[{ on := 20, ground := Ground.guard }], guard := some (20, false) }, { dst := some 250, op := Op.call { callee := Callee.builtin Builtin.len, args := #[Operand.tmp 249], argTypes := #[37] }, type := 3, pos := "outright.go:228", after := #[{ on := 21, ground := Ground.data }, { on := 20, ground := Ground.guard }], guard := some (20, false) }, { dst := some 251, op := Op.move (Operand.tmp 12), type := 37, pos := "outright.go:228", after := #[{ on := 20, ground := Ground.guard }], guard := some (20, false) }, { dst := some 252, op := Op.call { callee := Callee.builtin Builtin.len, args := #[Operand.tmp 251], argTypes := #[37] }, type := 3, pos := "outright.go:228", after := #[{ on := 23, ground := Ground.data }, { on := 20, ground := Ground.guard }], guard := some (20, false) }, { dst := some 253, op := Op.binOp BinOp.gtr 3 (Operand.tmp 250) (Operand.tmp 252) 3, type := 4, pos := "outright.go:228", after := #[{ on := 22, ground := Ground.data }, { on := 24, ground := Ground.data }, { on := 20, ground := Ground.guard }], guard := some (20, false) }, { dst := some 254, op := Op.pick (Operand.tmp 248) (Operand.const (Value.bool true)) (Operand.tmp 253), type := 4, pos := "outright.go:228", after := #[{ on := 20, ground := Ground.data }, { on := 25, ground := Ground.data }], guard := none }] false).seq (Code.cond (Operand.tmp 254) ((Code.region 31 #[{ dst := some 8, op := Op.assign (Operand.const (Value.bool false)), type := 4, pos := "outright.go:229", after := #[], guard := none }] false).seq Code.ret) Code.skip))))))))
@[reducible] def bodyF : Code := (((Code.region 22 #[{ dst := some 191, op := Op.move (Operand.tmp 20), type := 3, pos := "outright.go:220", after := #[], guard := none }, { dst := some 192, op := Op.binOp BinOp.lss 3 (Operand.tmp 191) (Operand.const (Value.int IntKind.i64 3)) 3, type := 4, pos := "outright.go:220", after := #[{ on := 0, ground := Ground.data }], guard := none }] false).seq (Code.cond (Operand.tmp 192) Code.skip (Code.exit 2))).seq ((Code.block 3 ((Code.region 24 #[{ dst := some 195, op := Op.load 24 (Operand.tmp 15), type := 24, pos := "outright.go:221", after := #[], guard := none }, { dst := some 196, op := Op.load 24 (Operand.tmp 16), type := 24, pos := "outright.go:221", after := #[], guard := none }, { dst := some 197, op := Op.load 24 (Operand.tmp 4), type := 24, pos := "outright.go:221", after := #[], guard := none }, { dst := some 198, op := Op.build 68 #[(0, Operand.tmp 195), (1, Operand.tmp 196), (2, Operand.tmp 197)], type := 68, pos := "outright.go:221", after := #[{ on := 0, ground := Ground.data }, { on := 1, ground := Ground.data }, { on := 2, ground := Ground.data }], guard := none }, { dst := some 199, op := Op.move (Operand.tmp 20), type := 3, pos := "outright.go:221", after := #[], guard := none }, { dst := some 200, op := Op.index 68 (Operand.tmp 198) (Operand.tmp 199), type := 24, pos := "outright.go:221", after := #[{ on := 3, ground := Ground.data }, { on := 4, ground := Ground.data }], guard := none }, { dst := some 201, op := Op.move (Operand.tmp 1), type := 33, pos := "outright.go:221", after := #[{ on := 8, ground := Ground.gcOnly Departure.lateStores }], guard := none }, { dst := some 21, op := Op.alloc 24, type := 0, pos := "outright.go:221", after := #[], guard := none }, { dst := none, op := Op.store 24 (Operand.tmp 21) (Operand.tmp 200), type := 0, pos := "outright.go:221", after := #[{ on := 7, ground := Ground.data }, { on := 5, ground := Ground.data }, { on := 0, ground := Ground.phase }, { on := 1, ground := Ground.phase }, { on := 2, ground := Ground.phase }, { on := 3, ground := Ground.phase }, { on := 4, ground := Ground.phase }, { on := 5, ground := Ground.phase }, { on := 6, ground := Ground.textOnly Departure.lateStores }, { on := 7, ground := Ground.phase }], guard := none }, { dst := some 22, op := Op.assign (Operand.tmp 201), type := 33, pos := "outright.go:221", after := #[{ on := 6, ground := Ground.data }, { on := 8, ground := Ground.chain }, { on := 0, ground := Ground.phase }, { on := 1, ground := Ground.phase }, { on := 2, ground := Ground.phase }, { on := 3, ground := Ground.phase }, { on := 4, ground := Ground.phase }, { on := 5, ground := Ground.phase }, { on := 6, ground := Ground.phase }, { on := 7, ground := Ground.phase }, { on := 8, ground := Ground.phase }], guard := none }] false).seq (((Code.region 25 #[{ dst := some 202, op := Op.move (Operand.tmp 20), type := 3, pos := "outright.go:222", after := #[], guard := none }, { dst := some 203, op := Op.binOp BinOp.eql 3 (Operand.tmp 202) (Operand.const (Value.int IntKind.i64 2)) 3, type := 4, pos := "outright.go:222", after := #[{ on := 0, ground := Ground.data }], guard := none }] false).seq (Code.cond (Operand.tmp 203) (Code.region 26 #[{ dst := some 204, op := Op.move (Operand.tmp 18), type := 33, pos := "outright.go:223", after := #[], guard := none }, { dst := some 22, op := Op.assign (Operand.tmp 204), type := 33, pos := "outright.go:223", after := #[{ on := 0, ground := Ground.data }, { on := 0, ground := Ground.phase }], guard := none }] false) Code.skip)).seq ((Code.region 27 #[{ dst := some 206, op := Op.load 24 (Operand.tmp 21), type := 24, pos := "outright.go:225", after := #[], guard := none }, { dst := some 207, op := Op.move (Operand.tmp 22), type := 33, pos := "outright.go:225", after := #[], guard := none }, { dst := some 208, op := Op.move (Operand.tmp 9), type := 34, pos := "outright.go:225", after := #[], guard := none }, { dst := some 209, op := Op.call { callee := Callee.value (Operand.func 18), args := #[Operand.tmp 206, Operand.tmp 207, Operand.tmp 208], argTypes := #[24, 33, 34] }, type := 35, pos := "outright.go:225", after := #[{ on := 0, ground := Ground.data }, { on := 1, ground := Ground.data }, { on := 2, ground := Ground.data }], guard := none }, { dst := some 205, op := Op.move (Operand.tmp 209), type := 35, pos := "outright.go:225", after := #[{ on := 3, ground := Ground.data }], guard := none }, { dst := some 210, op := Op.extract (Operand.tmp 205) 0, type := 3, pos := "outright.go:225", after := #[{ on := 4, ground := Ground.data }], guard := none }, { dst := some 211, op := Op.extract (Operand.tmp 205) 1, type := 3, pos := "outright.go:225", after := #[{ on := 4, ground := Ground.data }, { on := 9, ground := Ground.gcOnly Departure.lateStores }], guard := none }, { dst := some 212, op := Op.extract (Operand.tmp 205) 2, type := 3, pos := "outright.go:225", after := #[{ on := 4, ground := Ground.data }, { on := 10, ground := Ground.gcOnly Departure.lateStores }], guard := none }, { dst := some 213, op := Op.extract (Operand.tmp 205) 3, type := 29, pos := "outright.go:225", after := #[{ on := 4, ground := Ground.data }, { on := 11, ground := Ground.gcOnly Departure.lateStores }], guard := none }, { dst := some 23, op := Op.assign (Operand.tmp 210), type := 3, pos := "outright.go:225", after := #[{ on := 5, ground := Ground.data }, { on := 3, ground := Ground.chain }, { on := 0, ground := Ground.phase }, { on := 1, ground := Ground.phase }, { on := 2, ground := Ground.phase }, { on := 3, ground := Ground.phase }, { on := 4, ground := Ground.phase }, { on := 5, ground := Ground.phase }, { on := 6, ground := Ground.textOnly Departure.lateStores }, { on := 7, ground := Ground.textOnly Departure.lateStores }, { on := 8, ground := Ground.textOnly Departure.lateStores }], guard := none }, { dst := some 24, op := Op.assign (Operand.tmp 211), type := 3, pos := "outright.go:225", after := #[{ on := 6, ground := Ground.data }, { on := 9, ground := Ground.chain }, { on := 0, ground := Ground.phase }, { on := 1, ground := Ground.phase }, { on := 2, ground := Ground.phase }, { on := 3, ground := Ground.phase }, { on := 4, ground := Ground.phase }, { on := 5, ground := Ground.phase }, { on := 6, ground := Ground.phase }, { on := 7, ground := Ground.textOnly Departure.lateStores }, { on := 8, ground := Ground.textOnly Departure.lateStores }, { on := 9, ground := Ground.phase }], guard := none }, { dst := some 25, op := Op.assign (Operand.tmp 212), type := 3, pos := "outright.go:225", after := #[{ on := 7, ground := Ground.data }, { on := 10, ground := Ground.chain }, { on := 0, ground := Ground.phase }, { on := 1, ground := Ground.phase }, { on := 2, ground := Ground.phase }, { on := 3, ground := Ground.phase }, { on := 4, ground := Ground.phase }, { on := 5, ground := Ground.phase }, { on := 6, ground := Ground.phase }, { on := 7, ground := Ground.phase }, { on := 8, ground := Ground.textOnly Departure.lateStores }, { on := 9, ground := Ground.phase }, { on := 10, ground := Ground.phase }], guard := none }, { dst := some 26, op := Op.assign (Operand.tmp 213), type := 29, pos := "outright.go:225", after := #[{ on := 8, ground := Ground.data }, { on := 11, ground := Ground.chain }, { on := 0, ground := Ground.phase }, { on := 1, ground := Ground.phase }, { on := 2, ground := Ground.phase }, { on := 3, ground := Ground.phase }, { on := 4, ground := Ground.phase }, { on := 5, ground := Ground.phase }, { on := 6, ground := Ground.phase }, { on := 7, ground := Ground.phase }, { on := 8, ground := Ground.phase }, { on := 9, ground := Ground.phase }, { on := 10, ground := Ground.phase }, { on := 11, ground := Ground.phase }], guard := none }] false).seq ((Code.region 28 #[{ dst := some 215, op := Op.load 24 (Operand.tmp 21), type := 24, pos := "outright.go:226", after := #[], guard := none }, { dst := some 216, op := Op.move (Operand.tmp 22), type := 33, pos := "outright.go:226", after := #[], guard := none }, { dst := some 217, op := Op.call { callee := Callee.value (Operand.func 25), args := #[Operand.tmp 215, Operand.tmp 216], argTypes := #[24, 33] }, type := 43, pos := "outright.go:226", after := #[{ on := 0, ground := Ground.data }, { on := 1, ground := Ground.data }], guard := none }, { dst := some 214, op := Op.move (Operand.tmp 217), type := 43, pos := "outright.go:226", after := #[{ on := 2, ground := Ground.data }], guard := none }, { dst := some 218, op := Op.extract (Operand.tmp 214) 0, type := 34, pos := "outright.go:226", after := #[{ on := 3, ground := Ground.data }], guard := none }, { dst := some 219, op := Op.extract (Operand.tmp 214) 1, type := 3, pos := "outright.go:226", after := #[{ on := 3, ground := Ground.data }, { on := 7, ground := Ground.gcOnly Departure.lateStores }], guard := none }, { dst := some 220, op := Op.extract (Operand.tmp 214) 2, type := 29, pos := "outright.go:226", after := #[{ on := 3, ground := Ground.data }, { on := 8, ground := Ground.gcOnly Departure.lateStores }], guard := none }, { dst := some 27, op := Op.assign (Operand.tmp 218), type := 34, pos := "outright.go:226", after := #[{ on := 4, ground := Ground.data }, { on := 2, ground := Ground.chain }, { on := 0, ground := Ground.phase }, { on := 1, ground := Ground.phase }, { on := 2, ground := Ground.phase }, { on := 3, ground := Ground.phase }, { on := 4, ground := Ground.phase }, { on := 5, ground := Ground.textOnly Departure.lateStores }, { on := 6, ground := Ground.textOnly Departure.lateStores }], guard := none }, { dst := some 28, op := Op.assign (Operand.tmp 219), type := 3, pos := "outright.go:226", after := #[{ on := 5, ground := Ground.data }, { on := 7, ground := Ground.chain }, { on := 0, ground := Ground.phase }, { on := 1, ground := Ground.phase }, { on := 2, ground := Ground.phase }, { on := 3, ground := Ground.phase }, { on := 4, ground := Ground.phase }, { on := 5, ground := Ground.phase }, { on := 6, ground := Ground.textOnly Departure.lateStores }, { on := 7, ground := Ground.phase }], guard := none }, { dst := some 29, op := Op.assign (Operand.tmp 220), type := 29, pos := "outright.go:226", after := #[{ on := 6, ground := Ground.data }, { on := 8, ground := Ground.chain }, { on := 0, ground := Ground.phase }, { on := 1, ground := Ground.phase }, { on := 2, ground := Ground.phase }, { on := 3, ground := Ground.phase }, { on := 4, ground := Ground.phase }, { on := 5, ground := Ground.phase }, { on := 6, ground := Ground.phase }, { on := 7, ground := Ground.phase }, { on := 8, ground := Ground.phase }], guard := none }] false).seq ((Code.region 29 #[{ dst := some 222, op := Op.load 24 (Operand.tmp 21), type := 24, pos := "outright.go:227", after := #[], guard := none }, { dst := some 223, op := Op.move (Operand.tmp 22), type := 33, pos := "outright.go:227", after := #[], guard := none }, { dst := some 224, op := Op.call { callee := Callee.value (Operand.func 20), args := #[Operand.tmp 222, Operand.tmp 223], argTypes := #[24, 33] }, type := 38, pos := "outright.go:227", after := #[{ on := 0, ground := Ground.data }, { on := 1, ground := Ground.data }], guard := none }, { dst := some 221, op := Op.move (Operand.tmp 224), type := 38, pos := "outright.go:227", after := #[{ on := 2, ground := Ground.data }], guard := none }, { dst := some 225, op := Op.extract (Operand.tmp 221) 0, type := 37, pos := "outright.go:227", after := #[{ on := 3, ground := Ground.data }], guard := none }, { dst := some 226, op := Op.extract (Operand.tmp 221) 1, type := 34, pos := "outright.go:227", after := #[{ on := 3, ground := Ground.data }, { on := 7, ground := Ground.gcOnly Departure.lateStores }], guard := none }, { dst := some 227, op := Op.extract (Operand.tmp 221) 2, type := 29, pos := "outright.go:227", after := #[{ on := 3, ground := Ground.data }, { on := 8, ground := Ground.gcOnly Departure.lateStores }], guard := none }, { dst := some 30, op := Op.assign (Operand.tmp 225), type := 37, pos := "outright.go:227", after := #[{ on := 4, ground := Ground.data }, { on := 2, ground := Ground.chain }, { on := 0, ground := Ground.phase }, { on := 1, ground := Ground.phase }, { on := 2, ground := Ground.phase }, { on := 3, ground := Ground.phase }, { on := 4, ground := Ground.phase }, { on := 5, ground := Ground.textOnly Departure.lateStores }, { on := 6, ground := Ground.textOnly Departure.lateStores }], guard := none }, { dst := some 31, op := Op.assign (Operand.tmp 226), type := 34, pos := "outright.go:227", after := #[{ on := 5, ground := Ground.data }, { on := 7, ground := Ground.chain }, { on := 0, ground := Ground.phase }, { on := 1, ground := Ground.phase }, { on := 2, ground := Ground.phase }, { on := 3, ground := Ground.phase }, { on := 4, ground := Ground.phase }, { on := 5, ground := Ground.phase }, { on := 6, ground := Ground.textOnly Departure.lateStores }, { on := 7, ground := Ground.phase }], guard := none }, { dst := some 32, op := Op.assign (Operand.tmp 227), type := 29, pos := "outright.go:227", after := #[{ on := 6, ground := Ground.data }, { on := 8, ground := Ground.chain }, { on := 0, ground := Ground.phase }, { on := 1, ground := Ground.phase }, { on := 2, ground := Ground.phase }, { on := 3, ground := Ground.phase }, { on := 4, ground := Ground.phase }, { on := 5, ground := Ground.phase }, { on := 6, ground := Ground.phase }, { on := 7, ground := Ground.phase }, { on := 8, ground := Ground.phase }], guard := none }] false).seq ((Code.region 30 #[{ dst := some 228, op := Op.move (Operand.tmp 26), type := 29, pos := "outright.go:228", after := #[], guard := none }, { dst := some 229, op := Op.binOp BinOp.neq 29 (Operand.tmp 228) (Operand.const (Value.int IntKind.i64 0)) 29, type := 4, pos := "outright.go:228", after := #[{ on := 0, ground := Ground.data }], guard := none }, { dst := some 230, op := Op.move (Operand.tmp 229), type := 4, pos := "outright.go:228", after := #[{ on := 1, ground := Ground.data }], guard := none }, { dst := some 231, op := Op.move (Operand.tmp 23), type := 3, pos := "outright.go:228", after := #[{ on := 2, ground := Ground.guard }], guard := some (2, false) }, { dst := some 232, op := Op.move (Operand.tmp 10), type := 3, pos := "outright.go:228", after := #[{ on := 2, ground := Ground.guard }], guard := some (2, false) }, { dst := some 233, op := Op.binOp BinOp.neq 3 (Operand.tmp 231) (Operand.tmp 232) 3, type := 4, pos := "outright.go:228", after := #[{ on := 3, ground := Ground.data }, { on := 4, ground := Ground.data }, { on := 2, ground := Ground.guard }], guard := some (2, false) }, { dst := some 234, op := Op.pick (Operand.tmp 230) (Operand.const (Value.bool true)) (Operand.tmp 233), type := 4, pos := "outright.go:228", after := #[{ on := 2, ground := Ground.data }, { on := 5, ground := Ground.data }], guard := none }, { dst := some 235, op := Op.move (Operand.tmp 234), type := 4, pos := "outright.go:228", after := #[{ on := 6, ground := Ground.data }, { on := 2, ground := Ground.chain }], guard := none }, { dst := some 236, op := Op.move (Operand.tmp 29), type := 29, pos := "outright.go:228", after := #[{ on := 7, ground := Ground.guard }], guard := some (7, false) }, { dst := some 237, op := Op.binOp BinOp.neq 29 (Operand.tmp 236) (Operand.const (Value.int IntKind.i64 0)) 29, type := 4, pos := "outright.go:228", after := #[{ on := 8, ground := Ground.data }, { on := 7, ground := Ground.guard }], guard := some (7, false) }, { dst := some 238, op := Op.pick (Operand.tmp 235) (Operand.const (Value.bool true)) (Operand.tmp 237), type := 4, pos := "outright.go:228", after := #[{ on := 7, ground := Ground.data }, { on := 9, ground := Ground.data }], guard := none }, { dst := some 239, op := Op.move (Operand.tmp 238), type := 4, pos := "outright.go:228", after := #[{ on := 10, ground := Ground.data }, { on := 7, ground := Ground.chain }], guard := none }, { dst := some 240, op := Op.move (Operand.tmp 28), type := 3, pos := "outright.go:228", after := #[{ on := 11, ground := Ground.guard }], guard := some (11, false) }, { dst := some 241, op := Op.move (Operand.tmp 10), type := 3, pos := "outright.go:228", after := #[{ on := 11, ground := Ground.guard }], guard := some (11, false) }, { dst := some 242, op := Op.binOp BinOp.gtr 3 (Operand.tmp 240) (Operand.tmp 241) 3, type := 4, pos := "outright.go:228", after := #[{ on := 12, ground := Ground.data }, { on := 13, ground := Ground.data }, { on := 11, ground := Ground.guard }], guard := some (11, false) }, { dst := some 243, op := Op.pick (Operand.tmp 239) (Operand.const (Value.bool true)) (Operand.tmp 242), type := 4, pos := "outright.go:228", after := #[{ on := 11, ground := Ground.data }, { on := 14, ground := Ground.data }], guard := none }, { dst := some 244, op := Op.move (Operand.tmp 243), type := 4, pos := "outright.go:228", after := #[{ on := 15, ground := Ground.data }, { on := 11, ground := Ground.chain }], guard := none }, { dst := some 245, op := Op.move (Operand.tmp 32), type := 29, pos := "outright.go:228", after := #[{ on := 16, ground := Ground.guard }], guard := some (16, false) }, { dst := some 246, op := Op.binOp BinOp.neq 29 (Operand.tmp 245) (Operand.const (Value.int IntKind.i64 0)) 29, type := 4, pos := "outright.go:228", after := #[{ on := 17, ground := Ground.data }, { on := 16, ground := Ground.guard }], guard := some (16, false) }, { dst := some 247, op := Op.pick (Operand.tmp 244) (Operand.const (Value.bool true)) (Operand.tmp 246), type := 4, pos := "outright.go:228", after := #[{ on := 16, ground := Ground.data }, { on := 18, ground := Ground.data }], guard := none }, { dst := some 248, op := Op.move (Operand.tmp 247), type := 4, pos := "outright.go:228", after := #[{ on := 19, ground := Ground.data }, { on := 16, ground := Ground.chain }], guard := none }, { dst := some 249, op := Op.move (Operand.tmp 30), type := 37, pos := "outright.go:228", after := #[{ on := 20, ground := Ground.guard }], guard := some (20, false) }, { dst := some 250, op := Op.call { callee := Callee.builtin Builtin.len, args := #[Operand.tmp 249], argTypes := #[37] }, type := 3, pos := "outright.go:228", after := #[{ on := 21, ground := Ground.data }, { on := 20, ground := Ground.guard }], guard := some (20, false) }, { dst := some 251, op := Op.move (Operand.tmp 12), type := 37, pos := "outright.go:228", after := #[{ on := 20, ground := Ground.guard }], guard := some (20, false) }, { dst := some 252, op := Op.call { callee := Callee.builtin Builtin.len, args := #[Operand.tmp 251], argTypes := #[37] }, type := 3, pos := "outright.go:228", after := #[{ on := 23, ground := Ground.data }, { on := 20, ground := Ground.guard }], guard := some (20, false) }, { dst := some 253, op := Op.binOp BinOp.gtr 3 (Operand.tmp 250) (Operand.tmp 252) 3, type := 4, pos := "outright.go:228", after := #[{ on := 22, ground := Ground.data }, { on := 24, ground := Ground.data }, { on := 20, ground := Ground.guard }], guard := some (20, false) }, { dst := some 254, op := Op.pick (Operand.tmp 248) (Operand.const (Value.bool true)) (Operand.tmp 253), type := 4, pos := "outright.go:228", after := #[{ on := 20, ground := Ground.data }, { on := 25, ground := Ground.data }], guard := none }] false).seq (Code.cond (Operand.tmp 254) ((Code.region 31 #[{ dst := some 8, op := Op.assign (Operand.const (Value.bool false)), type := 4, pos := "outright.go:229", after := #[], guard := none }] false).seq Code.ret) Code.skip)))))))).seq (Code.region 23 #[{ dst := some 193, op := Op.move (Operand.tmp 20), type := 3, pos := "outright.go:220", after := #[], guard := none }, { dst := some 194, op := Op.binOp BinOp.add 3 (Operand.tmp 193) (Operand.const (Value.int IntKind.i64 1)) 3, type := 3, pos := "outright.go:220", after := #[{ on := 0, ground := Ground.data }], guard := none }, { dst := some 20, op := Op.assign (Operand.tmp 194), type := 3, pos := "outright.go:220", after := #[{ on := 1, ground := Ground.data }, { on := 0, ground := Ground.phase }, { on := 1, ground := Ground.phase }], guard := none }] false))).loop

set_option maxRecDepth 100000 in
set_option maxHeartbeats 32000000 in
theorem law10_roundA {x0 x2 x3 x5 x6 x7 x8 x11 x13 x14 x17 x19 x21 x22 x23 x24 x25 x26 x27 x28 x29 x30 x31 x32 x33 x34 x35 x36 x37 x38 x39 x40 x41 x42 x43 x44 x45 x46 x47 x48 x49 x50 x51 x52 x53 x54 x55 x56 x57 x58 x59 x60 x61 x62 x63 x64 x65 x66 x67 x68 x69 x70 x71 x72 x73 x74 x75 x76 x77 x78 x79 x80 x81 x82 x83 x84 x85 x86 x87 x88 x89 x90 x91 x92 x93 x94 x95 x96 x97 x98 x99 x100 x101 x102 x103 x104 x105 x106 x107 x108 x109 x110 x111 x112 x113 x114 x115 x116 x117 x118 x119 x120 x121 x122 x123 x124 x125 x126 x127 x128 x129 x130 x131 x132 x133 x134 x135 x136 x137 x138 x139 x140 x141 x142 x143 x144 x145 x146 x147 x148 x149 x150 x151 x152 x153 x154 x155 x156 x157 x158 x159 x160 x161 x162 x163 x164 x165 x166 x167 x168 x169 x170 x171 x172 x173 x174 x175 x176 x177 x178 x179 x180 x181 x182 x183 x184 x185 x186 x187 x188 x189 x190 x191 x192 x193 x194 x195 x196 x197 x198 x199 x200 x201 x202 x203 x204 x205 x206 x207 x208 x209 x210 x211 x212 x213 x214 x215 x216 x217 x218 x219 x220 x221 x222 x223 x224 x225 x226 x227 x228 x229 x230 x231 x232 x233 x234 x235 x236 x237 x238 x239 x240 x241 x242 x243 x244 x245 x246 x247 x248 x249 x250 x251 x252 x253 x254 x255 : Value} (ao : Nat → Option Addr) (cap : Nat → Nat) (y : Nat → Dye) (pb : Nat → Nat) (lo : Option Addr) (lcap : Nat) (l : List (Int × Int)) (sg sc : Nat) (a0 : Option Addr) (k0 : Nat) (P : List Int) (c : Int) (a1 : Option Addr) (rn k1 : Nat) (w6 : World) (k : Nat) (hk3 : k < 3) (hkb : ((k : Int) == 2) = false) (K : World → Prop) (cn : Int) (rm : Nat) (hx1 : ¬ c < cn) (hx2 : ¬ (rn : Int) < (rm : Int)) (wr : World)
    (HB : Hold (Kept wr (fun W => W.heap[pb 0]? = some (.cells (dyC (ao 0) (y 0).bl.length (cap 0) (y 0)) 24) ∧ W.heap[pb 1]? = some (.cells (dyC (ao 1) (y 1).bl.length (cap 1) (y 1)) 24) ∧ W.heap[pb 2]? = some (.cells (dyC (ao 2) (y 2).bl.length (cap 2) (y 2)) 24))))
    (HK : Hold (Kept wr K)) (HMr : Hold (Mod noB w6 wr))
    (H18 : Hold (∀ W, K W → Calls Tryd.prog 18 #[mjV ao cap y k, .slice lo l.length lcap, .slice a0 P.length k0] W fun e w' => (∃ u1 u2, e = .returned (.tuple #[.int .i64 c, .int .i64 u1, .int .i64 u2, .int .i64 0])) ∧ Mod noB W w'))
    (H25 : Hold (∀ W, K W → Calls Tryd.prog 25 #[mjV ao cap y k, .slice lo l.length lcap] W fun e w' => (∃ u1 u2 u3, e = .returned (.tuple #[.slice u1 u2 u3, .int .i64 cn, .int .i64 0])) ∧ Mod noB W w'))
    (H20 : Hold (∀ W, K W → Calls Tryd.prog 20 #[mjV ao cap y k, .slice lo l.length lcap] W fun e w' => (∃ u1 u2 u3 u4 u5, e = .returned (.tuple #[.slice u1 rm u2, .slice u3 u4 u5, .int .i64 0])) ∧ Mod noB W w')) :
    Code.wp Tryd.prog bodyT (only fun a' w' => ∃ v : Nat → Value, a' = { tmps := List.toArray (x0 :: Value.slice lo l.length lcap :: x2 :: x3 :: Value.pointer (some ⟨pb 2, 0, none⟩) :: x5 :: x6 :: x7 :: x8 :: Value.slice a0 P.length k0 :: Value.int .i64 c :: x11 :: Value.slice a1 rn k1 :: x13 :: x14 :: Value.pointer (some ⟨pb 0, 0, none⟩) :: Value.pointer (some ⟨pb 1, 0, none⟩) :: x17 :: Value.slice (some ⟨sg, 0, none⟩) l.length sc :: x19 :: Value.int .i64 (k : Int) :: v 21 :: v 22 :: v 23 :: v 24 :: v 25 :: v 26 :: v 27 :: v 28 :: v 29 :: v 30 :: v 31 :: v 32 :: x33 :: x34 :: x35 :: x36 :: x37 :: x38 :: x39 :: x40 :: x41 :: x42 :: x43 :: x44 :: x45 :: x46 :: x47 :: x48 :: x49 :: x50 :: x51 :: x52 :: x53 :: x54 :: x55 :: x56 :: x57 :: x58 :: x59 :: x60 :: x61 :: x62 :: x63 :: x64 :: x65 :: x66 :: x67 :: x68 :: x69 :: x70 :: x71 :: x72 :: x73 :: x74 :: x75 :: x76 :: x77 :: x78 :: x79 :: x80 :: x81 :: x82 :: x83 :: x84 :: x85 :: x86 :: x87 :: x88 :: x89 :: x90 :: x91 :: x92 :: x93 :: x94 :: x95 :: x96 :: x97 :: x98 :: x99 :: x100 :: x101 :: x102 :: x103 :: x104 :: x105 :: x106 :: x107 :: x108 :: x109 :: x110 :: x111 :: x112 :: x113 :: x114 :: x115 :: x116 :: x117 :: x118 :: x119 :: x120 :: x121 :: x122 :: x123 :: x124 :: x125 :: x126 :: x127 :: x128 :: x129 :: x130 :: x131 :: x132 :: x133 :: x134 :: x135 :: x136 :: x137 :: x138 :: x139 :: x140 :: x141 :: x142 :: x143 :: x144 :: x145 :: x146 :: x147 :: x148 :: x149 :: x150 :: x151 :: x152 :: x153 :: x154 :: x155 :: x156 :: x157 :: x158 :: x159 :: x160 :: x161 :: x162 :: x163 :: x164 :: x165 :: x166 :: x167 :: x168 :: x169 :: x170 :: x171 :: x172 :: x173 :: x174 :: x175 :: x176 :: x177 :: x178 :: x179 :: x180 :: x181 :: x182 :: x183 :: x184 :: x185 :: x186 :: x187 :: x188 :: x189 :: x190 :: x191 :: x192 :: x193 :: x194 :: v 195 :: v 196 :: v 197 :: v 198 :: v 199 :: v 200 :: v 201 :: v 202 :: v 203 :: v 204 :: v 205 :: v 206 :: v 207 :: v 208 :: v 209 :: v 210 :: v 211 :: v 212 :: v 213 :: v 214 :: v 215 :: v 216 :: v 217 :: v 218 :: v 219 :: v 220 :: v 221 :: v 222 :: v 223 :: v 224 :: v 225 :: v 226 :: v 227 :: v 228 :: v 229 :: v 230 :: v 231 :: v 232 :: v 233 :: v 234 :: v 235 :: v 236 :: v 237 :: v 238 :: v 239 :: v 240 :: v 241 :: v 242 :: v 243 :: v 244 :: v 245 :: v 246 :: v 247 :: v 248 :: v 249 :: v 250 :: v 251 :: v 252 :: v 253 :: v 254 :: x255 :: []), defers := [] } ∧ Mod noB w6 w')
      { tmps := List.toArray (x0 :: Value.slice lo l.length lcap :: x2 :: x3 :: Value.pointer (some ⟨pb 2, 0, none⟩) :: x5 :: x6 :: x7 :: x8 :: Value.slice a0 P.length k0 :: Value.int .i64 c :: x11 :: Value.slice a1 rn k1 :: x13 :: x14 :: Value.pointer (some ⟨pb 0, 0, none⟩) :: Value.pointer (some ⟨pb 1, 0, none⟩) :: x17 :: Value.slice (some ⟨sg, 0, none⟩) l.length sc :: x19 :: Value.int .i64 (k : Int) :: x21 :: x22 :: x23 :: x24 :: x25 :: x26 :: x27 :: x28 :: x29 :: x30 :: x31 :: x32 :: x33 :: x34 :: x35 :: x36 :: x37 :: x38 :: x39 :: x40 :: x41 :: x42 :: x43 :: x44 :: x45 :: x46 :: x47 :: x48 :: x49 :: x50 :: x51 :: x52 :: x53 :: x54 :: x55 :: x56 :: x57 :: x58 :: x59 :: x60 :: x61 :: x62 :: x63 :: x64 :: x65 :: x66 :: x67 :: x68 :: x69 :: x70 :: x71 :: x72 :: x73 :: x74 :: x75 :: x76 :: x77 :: x78 :: x79 :: x80 :: x81 :: x82 :: x83 :: x84 :: x85 :: x86 :: x87 :: x88 :: x89 :: x90 :: x91 :: x92 :: x93 :: x94 :: x95 :: x96 :: x97 :: x98 :: x99 :: x100 :: x101 :: x102 :: x103 :: x104 :: x105 :: x106 :: x107 :: x108 :: x109 :: x110 :: x111 :: x112 :: x113 :: x114 :: x115 :: x116 :: x117 :: x118 :: x119 :: x120 :: x121 :: x122 :: x123 :: x124 :: x125 :: x126 :: x127 :: x128 :: x129 :: x130 :: x131 :: x132 :: x133 :: x134 :: x135 :: x136 :: x137 :: x138 :: x139 :: x140 :: x141 :: x142 :: x143 :: x144 :: x145 :: x146 :: x147 :: x148 :: x149 :: x150 :: x151 :: x152 :: x153 :: x154 :: x155 :: x156 :: x157 :: x158 :: x159 :: x160 :: x161 :: x162 :: x163 :: x164 :: x165 :: x166 :: x167 :: x168 :: x169 :: x170 :: x171 :: x172 :: x173 :: x174 :: x175 :: x176 :: x177 :: x178 :: x179 :: x180 :: x181 :: x182 :: x183 :: x184 :: x185 :: x186 :: x187 :: x188 :: x189 :: x190 :: x191 :: x192 :: x193 :: x194 :: x195 :: x196 :: x197 :: x198 :: x199 :: x200 :: x201 :: x202 :: x203 :: x204 :: x205 :: x206 :: x207 :: x208 :: x209 :: x210 :: x211 :: x212 :: x213 :: x214 :: x215 :: x216 :: x217 :: x218 :: x219 :: x220 :: x221 :: x222 :: x223 :: x224 :: x225 :: x226 :: x227 :: x228 :: x229 :: x230 :: x231 :: x232 :: x233 :: x234 :: x235 :: x236 :: x237 :: x238 :: x239 :: x240 :: x241 :: x242 :: x243 :: x244 :: x245 :: x246 :: x247 :: x248 :: x249 :: x250 :: x251 :: x252 :: x253 :: x254 :: x255 :: []), defers := [] } wr := by
  unfold bodyT
  go_upto_region 24 with fail
  refine region_mj (ao := ao) (cap := cap) (y := y) (pb := pb) (i := k) hk3 rfl rfl rfl rfl rfl rfl HB.out.now.1 HB.out.now.2.1 HB.out.now.2.2 ?_
  intro w7 xb hxb hM
  simp only [mjF, Act.put, List.setIfInBounds_toArray, List.set_cons_succ, List.set_cons_zero]
  have HX := Hold.mk (kept_block hxb)
  have HK := Hold.mk (HK.out.later hM)
  have HMr := Hold.mk (HMr.out.trans hM)
  clear hxb hM HB
  go_wp2_with (first
    | (refine wpList_load_row rfl 24 (.tmp 21) rfl xb rfl 24 _ (0, 0) _ HX.out.now Tryd.underlying24 rfl info24 ?_)
    | (go_at_call 18; refine (H18.out _ HK.out.now).mono ?_; rintro e w8 ⟨⟨u1, u2, rfl⟩, hM⟩; have HX := Hold.mk (HX.out.later hM); have HK := Hold.mk (HK.out.later hM); have HMr := Hold.mk (HMr.out.trans hM); clear hM)
    | (go_at_call 25; refine (H25.out _ HK.out.now).mono ?_; rintro e w9 ⟨⟨u3, u4, u5, rfl⟩, hM⟩; have HX := Hold.mk (HX.out.later hM); have HK := Hold.mk (HK.out.later hM); have HMr := Hold.mk (HMr.out.trans hM); clear hM)
    | (go_at_call 20; refine (H20.out _ HK.out.now).mono ?_; rintro e w10 ⟨⟨u6, u7, u8, u9, u10, rfl⟩, hM⟩; have HX := Hold.mk (HX.out.later hM); have HK := Hold.mk (HK.out.later hM); have HMr := Hold.mk (HMr.out.trans hM); clear hM))
  first | exact ⟨rfl, end_frame _ _ _ rfl HMr.out⟩ | exact ⟨rfl, end_frame2 _ _ rfl, HMr.out⟩

set_option maxRecDepth 100000 in
set_option maxHeartbeats 32000000 in
theorem law10_roundC {x0 x2 x3 x5 x6 x7 x8 x11 x13 x14 x17 x19 x21 x22 x23 x24 x25 x26 x27 x28 x29 x30 x31 x32 x33 x34 x35 x36 x37 x38 x39 x40 x41 x42 x43 x44 x45 x46 x47 x48 x49 x50 x51 x52 x53 x54 x55 x56 x57 x58 x59 x60 x61 x62 x63 x64 x65 x66 x67 x68 x69 x70 x71 x72 x73 x74 x75 x76 x77 x78 x79 x80 x81 x82 x83 x84 x85 x86 x87 x88 x89 x90 x91 x92 x93 x94 x95 x96 x97 x98 x99 x100 x101 x102 x103 x104 x105 x106 x107 x108 x109 x110 x111 x112 x113 x114 x115 x116 x117 x118 x119 x120 x121 x122 x123 x124 x125 x126 x127 x128 x129 x130 x131 x132 x133 x134 x135 x136 x137 x138 x139 x140 x141 x142 x143 x144 x145 x146 x147 x148 x149 x150 x151 x152 x153 x154 x155 x156 x157 x158 x159 x160 x161 x162 x163 x164 x165 x166 x167 x168 x169 x170 x171 x172 x173 x174 x175 x176 x177 x178 x179 x180 x181 x182 x183 x184 x185 x186 x187 x188 x189 x190 x191 x192 x193 x194 x195 x196 x197 x198 x199 x200 x201 x202 x203 x204 x205 x206 x207 x208 x209 x210 x211 x212 x213 x214 x215 x216 x217 x218 x219 x220 x221 x222 x223 x224 x225 x226 x227 x228 x229 x230 x231 x232 x233 x234 x235 x236 x237 x238 x239 x240 x241 x242 x243 x244 x245 x246 x247 x248 x249 x250 x251 x252 x253 x254 x255 : Value} (ao : Nat → Option Addr) (cap : Nat → Nat) (y : Nat → Dye) (pb : Nat → Nat) (lo : Option Addr) (lcap : Nat) (l : List (Int × Int)) (sg sc : Nat) (a0 : Option Addr) (k0 : Nat) (P : List Int) (c : Int) (a1 : Option Addr) (rn k1 : Nat) (w6 : World) (k : Nat) (hk3 : k < 3) (hkb : ((k : Int) == 2) = true) (K : World → Prop) (cn : Int) (rm : Nat) (hx1 : ¬ c < cn) (hx2 : ¬ (rn : Int) < (rm : Int)) (wr : World)
    (HB : Hold (Kept wr (fun W => W.heap[pb 0]? = some (.cells (dyC (ao 0) (y 0).bl.length (cap 0) (y 0)) 24) ∧ W.heap[pb 1]? = some (.cells (dyC (ao 1) (y 1).bl.length (cap 1) (y 1)) 24) ∧ W.heap[pb 2]? = some (.cells (dyC (ao 2) (y 2).bl.length (cap 2) (y 2)) 24))))
    (HK : Hold (Kept wr K)) (HMr : Hold (Mod noB w6 wr))
    (H18 : Hold (∀ W, K W → Calls Tryd.prog 18 #[mjV ao cap y k, .slice (some ⟨sg, 0, none⟩) l.length sc, .slice a0 P.length k0] W fun e w' => (∃ u1 u2, e = .returned (.tuple #[.int .i64 c, .int .i64 u1, .int .i64 u2, .int .i64 0])) ∧ Mod noB W w'))
    (H25 : Hold (∀ W, K W → Calls Tryd.prog 25 #[mjV ao cap y k, .slice (some ⟨sg, 0, none⟩) l.length sc] W fun e w' => (∃ u1 u2 u3, e = .returned (.tuple #[.slice u1 u2 u3, .int .i64 cn, .int .i64 0])) ∧ Mod noB W w'))
    (H20 : Hold (∀ W, K W → Calls Tryd.prog 20 #[mjV ao cap y k, .slice (some ⟨sg, 0, none⟩) l.length sc] W fun e w' => (∃ u1 u2 u3 u4 u5, e = .returned (.tuple #[.slice u1 rm u2, .slice u3 u4 u5, .int .i64 0])) ∧ Mod noB W w')) :
    Code.wp Tryd.prog bodyT (only fun a' w' => ∃ v : Nat → Value, a' = { tmps := List.toArray (x0 :: Value.slice lo l.length lcap :: x2 :: x3 :: Value.pointer (some ⟨pb 2, 0, none⟩) :: x5 :: x6 :: x7 :: x8 :: Value.slice a0 P.length k0 :: Value.int .i64 c :: x11 :: Value.slice a1 rn k1 :: x13 :: x14 :: Value.pointer (some ⟨pb 0, 0, none⟩) :: Value.pointer (some ⟨pb 1, 0, none⟩) :: x17 :: Value.slice (some ⟨sg, 0, none⟩) l.length sc :: x19 :: Value.int .i64 (k : Int) :: v 21 :: v 22 :: v 23 :: v 24 :: v 25 :: v 26 :: v 27 :: v 28 :: v 29 :: v 30 :: v 31 :: v 32 :: x33 :: x34 :: x35 :: x36 :: x37 :: x38 :: x39 :: x40 :: x41 :: x42 :: x43 :: x44 :: x45 :: x46 :: x47 :: x48 :: x49 :: x50 :: x51 :: x52 :: x53 :: x54 :: x55 :: x56 :: x57 :: x58 :: x59 :: x60 :: x61 :: x62 :: x63 :: x64 :: x65 :: x66 :: x67 :: x68 :: x69 :: x70 :: x71 :: x72 :: x73 :: x74 :: x75 :: x76 :: x77 :: x78 :: x79 :: x80 :: x81 :: x82 :: x83 :: x84 :: x85 :: x86 :: x87 :: x88 :: x89 :: x90 :: x91 :: x92 :: x93 :: x94 :: x95 :: x96 :: x97 :: x98 :: x99 :: x100 :: x101 :: x102 :: x103 :: x104 :: x105 :: x106 :: x107 :: x108 :: x109 :: x110 :: x111 :: x112 :: x113 :: x114 :: x115 :: x116 :: x117 :: x118 :: x119 :: x120 :: x121 :: x122 :: x123 :: x124 :: x125 :: x126 :: x127 :: x128 :: x129 :: x130 :: x131 :: x132 :: x133 :: x134 :: x135 :: x136 :: x137 :: x138 :: x139 :: x140 :: x141 :: x142 :: x143 :: x144 :: x145 :: x146 :: x147 :: x148 :: x149 :: x150 :: x151 :: x152 :: x153 :: x154 :: x155 :: x156 :: x157 :: x158 :: x159 :: x160 :: x161 :: x162 :: x163 :: x164 :: x165 :: x166 :: x167 :: x168 :: x169 :: x170 :: x171 :: x172 :: x173 :: x174 :: x175 :: x176 :: x177 :: x178 :: x179 :: x180 :: x181 :: x182 :: x183 :: x184 :: x185 :: x186 :: x187 :: x188 :: x189 :: x190 :: x191 :: x192 :: x193 :: x194 :: v 195 :: v 196 :: v 197 :: v 198 :: v 199 :: v 200 :: v 201 :: v 202 :: v 203 :: v 204 :: v 205 :: v 206 :: v 207 :: v 208 :: v 209 :: v 210 :: v 211 :: v 212 :: v 213 :: v 214 :: v 215 :: v 216 :: v 217 :: v 218 :: v 219 :: v 220 :: v 221 :: v 222 :: v 223 :: v 224 :: v 225 :: v 226 :: v 227 :: v 228 :: v 229 :: v 230 :: v 231 :: v 232 :: v 233 :: v 234 :: v 235 :: v 236 :: v 237 :: v 238 :: v 239 :: v 240 :: v 241 :: v 242 :: v 243 :: v 244 :: v 245 :: v 246 :: v 247 :: v 248 :: v 249 :: v 250 :: v 251 :: v 252 :: v 253 :: v 254 :: x255 :: []), defers := [] } ∧ Mod noB w6 w')
      { tmps := List.toArray (x0 :: Value.slice lo l.length lcap :: x2 :: x3 :: Value.pointer (some ⟨pb 2, 0, none⟩) :: x5 :: x6 :: x7 :: x8 :: Value.slice a0 P.length k0 :: Value.int .i64 c :: x11 :: Value.slice a1 rn k1 :: x13 :: x14 :: Value.pointer (some ⟨pb 0, 0, none⟩) :: Value.pointer (some ⟨pb 1, 0, none⟩) :: x17 :: Value.slice (some ⟨sg, 0, none⟩) l.length sc :: x19 :: Value.int .i64 (k : Int) :: x21 :: x22 :: x23 :: x24 :: x25 :: x26 :: x27 :: x28 :: x29 :: x30 :: x31 :: x32 :: x33 :: x34 :: x35 :: x36 :: x37 :: x38 :: x39 :: x40 :: x41 :: x42 :: x43 :: x44 :: x45 :: x46 :: x47 :: x48 :: x49 :: x50 :: x51 :: x52 :: x53 :: x54 :: x55 :: x56 :: x57 :: x58 :: x59 :: x60 :: x61 :: x62 :: x63 :: x64 :: x65 :: x66 :: x67 :: x68 :: x69 :: x70 :: x71 :: x72 :: x73 :: x74 :: x75 :: x76 :: x77 :: x78 :: x79 :: x80 :: x81 :: x82 :: x83 :: x84 :: x85 :: x86 :: x87 :: x88 :: x89 :: x90 :: x91 :: x92 :: x93 :: x94 :: x95 :: x96 :: x97 :: x98 :: x99 :: x100 :: x101 :: x102 :: x103 :: x104 :: x105 :: x106 :: x107 :: x108 :: x109 :: x110 :: x111 :: x112 :: x113 :: x114 :: x115 :: x116 :: x117 :: x118 :: x119 :: x120 :: x121 :: x122 :: x123 :: x124 :: x125 :: x126 :: x127 :: x128 :: x129 :: x130 :: x131 :: x132 :: x133 :: x134 :: x135 :: x136 :: x137 :: x138 :: x139 :: x140 :: x141 :: x142 :: x143 :: x144 :: x145 :: x146 :: x147 :: x148 :: x149 :: x150 :: x151 :: x152 :: x153 :: x154 :: x155 :: x156 :: x157 :: x158 :: x159 :: x160 :: x161 :: x162 :: x163 :: x164 :: x165 :: x166 :: x167 :: x168 :: x169 :: x170 :: x171 :: x172 :: x173 :: x174 :: x175 :: x176 :: x177 :: x178 :: x179 :: x180 :: x181 :: x182 :: x183 :: x184 :: x185 :: x186 :: x187 :: x188 :: x189 :: x190 :: x191 :: x192 :: x193 :: x194 :: x195 :: x196 :: x197 :: x198 :: x199 :: x200 :: x201 :: x202 :: x203 :: x204 :: x205 :: x206 :: x207 :: x208 :: x209 :: x210 :: x211 :: x212 :: x213 :: x214 :: x215 :: x216 :: x217 :: x218 :: x219 :: x220 :: x221 :: x222 :: x223 :: x224 :: x225 :: x226 :: x227 :: x228 :: x229 :: x230 :: x231 :: x232 :: x233 :: x234 :: x235 :: x236 :: x237 :: x238 :: x239 :: x240 :: x241 :: x242 :: x243 :: x244 :: x245 :: x246 :: x247 :: x248 :: x249 :: x250 :: x251 :: x252 :: x253 :: x254 :: x255 :: []), defers := [] } wr := by
  unfold bodyT
  go_upto_region 24 with fail
  refine region_mj (ao := ao) (cap := cap) (y := y) (pb := pb) (i := k) hk3 rfl rfl rfl rfl rfl rfl HB.out.now.1 HB.out.now.2.1 HB.out.now.2.2 ?_
  intro w7 xb hxb hM
  simp only [mjF, Act.put, List.setIfInBounds_toArray, List.set_cons_succ, List.set_cons_zero]
  have HX := Hold.mk (kept_block hxb)
  have HK := Hold.mk (HK.out.later hM)
  have HMr := Hold.mk (HMr.out.trans hM)
  clear hxb hM HB
  go_wp2_with (first
    | (refine wpList_load_row rfl 24 (.tmp 21) rfl xb rfl 24 _ (0, 0) _ HX.out.now Tryd.underlying24 rfl info24 ?_)
    | (go_at_call 18; refine (H18.out _ HK.out.now).mono ?_; rintro e w8 ⟨⟨u1, u2, rfl⟩, hM⟩; have HX := Hold.mk (HX.out.later hM); have HK := Hold.mk (HK.out.later hM); have HMr := Hold.mk (HMr.out.trans hM); clear hM)
    | (go_at_call 25; refine (H25.out _ HK.out.now).mono ?_; rintro e w9 ⟨⟨u3, u4, u5, rfl⟩, hM⟩; have HX := Hold.mk (HX.out.later hM); have HK := Hold.mk (HK.out.later hM); have HMr := Hold.mk (HMr.out.trans hM); clear hM)
    | (go_at_call 20; refine (H20.out _ HK.out.now).mono ?_; rintro e w10 ⟨⟨u6, u7, u8, u9, u10, rfl⟩, hM⟩; have HX := Hold.mk (HX.out.later hM); have HK := Hold.mk (HK.out.later hM); have HMr := Hold.mk (HMr.out.trans hM); clear hM))
  first | exact ⟨rfl, end_frame _ _ _ rfl HMr.out⟩ | exact ⟨rfl, end_frame2 _ _ rfl, HMr.out⟩

set_option maxRecDepth 100000 in
set_option maxHeartbeats 32000000 in
theorem law10_three {x0 x2 x3 x5 x6 x7 x8 x11 x13 x14 x17 x19 x21 x22 x23 x24 x25 x26 x27 x28 x29 x30 x31 x32 x33 x34 x35 x36 x37 x38 x39 x40 x41 x42 x43 x44 x45 x46 x47 x48 x49 x50 x51 x52 x53 x54 x55 x56 x57 x58 x59 x60 x61 x62 x63 x64 x65 x66 x67 x68 x69 x70 x71 x72 x73 x74 x75 x76 x77 x78 x79 x80 x81 x82 x83 x84 x85 x86 x87 x88 x89 x90 x91 x92 x93 x94 x95 x96 x97 x98 x99 x100 x101 x102 x103 x104 x105 x106 x107 x108 x109 x110 x111 x112 x113 x114 x115 x116 x117 x118 x119 x120 x121 x122 x123 x124 x125 x126 x127 x128 x129 x130 x131 x132 x133 x134 x135 x136 x137 x138 x139 x140 x141 x142 x143 x144 x145 x146 x147 x148 x149 x150 x151 x152 x153 x154 x155 x156 x157 x158 x159 x160 x161 x162 x163 x164 x165 x166 x167 x168 x169 x170 x171 x172 x173 x174 x175 x176 x177 x178 x179 x180 x181 x182 x183 x184 x185 x186 x187 x188 x189 x190 x191 x192 x193 x194 x195 x196 x197 x198 x199 x200 x201 x202 x203 x204 x205 x206 x207 x208 x209 x210 x211 x212 x213 x214 x215 x216 x217 x218 x219 x220 x221 x222 x223 x224 x225 x226 x227 x228 x229 x230 x231 x232 x233 x234 x235 x236 x237 x238 x239 x240 x241 x242 x243 x244 x245 x246 x247 x248 x249 x250 x251 x252 x253 x254 x255 : Value} (ao : Nat → Option Addr) (cap : Nat → Nat) (y : Nat → Dye) (pb : Nat → Nat) (lo : Option Addr) (lcap : Nat) (l : List (Int × Int)) (sg sc : Nat) (a0 : Option Addr) (k0 : Nat) (P : List Int) (c : Int) (a1 : Option Addr) (rn k1 : Nat) (w6 : World) (K : Nat → World → Prop) (cn : Nat → Int) (rm : Nat → Nat)
    (HB : Hold (Kept w6 (fun W => W.heap[pb 0]? = some (.cells (dyC (ao 0) (y 0).bl.length (cap 0) (y 0)) 24) ∧ W.heap[pb 1]? = some (.cells (dyC (ao 1) (y 1).bl.length (cap 1) (y 1)) 24) ∧ W.heap[pb 2]? = some (.cells (dyC (ao 2) (y 2).bl.length (cap 2) (y 2)) 24))))
    (HK : Hold (∀ j, j < 3 → Kept w6 (K j))) (HC : Hold (∀ j, j < 3 → ¬ c < cn j ∧ ¬ (rn : Int) < (rm j : Int)))
    (H18 : Hold (∀ j, j < 2 → ∀ W, K j W → Calls Tryd.prog 18 #[mjV ao cap y j, .slice lo l.length lcap, .slice a0 P.length k0] W fun e w' => (∃ u1 u2, e = .returned (.tuple #[.int .i64 c, .int .i64 u1, .int .i64 u2, .int .i64 0])) ∧ Mod noB W w'))
    (H25 : Hold (∀ j, j < 2 → ∀ W, K j W → Calls Tryd.prog 25 #[mjV ao cap y j, .slice lo l.length lcap] W fun e w' => (∃ u1 u2 u3, e = .returned (.tuple #[.slice u1 u2 u3, .int .i64 (cn j), .int .i64 0])) ∧ Mod noB W w'))
    (H20 : Hold (∀ j, j < 2 → ∀ W, K j W → Calls Tryd.prog 20 #[mjV ao cap y j, .slice lo l.length lcap] W fun e w' => (∃ u1 u2 u3 u4 u5, e = .returned (.tuple #[.slice u1 (rm j) u2, .slice u3 u4 u5, .int .i64 0])) ∧ Mod noB W w'))
    (H18c : Hold (∀ j, j = 2 → ∀ W, K j W → Calls Tryd.prog 18 #[mjV ao cap y j, .slice (some ⟨sg, 0, none⟩) l.length sc, .slice a0 P.length k0] W fun e w' => (∃ u1 u2, e = .returned (.tuple #[.int .i64 c, .int .i64 u1, .int .i64 u2, .int .i64 0])) ∧ Mod noB W w'))
    (H25c : Hold (∀ j, j = 2 → ∀ W, K j W → Calls Tryd.prog 25 #[mjV ao cap y j, .slice (some ⟨sg, 0, none⟩) l.length sc] W fun e w' => (∃ u1 u2 u3, e = .returned (.tuple #[.slice u1 u2 u3, .int .i64 (cn j), .int .i64 0])) ∧ Mod noB W w'))
    (H20c : Hold (∀ j, j = 2 → ∀ W, K j W → Calls Tryd.prog 20 #[mjV ao cap y j, .slice (some ⟨sg, 0, none⟩) l.length sc] W fun e w' => (∃ u1 u2 u3 u4 u5, e = .returned (.tuple #[.slice u1 (rm j) u2, .slice u3 u4 u5, .int .i64 0])) ∧ Mod noB W w')) :
    Code.wp Tryd.prog bodyF (Exit.inBlock 2 (only fun a' w' => ∃ v : Nat → Value, a' = { tmps := List.toArray (x0 :: Value.slice lo l.length lcap :: x2 :: x3 :: Value.pointer (some ⟨pb 2, 0, none⟩) :: x5 :: x6 :: x7 :: v 8 :: Value.slice a0 P.length k0 :: Value.int .i64 c :: x11 :: Value.slice a1 rn k1 :: x13 :: x14 :: Value.pointer (some ⟨pb 0, 0, none⟩) :: Value.pointer (some ⟨pb 1, 0, none⟩) :: x17 :: Value.slice (some ⟨sg, 0, none⟩) l.length sc :: x19 :: v 20 :: v 21 :: v 22 :: v 23 :: v 24 :: v 25 :: v 26 :: v 27 :: v 28 :: v 29 :: v 30 :: v 31 :: v 32 :: x33 :: x34 :: x35 :: x36 :: x37 :: x38 :: x39 :: x40 :: x41 :: x42 :: x43 :: x44 :: x45 :: x46 :: x47 :: x48 :: x49 :: x50 :: x51 :: x52 :: x53 :: x54 :: x55 :: x56 :: x57 :: x58 :: x59 :: x60 :: x61 :: x62 :: x63 :: x64 :: x65 :: x66 :: x67 :: x68 :: x69 :: x70 :: x71 :: x72 :: x73 :: x74 :: x75 :: x76 :: x77 :: x78 :: x79 :: x80 :: x81 :: x82 :: x83 :: x84 :: x85 :: x86 :: x87 :: x88 :: x89 :: x90 :: x91 :: x92 :: x93 :: x94 :: x95 :: x96 :: x97 :: x98 :: x99 :: x100 :: x101 :: x102 :: x103 :: x104 :: x105 :: x106 :: x107 :: x108 :: x109 :: x110 :: x111 :: x112 :: x113 :: x114 :: x115 :: x116 :: x117 :: x118 :: x119 :: x120 :: x121 :: x122 :: x123 :: x124 :: x125 :: x126 :: x127 :: x128 :: x129 :: x130 :: x131 :: x132 :: x133 :: x134 :: x135 :: x136 :: x137 :: x138 :: x139 :: x140 :: x141 :: x142 :: x143 :: x144 :: x145 :: x146 :: x147 :: x148 :: x149 :: x150 :: x151 :: x152 :: x153 :: x154 :: x155 :: x156 :: x157 :: x158 :: x159 :: x160 :: x161 :: x162 :: x163 :: x164 :: x165 :: x166 :: x167 :: x168 :: x169 :: x170 :: x171 :: x172 :: x173 :: x174 :: x175 :: x176 :: x177 :: x178 :: x179 :: x180 :: x181 :: x182 :: x183 :: x184 :: x185 :: x186 :: x187 :: x188 :: x189 :: x190 :: v 191 :: v 192 :: v 193 :: v 194 :: v 195 :: v 196 :: v 197 :: v 198 :: v 199 :: v 200 :: v 201 :: v 202 :: v 203 :: v 204 :: v 205 :: v 206 :: v 207 :: v 208 :: v 209 :: v 210 :: v 211 :: v 212 :: v 213 :: v 214 :: v 215 :: v 216 :: v 217 :: v 218 :: v 219 :: v 220 :: v 221 :: v 222 :: v 223 :: v 224 :: v 225 :: v 226 :: v 227 :: v 228 :: v 229 :: v 230 :: v 231 :: v 232 :: v 233 :: v 234 :: v 235 :: v 236 :: v 237 :: v 238 :: v 239 :: v 240 :: v 241 :: v 242 :: v 243 :: v 244 :: v 245 :: v 246 :: v 247 :: v 248 :: v 249 :: v 250 :: v 251 :: v 252 :: v 253 :: v 254 :: x255 :: []), defers := [] } ∧ Mod noB w6 w'))
      { tmps := List.toArray (x0 :: Value.slice lo l.length lcap :: x2 :: x3 :: Value.pointer (some ⟨pb 2, 0, none⟩) :: x5 :: x6 :: x7 :: x8 :: Value.slice a0 P.length k0 :: Value.int .i64 c :: x11 :: Value.slice a1 rn k1 :: x13 :: x14 :: Value.pointer (some ⟨pb 0, 0, none⟩) :: Value.pointer (some ⟨pb 1, 0, none⟩) :: x17 :: Value.slice (some ⟨sg, 0, none⟩) l.length sc :: x19 :: Value.int .i64 0 :: x21 :: x22 :: x23 :: x24 :: x25 :: x26 :: x27 :: x28 :: x29 :: x30 :: x31 :: x32 :: x33 :: x34 :: x35 :: x36 :: x37 :: x38 :: x39 :: x40 :: x41 :: x42 :: x43 :: x44 :: x45 :: x46 :: x47 :: x48 :: x49 :: x50 :: x51 :: x52 :: x53 :: x54 :: x55 :: x56 :: x57 :: x58 :: x59 :: x60 :: x61 :: x62 :: x63 :: x64 :: x65 :: x66 :: x67 :: x68 :: x69 :: x70 :: x71 :: x72 :: x73 :: x74 :: x75 :: x76 :: x77 :: x78 :: x79 :: x80 :: x81 :: x82 :: x83 :: x84 :: x85 :: x86 :: x87 :: x88 :: x89 :: x90 :: x91 :: x92 :: x93 :: x94 :: x95 :: x96 :: x97 :: x98 :: x99 :: x100 :: x101 :: x102 :: x103 :: x104 :: x105 :: x106 :: x107 :: x108 :: x109 :: x110 :: x111 :: x112 :: x113 :: x114 :: x115 :: x116 :: x117 :: x118 :: x119 :: x120 :: x121 :: x122 :: x123 :: x124 :: x125 :: x126 :: x127 :: x128 :: x129 :: x130 :: x131 :: x132 :: x133 :: x134 :: x135 :: x136 :: x137 :: x138 :: x139 :: x140 :: x141 :: x142 :: x143 :: x144 :: x145 :: x146 :: x147 :: x148 :: x149 :: x150 :: x151 :: x152 :: x153 :: x154 :: x155 :: x156 :: x157 :: x158 :: x159 :: x160 :: x161 :: x162 :: x163 :: x164 :: x165 :: x166 :: x167 :: x168 :: x169 :: x170 :: x171 :: x172 :: x173 :: x174 :: x175 :: x176 :: x177 :: x178 :: x179 :: x180 :: x181 :: x182 :: x183 :: x184 :: x185 :: x186 :: x187 :: x188 :: x189 :: x190 :: x191 :: x192 :: x193 :: x194 :: x195 :: x196 :: x197 :: x198 :: x199 :: x200 :: x201 :: x202 :: x203 :: x204 :: x205 :: x206 :: x207 :: x208 :: x209 :: x210 :: x211 :: x212 :: x213 :: x214 :: x215 :: x216 :: x217 :: x218 :: x219 :: x220 :: x221 :: x222 :: x223 :: x224 :: x225 :: x226 :: x227 :: x228 :: x229 :: x230 :: x231 :: x232 :: x233 :: x234 :: x235 :: x236 :: x237 :: x238 :: x239 :: x240 :: x241 :: x242 :: x243 :: x244 :: x245 :: x246 :: x247 :: x248 :: x249 :: x250 :: x251 :: x252 :: x253 :: x254 :: x255 :: []), defers := [] } w6 := by
  unfold bodyF
  go_loopw [20] (fun i wr => ∃ k : Nat, k ≤ 3 ∧ i = .int .i64 k ∧ Mod noB w6 wr) (fun i _ => 3 - (intOf i).toNat)
  case atStart => exact ⟨0, Nat.zero_le _, rfl, Mod.refl _ _⟩
  case round =>
    obtain ⟨k, hk, rfl, hm⟩ := hrel
    have HMr := Hold.mk hm
    have HBr := Hold.mk (HB.out.later hm)
    clear hm
    rcases (by omega : k < 2 ∨ k = 2 ∨ k = 3) with hk0 | hk0 | hk0
    · have hki : (k : Int) < 3 := by omega
      have hkb : ((k : Int) == 2) = false := beq_eq_false_iff_ne.2 (by omega)
      have HKr : Hold (Kept wr (K k)) := ⟨(HK.out k (by omega)).later HMr.out⟩
      go_upto_block 3 with fail
      refine wp_mono (law10_roundA ao cap y pb lo lcap l sg sc a0 k0 P c a1 rn k1 w6 k (by omega) hkb (K k) (cn k) (rm k) (HC.out k (by omega)).1 (HC.out k (by omega)).2 wr HBr HKr HMr ⟨H18.out k hk0⟩ ⟨H25.out k hk0⟩ ⟨H20.out k hk0⟩) (then_only ?_)
      rintro a' w' ⟨v, rfl, hm⟩
      go_wp2
      go_roundw
      case rel => exact ⟨k + 1, by omega, by go_num, hm⟩
      case measure => simp [intOf]; omega
    · have hki : (k : Int) < 3 := by omega
      have hkb : ((k : Int) == 2) = true := by simp; omega
      have HKr : Hold (Kept wr (K k)) := ⟨(HK.out k (by omega)).later HMr.out⟩
      go_upto_block 3 with fail
      refine wp_mono (law10_roundC ao cap y pb lo lcap l sg sc a0 k0 P c a1 rn k1 w6 k (by omega) hkb (K k) (cn k) (rm k) (HC.out k (by omega)).1 (HC.out k (by omega)).2 wr HBr HKr HMr ⟨H18c.out k hk0⟩ ⟨H25c.out k hk0⟩ ⟨H20c.out k hk0⟩) (then_only ?_)
      rintro a' w' ⟨v, rfl, hm⟩
      go_wp2
      go_roundw
      case rel => exact ⟨k + 1, by omega, by go_num, hm⟩
      case measure => simp [intOf]; omega
    · have hki : ¬ (k : Int) < 3 := by omega
      go_wp2
      first | exact ⟨rfl, end_frame _ _ _ rfl HMr.out⟩ | exact ⟨rfl, end_frame2 _ _ rfl, HMr.out⟩
end Go.Proofs.YtdncppempgpooaaDoor

/- RuleMore: the three pairs in memory, and what Follow, Plan and Proof yield of them. -/
namespace Go.Proofs.YtdncppempgpooaaDoor
open Go Go.RowKit Go.Shelf

theorem pair_follow {B : Nat} {ao lo : Option Addr} {cap lc : Nat} {d' d : Dye} {l' l : List (Int × Int)} (hd : dieB d' = true) (hs : stintsB l' = true) (hm : More d' d l' l) (hb : ∀ s ∈ l, failing d zeroR s = none) {P : List Int} {c : Int} (hP : (bestP d l).map Int.ofNat = P) (hc : bestC d l = c) {a0 : Option Addr} {k0 : Nat} {W : World} (hI : InB B W ao d' lo l') (hi : IntsAt W a0 P) :
    Calls Tryd.prog 18 #[dyV ao d'.bl.length cap d', .slice lo l'.length lc, .slice a0 P.length k0] W fun e w' => (∃ u1 u2, e = .returned (.tuple #[.int .i64 c, .int .i64 u1, .int .i64 u2, .int .i64 0])) ∧ Mod noB W w' :=
  (follow_any B ao cap d' lo lc l' a0 k0 P W hI hi).mono fun e w' h => by
    have := more_follow hm hd hs hb
    rw [hP, hc] at this
    rw [this] at h
    exact ⟨⟨_, _, h.1⟩, h.2⟩
theorem pair_plan {B : Nat} {ao lo : Option Addr} {cap lc : Nat} {d' d : Dye} {l' l : List (Int × Int)} (hd : dieB d' = true) (hs : stintsB l' = true) (hm : More d' d l' l) (hb : ∀ s ∈ l, failing d zeroR s = none) {W : World} (hI : InB B W ao d' lo l') :
    Calls Tryd.prog 25 #[dyV ao d'.bl.length cap d', .slice lo l'.length lc] W fun e w' => (∃ u1 u2 u3, e = .returned (.tuple #[.slice u1 u2 u3, .int .i64 (bestC d' l'), .int .i64 0])) ∧ Mod noB W w' :=
  (plan_any B ao cap d' lo lc l' W hI).mono fun e w' h => by
    rw [plan_ok hd hs (soft_bears hm.soft hm.st hb)] at h
    obtain ⟨a1, k1, he, hi, _, _, hm⟩ := h
    exact ⟨⟨_, _, _, he⟩, hm⟩
theorem pair_proof {B : Nat} {ao lo : Option Addr} {cap lc : Nat} {d' d : Dye} {l' l : List (Int × Int)} (hd : dieB d' = true) (hs : stintsB l' = true) (hm : More d' d l' l) (hb : ∀ s ∈ l, failing d zeroR s = none) {W : World} (hI : InB B W ao d' lo l') :
    Calls Tryd.prog 20 #[dyV ao d'.bl.length cap d', .slice lo l'.length lc] W fun e w' => (∃ u1 u2 u3 u4 u5, e = .returned (.tuple #[.slice u1 (rowsR d' 0 0 zeroR l').length u2, .slice u3 u4 u5, .int .i64 0])) ∧ Mod noB W w' :=
  (proof_any B ao cap d' lo lc l' W hI).mono fun e w' h => by
    rw [proof_ok hd hs (soft_bears hm.soft hm.st hb)] at h
    have hl : l'.length ≤ 7 := by simp [stintsB] at hs; omega
    have hr := rowsR_len d' l' 0 0 zeroR
    obtain ⟨a1, k1, a2, k2, he, _, _, hm⟩ := proof_lists h (by show (List.map rowP _).length ≤ 100; rw [List.length_map]; omega) (by simp)
    simp only [List.length_map] at he
    exact ⟨⟨_, _, _, _, _, he⟩, hm⟩
theorem sharp_len {d : Dye} {w t5 t3 : Nat} : (sharpD d w t5 t3).bl.length = d.bl.length := List.length_set ..

set_option maxRecDepth 100000 in
set_option maxHeartbeats 32000000 in
theorem law10_pairs {x0 x2 x3 x5 x6 x7 x8 x11 x13 x14 x17 x19 x21 x22 x23 x24 x25 x26 x27 x28 x29 x30 x31 x32 x33 x34 x35 x36 x37 x38 x39 x40 x41 x42 x43 x44 x45 x46 x47 x48 x49 x50 x51 x52 x53 x54 x55 x56 x57 x58 x59 x60 x61 x62 x63 x64 x65 x66 x67 x68 x69 x70 x71 x72 x73 x74 x75 x76 x77 x78 x79 x80 x81 x82 x83 x84 x85 x86 x87 x88 x89 x90 x91 x92 x93 x94 x95 x96 x97 x98 x99 x100 x101 x102 x103 x104 x105 x106 x107 x108 x109 x110 x111 x112 x113 x114 x115 x116 x117 x118 x119 x120 x121 x122 x123 x124 x125 x126 x127 x128 x129 x130 x131 x132 x133 x134 x135 x136 x137 x138 x139 x140 x141 x142 x143 x144 x145 x146 x147 x148 x149 x150 x151 x152 x153 x154 x155 x156 x157 x158 x159 x160 x161 x162 x163 x164 x165 x166 x167 x168 x169 x170 x171 x172 x173 x174 x175 x176 x177 x178 x179 x180 x181 x182 x183 x184 x185 x186 x187 x188 x189 x190 x191 x192 x193 x194 x195 x196 x197 x198 x199 x200 x201 x202 x203 x204 x205 x206 x207 x208 x209 x210 x211 x212 x213 x214 x215 x216 x217 x218 x219 x220 x221 x222 x223 x224 x225 x226 x227 x228 x229 x230 x231 x232 x233 x234 x235 x236 x237 x238 x239 x240 x241 x242 x243 x244 x245 x246 x247 x248 x249 x250 x251 x252 x253 x254 x255 : Value} (B ab af cap : Nat) (d : Dye) (lo : Option Addr) (lcap : Nat) (l : List (Int × Int)) (wn t5 t3 t4 t6 ub g cp sb eb db sg sc : Nat) (a0 : Option Addr) (k0 : Nat) (P : List Int) (c : Int) (a1 : Option Addr) (rn k1 : Nat) (w6 : World)
    (HD : Hold ((dieB d = true ∧ stintsB l = true) ∧ wn < d.bl.length ∧ (∀ s ∈ l, failing d zeroR s = none) ∧ (bestP d l).map Int.ofNat = P ∧ bestC d l = c ∧ (rowsR d 0 0 zeroR l).length = rn))
    (HB : Hold (w6.heap[sb]? = some (.cells #[.slice (some ⟨g, 0, none⟩) d.bl.length cp, .int .i64 d.bound, .int .i64 d.stop, .int .i64 d.bend] 24) ∧ w6.heap[eb]? = some (.cells (dyC (some ⟨ab, af, none⟩) d.bl.length cap (looseD d ub)) 24) ∧ w6.heap[db]? = some (.cells (dyC (some ⟨ab, af, none⟩) d.bl.length cap d) 24)))
    (HM : Hold (BlAt g (d.bl.set wn (sharpB (bladeAt d wn) t5 t3)) w6 ∧ StAt sg (fun _ x => shortS t4 t6 x) l w6 ∧ InB B w6 (some ⟨ab, af, none⟩) d lo l ∧ IntsAt w6 a0 P)) :
    Code.wp Tryd.prog bodyF (Exit.inBlock 2 (only fun a' w' => ∃ v : Nat → Value, a' = { tmps := List.toArray (x0 :: Value.slice lo l.length lcap :: x2 :: x3 :: Value.pointer (some ⟨db, 0, none⟩) :: x5 :: x6 :: x7 :: v 8 :: Value.slice a0 P.length k0 :: Value.int .i64 c :: x11 :: Value.slice a1 rn k1 :: x13 :: x14 :: Value.pointer (some ⟨sb, 0, none⟩) :: Value.pointer (some ⟨eb, 0, none⟩) :: x17 :: Value.slice (some ⟨sg, 0, none⟩) l.length sc :: x19 :: v 20 :: v 21 :: v 22 :: v 23 :: v 24 :: v 25 :: v 26 :: v 27 :: v 28 :: v 29 :: v 30 :: v 31 :: v 32 :: x33 :: x34 :: x35 :: x36 :: x37 :: x38 :: x39 :: x40 :: x41 :: x42 :: x43 :: x44 :: x45 :: x46 :: x47 :: x48 :: x49 :: x50 :: x51 :: x52 :: x53 :: x54 :: x55 :: x56 :: x57 :: x58 :: x59 :: x60 :: x61 :: x62 :: x63 :: x64 :: x65 :: x66 :: x67 :: x68 :: x69 :: x70 :: x71 :: x72 :: x73 :: x74 :: x75 :: x76 :: x77 :: x78 :: x79 :: x80 :: x81 :: x82 :: x83 :: x84 :: x85 :: x86 :: x87 :: x88 :: x89 :: x90 :: x91 :: x92 :: x93 :: x94 :: x95 :: x96 :: x97 :: x98 :: x99 :: x100 :: x101 :: x102 :: x103 :: x104 :: x105 :: x106 :: x107 :: x108 :: x109 :: x110 :: x111 :: x112 :: x113 :: x114 :: x115 :: x116 :: x117 :: x118 :: x119 :: x120 :: x121 :: x122 :: x123 :: x124 :: x125 :: x126 :: x127 :: x128 :: x129 :: x130 :: x131 :: x132 :: x133 :: x134 :: x135 :: x136 :: x137 :: x138 :: x139 :: x140 :: x141 :: x142 :: x143 :: x144 :: x145 :: x146 :: x147 :: x148 :: x149 :: x150 :: x151 :: x152 :: x153 :: x154 :: x155 :: x156 :: x157 :: x158 :: x159 :: x160 :: x161 :: x162 :: x163 :: x164 :: x165 :: x166 :: x167 :: x168 :: x169 :: x170 :: x171 :: x172 :: x173 :: x174 :: x175 :: x176 :: x177 :: x178 :: x179 :: x180 :: x181 :: x182 :: x183 :: x184 :: x185 :: x186 :: x187 :: x188 :: x189 :: x190 :: v 191 :: v 192 :: v 193 :: v 194 :: v 195 :: v 196 :: v 197 :: v 198 :: v 199 :: v 200 :: v 201 :: v 202 :: v 203 :: v 204 :: v 205 :: v 206 :: v 207 :: v 208 :: v 209 :: v 210 :: v 211 :: v 212 :: v 213 :: v 214 :: v 215 :: v 216 :: v 217 :: v 218 :: v 219 :: v 220 :: v 221 :: v 222 :: v 223 :: v 224 :: v 225 :: v 226 :: v 227 :: v 228 :: v 229 :: v 230 :: v 231 :: v 232 :: v 233 :: v 234 :: v 235 :: v 236 :: v 237 :: v 238 :: v 239 :: v 240 :: v 241 :: v 242 :: v 243 :: v 244 :: v 245 :: v 246 :: v 247 :: v 248 :: v 249 :: v 250 :: v 251 :: v 252 :: v 253 :: v 254 :: x255 :: []), defers := [] } ∧ Mod noB w6 w'))
      { tmps := List.toArray (x0 :: Value.slice lo l.length lcap :: x2 :: x3 :: Value.pointer (some ⟨db, 0, none⟩) :: x5 :: x6 :: x7 :: x8 :: Value.slice a0 P.length k0 :: Value.int .i64 c :: x11 :: Value.slice a1 rn k1 :: x13 :: x14 :: Value.pointer (some ⟨sb, 0, none⟩) :: Value.pointer (some ⟨eb, 0, none⟩) :: x17 :: Value.slice (some ⟨sg, 0, none⟩) l.length sc :: x19 :: Value.int .i64 0 :: x21 :: x22 :: x23 :: x24 :: x25 :: x26 :: x27 :: x28 :: x29 :: x30 :: x31 :: x32 :: x33 :: x34 :: x35 :: x36 :: x37 :: x38 :: x39 :: x40 :: x41 :: x42 :: x43 :: x44 :: x45 :: x46 :: x47 :: x48 :: x49 :: x50 :: x51 :: x52 :: x53 :: x54 :: x55 :: x56 :: x57 :: x58 :: x59 :: x60 :: x61 :: x62 :: x63 :: x64 :: x65 :: x66 :: x67 :: x68 :: x69 :: x70 :: x71 :: x72 :: x73 :: x74 :: x75 :: x76 :: x77 :: x78 :: x79 :: x80 :: x81 :: x82 :: x83 :: x84 :: x85 :: x86 :: x87 :: x88 :: x89 :: x90 :: x91 :: x92 :: x93 :: x94 :: x95 :: x96 :: x97 :: x98 :: x99 :: x100 :: x101 :: x102 :: x103 :: x104 :: x105 :: x106 :: x107 :: x108 :: x109 :: x110 :: x111 :: x112 :: x113 :: x114 :: x115 :: x116 :: x117 :: x118 :: x119 :: x120 :: x121 :: x122 :: x123 :: x124 :: x125 :: x126 :: x127 :: x128 :: x129 :: x130 :: x131 :: x132 :: x133 :: x134 :: x135 :: x136 :: x137 :: x138 :: x139 :: x140 :: x141 :: x142 :: x143 :: x144 :: x145 :: x146 :: x147 :: x148 :: x149 :: x150 :: x151 :: x152 :: x153 :: x154 :: x155 :: x156 :: x157 :: x158 :: x159 :: x160 :: x161 :: x162 :: x163 :: x164 :: x165 :: x166 :: x167 :: x168 :: x169 :: x170 :: x171 :: x172 :: x173 :: x174 :: x175 :: x176 :: x177 :: x178 :: x179 :: x180 :: x181 :: x182 :: x183 :: x184 :: x185 :: x186 :: x187 :: x188 :: x189 :: x190 :: x191 :: x192 :: x193 :: x194 :: x195 :: x196 :: x197 :: x198 :: x199 :: x200 :: x201 :: x202 :: x203 :: x204 :: x205 :: x206 :: x207 :: x208 :: x209 :: x210 :: x211 :: x212 :: x213 :: x214 :: x215 :: x216 :: x217 :: x218 :: x219 :: x220 :: x221 :: x222 :: x223 :: x224 :: x225 :: x226 :: x227 :: x228 :: x229 :: x230 :: x231 :: x232 :: x233 :: x234 :: x235 :: x236 :: x237 :: x238 :: x239 :: x240 :: x241 :: x242 :: x243 :: x244 :: x245 :: x246 :: x247 :: x248 :: x249 :: x250 :: x251 :: x252 :: x253 :: x254 :: x255 :: []), defers := [] } w6 := by
  obtain ⟨⟨⟨hd, hs⟩, hw, hb, hP, hc, hrn⟩⟩ := HD
  obtain ⟨⟨m1, m2, m3, m4⟩⟩ := HM
  have l5 : d.bl.length ≤ 5 := (dieB_parts hd).1.2
  have l7 : l.length ≤ 7 := by simp [stintsB] at hs; omega
  have more0 := sharp_more (w := wn) (t5 := t5) (t3 := t3) hd hs hw
  have more1 := loose_more (u := ub) hd hs
  have more2 := short_more (t4 := t4) (t6 := t6) hd hs
  have hd0 := sharp_die (t5 := t5) (t3 := t3) hd hw
  have hd1 := loose_die (u := ub) hd
  have hs2 := short_stints (t4 := t4) (t6 := t6) hs
  have hg : g < w6.heap.size := by obtain ⟨cur, h, _⟩ := m1; exact at_ltS h
  have hsg : sg < w6.heap.size := by obtain ⟨cur, h, _⟩ := m2; exact at_ltS h
  have hst : StintsAt w6.heap.size w6 (some ⟨sg, 0, none⟩) (l.map (shortS t4 t6)) := ⟨fun _ => by
    obtain ⟨cur, h1, h2⟩ := m2
    refine ⟨sg, 0, rfl, hsg, fun k x hx j hj => ?_⟩
    rw [List.getElem?_map] at hx
    obtain ⟨x0, hx0, rfl⟩ := Option.map_eq_some_iff.1 hx
    obtain ⟨g1, g2⟩ := h2 k x0 hx0
    rw [Nat.zero_add, cellsAt h1]
    rcases (by omega : j = 0 ∨ j = 1) with rfl | rfl
    · exact g1
    · exact g2, by rw [List.length_map]; omega⟩
  have i0 : InB w6.heap.size w6 (some ⟨g, 0, none⟩) (sharpD d wn t5 t3) lo l := ⟨m1.blades hg (by rw [List.length_set]; omega), m3.st.mono m3.le, Nat.le_refl _, m3.tab, Nat.lt_of_lt_of_le m3.one m3.le⟩
  have i1 : InB w6.heap.size w6 (some ⟨ab, af, none⟩) (looseD d ub) lo l := ⟨m3.bl.mono m3.le, m3.st.mono m3.le, Nat.le_refl _, m3.tab, Nat.lt_of_lt_of_le m3.one m3.le⟩
  have i2 : InB w6.heap.size w6 (some ⟨ab, af, none⟩) d (some ⟨sg, 0, none⟩) (l.map (shortS t4 t6)) := ⟨m3.bl.mono m3.le, hst, Nat.le_refl _, m3.tab, Nat.lt_of_lt_of_le m3.one m3.le⟩
  obtain ⟨⟨b0, b1, b2⟩⟩ := HB
  refine law10_three (fun j => match j with | 0 => some ⟨g, 0, none⟩ | _ => some ⟨ab, af, none⟩) (fun j => match j with | 0 => cp | _ => cap) (fun j => match j with | 0 => sharpD d wn t5 t3 | 1 => looseD d ub | _ => d) (fun j => match j with | 0 => sb | 1 => eb | _ => db) lo lcap l sg sc a0 k0 P c a1 rn k1 w6
    (fun j W => (match j with | 0 => InB w6.heap.size W (some ⟨g, 0, none⟩) (sharpD d wn t5 t3) lo l | 1 => InB w6.heap.size W (some ⟨ab, af, none⟩) (looseD d ub) lo l | _ => InB w6.heap.size W (some ⟨ab, af, none⟩) d (some ⟨sg, 0, none⟩) (l.map (shortS t4 t6))) ∧ IntsAt W a0 P)
    (fun j => match j with | 0 => bestC (sharpD d wn t5 t3) l | 1 => bestC (looseD d ub) l | _ => bestC d (l.map (shortS t4 t6)))
    (fun j => match j with | 0 => (rowsR (sharpD d wn t5 t3) 0 0 zeroR l).length | 1 => (rowsR (looseD d ub) 0 0 zeroR l).length | _ => (rowsR d 0 0 zeroR (l.map (shortS t4 t6))).length)
    ⟨fun W h => ⟨?_, h.at b1 id, h.at b2 id⟩⟩ ⟨?_⟩ ⟨?_⟩ ⟨?_⟩ ⟨?_⟩ ⟨?_⟩ ⟨?_⟩ ⟨?_⟩ ⟨?_⟩
  · show W.heap[sb]? = some (.cells (dyC (some ⟨g, 0, none⟩) (sharpD d wn t5 t3).bl.length cp (sharpD d wn t5 t3)) 24)
    rw [h.at b0 id, sharp_len]
  · intro j hj W h
    have hi := m4.mod h
    rcases (by omega : j = 0 ∨ j = 1 ∨ j = 2) with rfl | rfl | rfl
    · exact ⟨i0.mod h, hi⟩
    · exact ⟨i1.mod h, hi⟩
    · exact ⟨i2.mod h, hi⟩
  · intro j hj
    rcases (by omega : j = 0 ∨ j = 1 ∨ j = 2) with rfl | rfl | rfl
    · have := more_plan more0 hb; simp only; rw [← hc, ← hrn]; omega
    · have := more_plan more1 hb; simp only; rw [← hc, ← hrn]; omega
    · have := more_plan more2 hb; simp only; rw [← hc, ← hrn]; omega
  · intro j hj W hK
    rcases (by omega : j = 0 ∨ j = 1) with rfl | rfl
    · exact pair_follow hd0 hs more0 hb hP hc hK.1 hK.2
    · exact pair_follow hd1 hs more1 hb hP hc hK.1 hK.2
  · intro j hj W hK
    rcases (by omega : j = 0 ∨ j = 1) with rfl | rfl
    · exact pair_plan hd0 hs more0 hb hK.1
    · exact pair_plan hd1 hs more1 hb hK.1
  · intro j hj W hK
    rcases (by omega : j = 0 ∨ j = 1) with rfl | rfl
    · exact pair_proof hd0 hs more0 hb hK.1
    · exact pair_proof hd1 hs more1 hb hK.1
  · rintro j rfl W hK
    have := pair_follow (cap := cap) (lc := sc) (a0 := a0) (k0 := k0) hd hs2 more2 hb hP hc hK.1 hK.2
    rw [List.length_map] at this
    exact this
  · rintro j rfl W hK
    have := pair_plan (cap := cap) (lc := sc) hd hs2 more2 hb hK.1
    rw [List.length_map] at this
    exact this
  · rintro j rfl W hK
    have := pair_proof (cap := cap) (lc := sc) hd hs2 more2 hb hK.1
    rw [List.length_map] at this
    exact this
end Go.Proofs.YtdncppempgpooaaDoor

/- RuleMore: the law's walk. -/
namespace Go.Proofs.YtdncppempgpooaaDoor
open Go Go.RowKit Go.Shelf

set_option maxRecDepth 100000 in
set_option maxHeartbeats 4000000 in
theorem law10_far (ao lo : Option Addr) (cap n lcap ln uw ub : Nat) (x y z : Int) (w : World) (hn : n ≤ 9223372036854775807) (hl : ln ≤ 9223372036854775807) (hf : (10 < (n : Int)) ∨ (12 < (ln : Int))) (hT : Tab w) :
    Calls Tryd.prog 10 #[.agg #[.slice ao n cap, .int .i64 x, .int .i64 y, .int .i64 z], .slice lo ln lcap, .int .u8 uw, .int .u8 ub] w fun e w' => e = .returned (.bool true) ∧ Mod noB w w' := by
  have hw1 : 1 < w.heap.size := World.block_lt_of_cell? _ _ (hT.at_ 0 (by omega))
  have HF := Hold.mk (show Kept (w.alloc (.cells #[.slice ao n cap, .int .i64 x, .int .i64 y, .int .i64 z] 24)) (fun W => Tab W ∧ Mod noB w W) from fun W h => by
    have hm := ((Mod.refl noB w).alloc _).trans h
    exact ⟨hT.same (hm.block 1 hw1 id), hm⟩)
  have H12 : Hold (∀ W, Calls Tryd.prog 12 #[.agg #[.slice ao n cap, .int .i64 x, .int .i64 y, .int .i64 z], .slice lo ln lcap, .slice none 0 0] W fun e w' => e = .returned (.bool true) ∧ Mod noB W w') := ⟨fun W => (far_more ao lo none cap n ln 0 lcap 0 x y z W hn hl (by omega)).mono fun e w' h => ⟨by rw [h.1]; congr 2; simp; omega, h.2⟩⟩
  clear hT hw1 hf
  go_enter Tryd.func10, Tryd.ntmps10
  go_wp2_with (first
    | (go_at_call 12; refine (H12.out _).mono ?_; rintro e w1 ⟨rfl, hM⟩; have HF1 := Hold.mk (HF.out.later hM); clear hM)
    | (go_at_call 13; refine (awake_any _ HF1.out.now.1).mono ?_; rintro e w2 ⟨rfl, hM⟩; have HF2 := Hold.mk (HF1.out.later hM); clear hM))
  go_ret
  exact ⟨rfl, HF2.out.now.2⟩

set_option maxRecDepth 100000 in
set_option maxHeartbeats 4000000 in
/-- Where the law looks no further: too many plans, no raw numbers, a die or stints that are not valid. -/
theorem law10_no (B : Nat) (ao : Option Addr) (cap : Nat) (d : Dye) (lo : Option Addr) (lcap : Nat) (l : List (Int × Int)) (uw ub : Nat) (w : World) (hI : InB B w ao d lo l) (h1 : ¬ 10 < (d.bl.length : Int)) (h2 : ¬ 12 < (l.length : Int)) (hno : dieB d = false ∨ stintsB l = false) :
    Calls Tryd.prog 10 #[dyV ao d.bl.length cap d, .slice lo l.length lcap, .int .u8 uw, .int .u8 ub] w fun e w' => e = .returned (.bool true) ∧ Mod noB w w' := by
  have hsm := hI.bl.small
  have HF := Hold.mk (lawd0 (cap := cap) hI)
  have H12 : Hold (∀ W, Calls Tryd.prog 12 #[dyV ao d.bl.length cap d, .slice lo l.length lcap, .slice none 0 0] W fun e w' => e = .returned (.bool false) ∧ Mod noB W w') := ⟨fun W => (far_more ao lo none cap d.bl.length l.length 0 lcap 0 d.bound d.stop d.bend W (by omega) (by omega) (by omega)).mono fun e w' h => ⟨by rw [h.1]; congr 2; simp; omega, h.2⟩⟩
  have H24 : Hold (∀ W, Calls Tryd.prog 24 #[dyV ao d.bl.length cap d, .slice lo l.length lcap, .int .i64 32768] W fun e w' => SomeB e ∧ Mod noB W w') := ⟨fun W => heavy_any ao cap d.bl.length d.bound d.stop d.bend lo l.length lcap 32768 W (by omega) (by omega)⟩
  have H27 : Hold (∀ W, InB B W ao d lo l → Calls Tryd.prog 27 #[dyV ao d.bl.length cap d] W fun e w' => e = .returned (.bool (dieB d)) ∧ Mod noB W w') := ⟨fun W h => refDie_any B ao cap d W h.le h.bl⟩
  have H28 : Hold (∀ W, InB B W ao d lo l → Calls Tryd.prog 28 #[.slice lo l.length lcap] W fun e w' => e = .returned (.bool (stintsB l)) ∧ Mod noB W w') := ⟨fun W h => refStints_any B lo lcap l W h.le h.st⟩
  have HN := Hold.mk hno
  clear hI h1 h2
  have body : ∀ (db sb : Bool), dieB d = db → stintsB l = sb → (db = false ∨ sb = false) → Calls Tryd.prog 10 #[dyV ao d.bl.length cap d, .slice lo l.length lcap, .int .u8 uw, .int .u8 ub] w fun e w' => e = .returned (.bool true) ∧ Mod noB w w' := by
    intro db sb hdb hsb hh
    rw [hdb] at H27
    rw [hsb] at H28
    clear hdb hsb HN hno
    rcases (show db = false ∨ (db = true ∧ sb = false) from by
      cases db
      · exact .inl rfl
      · refine .inr ⟨rfl, ?_⟩
        rcases hh with h | h
        · cases h
        · exact h) with rfl | ⟨rfl, rfl⟩
    all_goals
      clear hh
      go_enter Tryd.func10, Tryd.ntmps10
      go_wp2_with (first
        | (refine wpList_load_row rfl 24 (.tmp 4) rfl w.heap.size rfl 24 _ (0, 0) _ HF.out.now.1 Tryd.underlying24 rfl info24 ?_)
        | (go_at_call 12; refine (H12.out _).mono ?_; rintro e w1 ⟨rfl, hM⟩; have HF := Hold.mk (HF.out.later hM); have hg := HF.out.now.1; have g0 := cellsAt hg 0; have g1 := cellsAt hg 1; have g2 := cellsAt hg 2; have g3 := cellsAt hg 3; clear hM hg)
        | (go_at_call 24; refine (H24.out _).mono ?_; rintro e w2 ⟨⟨b, rfl⟩, hM⟩; have HF := Hold.mk (HF.out.later hM); have hg := HF.out.now.1; have g0 := cellsAt hg 0; have g1 := cellsAt hg 1; have g2 := cellsAt hg 2; have g3 := cellsAt hg 3; clear hM hg; cases b)
        | (go_at_call 27; refine (H27.out _ HF.out.now.2.1).mono ?_; rintro e w3 ⟨rfl, hM⟩; have HF := Hold.mk (HF.out.later hM); clear hM)
        | (go_at_call 28; refine (H28.out _ HF.out.now.2.1).mono ?_; rintro e w4 ⟨rfl, hM⟩; have HF := Hold.mk (HF.out.later hM); clear hM)
        | (go_at_call 13; refine (awake_any _ HF.out.now.2.1.tab).mono ?_; rintro e w5 ⟨rfl, hM⟩; have HF := Hold.mk (HF.out.later hM); clear hM))
      all_goals
        go_ret
        exact ⟨rfl, HF.out.now.2.2⟩
  exact body _ _ rfl rfl HN.out

set_option maxRecDepth 100000 in
set_option maxHeartbeats 32000000 in
theorem law10_yes (B : Nat) (ab af : Nat) (cap : Nat) (d : Dye) (lo : Option Addr) (lcap : Nat) (l : List (Int × Int)) (uw ub : Nat) (huw : uw ≤ 255) (hub : ub ≤ 255) (w : World) (hI : InB B w (some ⟨ab, af, none⟩) d lo l) (h1 : ¬ 10 < (d.bl.length : Int)) (h2 : ¬ 12 < (l.length : Int)) (hd : dieB d = true) (hs : stintsB l = true) (hcn : lo = none → lcap = 0) :
    Calls Tryd.prog 10 #[dyV (some ⟨ab, af, none⟩) d.bl.length cap d, .slice lo l.length lcap, .int .u8 uw, .int .u8 ub] w fun e w' => e = .returned (.bool true) ∧ Mod noB w w' := by
  have hsm := hI.bl.small
  have hl7 : l.length ≤ 7 := by simp [stintsB] at hs; omega
  obtain ⟨⟨l1, l5⟩, _, ⟨db1, db2⟩, s1, s2⟩ := dieB_parts hd
  have HF := Hold.mk (lawd0 (cap := cap) hI)
  have H12 : Hold (∀ W, Calls Tryd.prog 12 #[dyV (some ⟨ab, af, none⟩) d.bl.length cap d, .slice lo l.length lcap, .slice none 0 0] W fun e w' => e = .returned (.bool false) ∧ Mod noB W w') := ⟨fun W => (far_more (some ⟨ab, af, none⟩) lo none cap d.bl.length l.length 0 lcap 0 d.bound d.stop d.bend W (by omega) (by omega) (by omega)).mono fun e w' h => ⟨by rw [h.1]; congr 2; simp; omega, h.2⟩⟩
  have H24 : Hold (∀ W, Calls Tryd.prog 24 #[dyV (some ⟨ab, af, none⟩) d.bl.length cap d, .slice lo l.length lcap, .int .i64 32768] W fun e w' => SomeB e ∧ Mod noB W w') := ⟨fun W => heavy_any (some ⟨ab, af, none⟩) cap d.bl.length d.bound d.stop d.bend lo l.length lcap 32768 W (by omega) (by omega)⟩
  have H27 : Hold (∀ W, InB B W (some ⟨ab, af, none⟩) d lo l → Calls Tryd.prog 27 #[dyV (some ⟨ab, af, none⟩) d.bl.length cap d] W fun e w' => e = .returned (.bool true) ∧ Mod noB W w') := ⟨fun W h => by rw [← hd]; exact refDie_any B (some ⟨ab, af, none⟩) cap d W h.le h.bl⟩
  have H28 : Hold (∀ W, InB B W (some ⟨ab, af, none⟩) d lo l → Calls Tryd.prog 28 #[.slice lo l.length lcap] W fun e w' => e = .returned (.bool true) ∧ Mod noB W w') := ⟨fun W h => by rw [← hs]; exact refStints_any B lo lcap l W h.le h.st⟩
  rcases proof_is hd hs with ⟨hp, hk⟩ | ⟨hp, hbr⟩
  · have hpl := plan_no hd hs hk
    have H25 : Hold (∀ W, InB B W (some ⟨ab, af, none⟩) d lo l → Calls Tryd.prog 25 #[dyV (some ⟨ab, af, none⟩) d.bl.length cap d, .slice lo l.length lcap] W fun e w' => ∃ a1 k1, e = .returned (.tuple #[.slice a1 0 k1, .int .i64 0, .int .i64 4]) ∧ Mod noB W w') := ⟨fun W h => (plan_any B (some ⟨ab, af, none⟩) cap d lo lcap l W h).mono fun e w' h => by
      rw [hpl] at h
      obtain ⟨a1, k1, he, hi, _, _, hm⟩ := h
      exact ⟨a1, k1, he, hm⟩⟩
    have H20 : Hold (∀ W, InB B W (some ⟨ab, af, none⟩) d lo l → Calls Tryd.prog 20 #[dyV (some ⟨ab, af, none⟩) d.bl.length cap d, .slice lo l.length lcap] W fun e w' => ∃ a1 k1 a2 k2, e = .returned (.tuple #[.slice a1 0 k1, .slice a2 0 k2, .int .i64 4]) ∧ Mod noB W w') := ⟨fun W h => (proof_any B (some ⟨ab, af, none⟩) cap d lo lcap l W h).mono fun e w' h => by
      rw [hp] at h
      obtain ⟨a1, k1, a2, k2, he, _, _, hm⟩ := proof_lists h (by simp) rfl
      exact ⟨a1, k1, a2, k2, he, hm⟩⟩
    clear hI h1 h2 hd hs hp hk hpl s1 s2 hcn
    go_enter Tryd.func10, Tryd.ntmps10
    go_wp2_with (first
      | (refine wpList_load_row rfl 24 (.tmp 4) rfl w.heap.size rfl 24 _ (0, 0) _ HF.out.now.1 Tryd.underlying24 rfl info24 ?_)
      | (go_at_call 12; refine (H12.out _).mono ?_; rintro e w1 ⟨rfl, hM⟩; have HF := Hold.mk (HF.out.later hM); have hg := HF.out.now.1; have g0 := cellsAt hg 0; have g1 := cellsAt hg 1; have g2 := cellsAt hg 2; have g3 := cellsAt hg 3; clear hM hg)
      | (go_at_call 24; refine (H24.out _).mono ?_; rintro e w2 ⟨⟨b, rfl⟩, hM⟩; have HF := Hold.mk (HF.out.later hM); have hg := HF.out.now.1; have g0 := cellsAt hg 0; have g1 := cellsAt hg 1; have g2 := cellsAt hg 2; have g3 := cellsAt hg 3; clear hM hg; cases b)
      | (go_at_call 27; refine (H27.out _ HF.out.now.2.1).mono ?_; rintro e w3 ⟨rfl, hM⟩; have HF := Hold.mk (HF.out.later hM); clear hM)
      | (go_at_call 28; refine (H28.out _ HF.out.now.2.1).mono ?_; rintro e w4 ⟨rfl, hM⟩; have HF := Hold.mk (HF.out.later hM); clear hM)
      | (go_at_call 25; refine (H25.out _ HF.out.now.2.1).mono ?_; rintro e w5 ⟨a1, k1, rfl, hM⟩; have HF := Hold.mk (HF.out.later hM); clear hM)
      | (go_at_call 20; refine (H20.out _ HF.out.now.2.1).mono ?_; rintro e w6 ⟨a1, k1, a2, k2, rfl, hM⟩; have HF := Hold.mk (HF.out.later hM); clear hM)
      | (go_at_call 13; refine (awake_any _ HF.out.now.2.1.tab).mono ?_; rintro e w9 ⟨rfl, hM⟩; have HF := Hold.mk (HF.out.later hM); clear hM))
    all_goals
      go_ret
      exact ⟨rfl, HF.out.now.2.2⟩
  · have hpl := plan_ok hd hs hbr
    obtain ⟨c, hc⟩ : ∃ c, bestC d l = c := ⟨_, rfl⟩
    obtain ⟨rows, hrows⟩ : ∃ rows, rowsR d 0 0 zeroR l = rows := ⟨_, rfl⟩
    obtain ⟨P, hP⟩ : ∃ P, (bestP d l).map Int.ofNat = P := ⟨_, rfl⟩
    have hrl : rows.length ≤ l.length := by rw [← hrows]; exact rowsR_len _ _ _ _ _
    obtain ⟨wn, hwn⟩ : ∃ wn, uw % d.bl.length = wn := ⟨_, rfl⟩
    have hwl : wn < d.bl.length := by rw [← hwn]; exact Nat.mod_lt _ (by omega)
    have hrem : Int.tmod (uw : Int) (d.bl.length : Int) = (wn : Int) := by rw [← hwn]; rfl
    have HD := Hold.mk (And.intro (And.intro hd hs) (And.intro hwl (And.intro hbr (And.intro hP (And.intro hc (show (rowsR d 0 0 zeroR l).length = rows.length by rw [hrows]))))))
    rw [hc, hP] at hpl
    rw [hrows] at hp
    have H25 : Hold (∀ W, InB B W (some ⟨ab, af, none⟩) d lo l → Calls Tryd.prog 25 #[dyV (some ⟨ab, af, none⟩) d.bl.length cap d, .slice lo l.length lcap] W fun e w' => ∃ a1 k1, e = .returned (.tuple #[.slice a1 P.length k1, .int .i64 c, .int .i64 0]) ∧ IntsAt w' a1 P ∧ Mod noB W w') := ⟨fun W h => (plan_any B (some ⟨ab, af, none⟩) cap d lo lcap l W h).mono fun e w' h => by
      rw [hpl] at h
      obtain ⟨a1, k1, he, hi, _, _, hm⟩ := h
      exact ⟨a1, k1, he, hi, hm⟩⟩
    have H20 : Hold (∀ W, InB B W (some ⟨ab, af, none⟩) d lo l → Calls Tryd.prog 20 #[dyV (some ⟨ab, af, none⟩) d.bl.length cap d, .slice lo l.length lcap] W fun e w' => ∃ a1 k1 a2 k2, e = .returned (.tuple #[.slice a1 rows.length k1, .slice a2 rows.length k2, .int .i64 0]) ∧ Mod noB W w') := ⟨fun W h => (proof_any B (some ⟨ab, af, none⟩) cap d lo lcap l W h).mono fun e w' h => by
      rw [hp] at h
      obtain ⟨a1, k1, a2, k2, he, _, _, hm⟩ := proof_lists h (by show (rows.map rowP).length ≤ 100; rw [List.length_map]; omega) (by simp)
      simp only [List.length_map] at he
      exact ⟨a1, k1, a2, k2, he, hm⟩⟩
    have HY := Hold.mk (bladeAt_some hwl)
    have HYb := Hold.mk ((dieB_parts hd).2.1 _ (List.mem_of_getElem? (bladeAt_some hwl)))
    have HRM := Hold.mk hrem
    have HCN := Hold.mk hcn
    have HL := Hold.mk (stints_pos hs)
    have HT : Hold ((Int.tmod (ub : Int) ((4 : Nat) : Int) = ((ub % 4 : Nat) : Int) ∧ Int.tmod (uw : Int) ((6 : Nat) : Int) = ((uw % 6 : Nat) : Int)) ∧ Int.tmod (ub : Int) ((5 : Nat) : Int) = ((ub % 5 : Nat) : Int) ∧ Int.tmod (ub : Int) ((3 : Nat) : Int) = ((ub % 3 : Nat) : Int)) := ⟨⟨rfl, rfl⟩, rfl, rfl⟩
    obtain ⟨t4, ht4⟩ : ∃ t, ub % 4 = t := ⟨_, rfl⟩
    obtain ⟨t6, ht6⟩ : ∃ t, uw % 6 = t := ⟨_, rfl⟩
    obtain ⟨t5, ht5⟩ : ∃ t, ub % 5 = t := ⟨_, rfl⟩
    obtain ⟨t3, ht3⟩ : ∃ t, ub % 3 = t := ⟨_, rfl⟩
    have hT4 : t4 ≤ 255 := by omega
    have hT6 : t6 ≤ 255 := by omega
    have hT5 : t5 ≤ 255 := by omega
    have hT3 : t3 ≤ 255 := by omega
    rw [ht4, ht6, ht5, ht3] at HT
    clear ht4 ht6 ht5 ht3 hwn hrem hI h1 h2 hd hs hp hpl hrows hc hP hbr hrl s1 s2 hcn
    go_enter Tryd.func10, Tryd.ntmps10
    go_wp2_with (first
      | (refine wpList_load_row rfl 24 (.tmp 4) rfl w.heap.size rfl 24 _ (0, 0) _ HF.out.now.1 Tryd.underlying24 rfl info24 ?_)
      | (go_at_call 12; refine (H12.out _).mono ?_; rintro e w1 ⟨rfl, hM⟩; have HF := Hold.mk (HF.out.later hM); have hg := HF.out.now.1; have g0 := cellsAt hg 0; have g1 := cellsAt hg 1; have g2 := cellsAt hg 2; have g3 := cellsAt hg 3; clear hM hg)
      | (go_at_call 24; refine (H24.out _).mono ?_; rintro e w2 ⟨⟨b, rfl⟩, hM⟩; have HF := Hold.mk (HF.out.later hM); have hg := HF.out.now.1; have g0 := cellsAt hg 0; have g1 := cellsAt hg 1; have g2 := cellsAt hg 2; have g3 := cellsAt hg 3; clear hM hg; cases b)
      | (go_at_call 27; refine (H27.out _ HF.out.now.2.1).mono ?_; rintro e w3 ⟨rfl, hM⟩; have HF := Hold.mk (HF.out.later hM); clear hM)
      | (go_at_call 28; refine (H28.out _ HF.out.now.2.1).mono ?_; rintro e w4 ⟨rfl, hM⟩; have HF := Hold.mk (HF.out.later hM); clear hM)
      | (go_at_call 25; refine (H25.out _ HF.out.now.2.1).mono ?_; rintro e w5 ⟨a0, k0, rfl, i1, hM⟩; have HF := Hold.mk (HF.out.later hM); have HP := Hold.mk (kept_ints i1); clear hM i1)
      | (go_at_call 20; refine (H20.out _ HF.out.now.2.1).mono ?_; rintro e w6 ⟨a1, k1, a2, k2, rfl, hM⟩; have HF := Hold.mk (HF.out.later hM); have HP := Hold.mk (HP.out.later hM); have hg := HF.out.now.1; have g0 := cellsAt hg 0; have g1 := cellsAt hg 1; have g2 := cellsAt hg 2; have g3 := cellsAt hg 3; clear hM hg)
      | (go_at_call 13; refine (awake_any _ HF.out.now.2.1.tab).mono ?_; rintro e w9 ⟨rfl, hM⟩; have HF := Hold.mk (HF.out.later hM); clear hM))
    all_goals first
      | (go_ret
         exact ⟨rfl, HF.out.now.2.2⟩)
      | skip
    clear g0 g1 g2 g3 H12 H24 H27 H28 H25 H20
    refine region_mc (ao := some ⟨ab, af, none⟩) (cap := cap) (db := w.heap.size) (d := d) rfl rfl HF.out.now.1 ?_
    intro vs w7 sb eb e0 e1 e2 e3 hne hsz1 hsz2 hsb heb hM
    simp only [mcDs, List.foldl_cons, List.foldl_nil, Act.put, List.setIfInBounds_toArray, List.set_cons_succ, List.set_cons_zero, e0, e1, e2, e3]
    have HM7 := Hold.mk hM
    have HF7 := Hold.mk (HF.out.later hM)
    have HS7 := Hold.mk (And.intro hsb heb)
    have HN := Hold.mk (And.intro hne (And.intro hsz1 hsz2))
    clear e0 e1 e2 e3 hne hsz1 hsz2 hsb heb hM
    go_upto_region 10 with fail
    refine region_md (B := B) (ab := ab) (af := af) (cap := cap) (db := w.heap.size) (sb := sb) (d := d) rfl rfl rfl l5 (fun e => by rw [e] at l1; simp at l1) HF7.out.now.1 HS7.out.1 HF7.out.now.2.1.bl HF7.out.now.2.1.le ?_
    intro g cp w8 hbl hg7 hsb8 hM
    simp only [Act.put, List.setIfInBounds_toArray, List.set_cons_succ, List.set_cons_zero]
    have HM8 : Hold (Mod noB w6 w8) := ⟨HM7.out.then hM (fun i h1 h2 => by have := HN.out.2.1; omega)⟩
    have HF8 := Hold.mk (HF.out.later HM8.out)
    have HS8 := Hold.mk (And.intro hsb8 (hM.at HS7.out.2 (fun e => HN.out.1 e.symm)))
    have HG8 := Hold.mk (And.intro hbl (show w6.heap.size ≤ g from Nat.le_trans HM7.out.size hg7))
    clear hbl hg7 hsb8 hM HF7 HS7
    go_upto_region 11 with fail
    refine region_mb (sb := sb) (db := w.heap.size) (g := g) (n := d.bl.length) (gc := cp) (cap := cap) (u := uw) (wn := wn) (ao := some ⟨ab, af, none⟩) rfl rfl rfl rfl (fun W' h => cellsAt (h.at HS8.out.1 id) 0) (fun W' h => cellsAt ((HF8.out _ h).1) 0) (by omega) HRM.out hwl huw l5 ?_
    intro w9 hM
    simp only [mbDs, mbC, List.foldl_cons, List.foldl_nil, Act.put, List.setIfInBounds_toArray, List.set_cons_succ, List.set_cons_zero, List.getD_cons_zero, List.getD_cons_succ]
    have HM9 : Hold (Mod noB w6 w9) := ⟨HM8.out.trans hM⟩
    have HS9 := Hold.mk (And.intro (hM.at HS8.out.1 id) (hM.at HS8.out.2 id))
    have HG9 : Hold (∃ cur, w9.heap[g]? = some (.cells cur 53) ∧ ∀ k x, d.bl[k]? = some x → ∀ j, j < 4 → cur[k * 4 + j]? = (blC x)[j]?) := ⟨by obtain ⟨cur, h1, h2⟩ := HG8.out.1; exact ⟨cur, hM.at h1 id, h2⟩⟩
    have HGs := Hold.mk HG8.out.2
    clear hM HF8 HS8 HG8
    obtain ⟨⟨cur, hc1, hc2⟩⟩ := HG9
    obtain ⟨y, hy⟩ : ∃ y, bladeAt d wn = y := ⟨_, rfl⟩
    rw [hy] at HY HYb
    have HCU := Hold.mk (bl_cur (t5 := t5) (t3 := t3) hc2 HY.out)
    have q := hc2 _ _ HY.out
    have Q0 := Hold.mk (show cur[0 + wn * 4]? = some (.int .i64 y.f.1) by rw [Nat.zero_add]; exact q 0 (by omega))
    have Q1 := Hold.mk (show cur[0 + wn * 4 + 1]? = some (.int .i64 y.f.2) by rw [Nat.zero_add]; exact q 1 (by omega))
    have Q2 := Hold.mk (show cur[0 + wn * 4 + 2]? = some (.int .i64 y.w.1) by rw [Nat.zero_add]; exact q 2 (by omega))
    have Q3 := Hold.mk (show cur[0 + wn * 4 + 3]? = some (.int .i64 y.w.2) by rw [Nat.zero_add]; exact q 3 (by omega))
    have HC1 := Hold.mk hc1
    clear hc1 hc2 q
    go_upto_region 12 with fail
    refine region_me (g := g) (f := 0 + wn * 4) (u := ub) (t := t5) (p0 := y.f.1) (p1 := y.f.2) (mx := (sharpB y t5 t3).f.2) rfl rfl rfl (fun W' h => (cellsAt (h.at HC1.out id) _).trans Q0.out) (fun W' h => (cellsAt (h.at HC1.out id) _).trans Q1.out) (fun W' h => ⟨_, _, _, h.at HC1.out id, Q1.out⟩) HT.out.2.1 hub hT5 (by have := HYb.out; omega) (by have := HYb.out; omega) rfl ?_
    intro w10 hM
    simp only [meDs, meC, List.foldl_cons, List.foldl_nil, Act.put, List.setIfInBounds_toArray, List.set_cons_succ, List.set_cons_zero, List.getD_cons_zero, List.getD_cons_succ]
    have hcw := setCell_at (hM.at HC1.out id) (0 + wn * 4 + 1) (.int .i64 (sharpB y t5 t3).f.2)
    have hMw : Mod (fun j => j = g) w9 (w10.setCell ⟨g, 0 + wn * 4 + 1, none⟩ (.int .i64 (sharpB y t5 t3).f.2)) := (show Mod (fun j => j = g) w9 w10 from hM.wider (fun _ _ h => h.elim)).setCell (p := ⟨g, 0 + wn * 4 + 1, none⟩) (fun _ => rfl) _
    generalize w10.setCell ⟨g, 0 + wn * 4 + 1, none⟩ (.int .i64 (sharpB y t5 t3).f.2) = w11 at *
    have HC2 := Hold.mk hcw
    have HM11 := Hold.mk hMw
    have R2 := Hold.mk (show (cur.setIfInBounds (0 + wn * 4 + 1) (.int .i64 (sharpB y t5 t3).f.2))[0 + wn * 4 + 2]? = some (.int .i64 y.w.1) by rw [Array.getElem?_setIfInBounds, if_neg (by omega)]; exact Q2.out)
    have R3 := Hold.mk (show (cur.setIfInBounds (0 + wn * 4 + 1) (.int .i64 (sharpB y t5 t3).f.2))[0 + wn * 4 + 3]? = some (.int .i64 y.w.2) by rw [Array.getElem?_setIfInBounds, if_neg (by omega)]; exact Q3.out)
    clear hcw hMw hM
    go_upto_region 13 with fail
    refine region_mf (g := g) (f := 0 + wn * 4) (u := ub) (t := t3) (p0 := y.w.1) (p1 := y.w.2) (mx := (sharpB y t5 t3).w.2) rfl rfl rfl (fun W' h => (cellsAt (h.at HC2.out id) _).trans R2.out) (fun W' h => (cellsAt (h.at HC2.out id) _).trans R3.out) (fun W' h => ⟨_, _, _, h.at HC2.out id, R3.out⟩) HT.out.2.2 hub hT3 (by have := HYb.out; omega) (by have := HYb.out; omega) rfl ?_
    intro w12 hM
    simp only [mfDs, mfC, List.foldl_cons, List.foldl_nil, Act.put, List.setIfInBounds_toArray, List.set_cons_succ, List.set_cons_zero, List.getD_cons_zero, List.getD_cons_succ]
    have hcw := setCell_at (hM.at HC2.out id) (0 + wn * 4 + 3) (.int .i64 (sharpB y t5 t3).w.2)
    have hMw : Mod (fun j => j = g) w9 (w12.setCell ⟨g, 0 + wn * 4 + 3, none⟩ (.int .i64 (sharpB y t5 t3).w.2)) := (show Mod (fun j => j = g) w9 w12 from HM11.out.trans (hM.wider (fun _ _ h => h.elim))).setCell (p := ⟨g, 0 + wn * 4 + 3, none⟩) (fun _ => rfl) _
    generalize w12.setCell ⟨g, 0 + wn * 4 + 3, none⟩ (.int .i64 (sharpB y t5 t3).w.2) = w13 at *
    have HB13 : Hold (BlAt g (d.bl.set wn (sharpB y t5 t3)) w13) := ⟨⟨_, hcw, HCU.out⟩⟩
    have HM13 : Hold (Mod noB w6 w13) := ⟨HM9.out.then hMw (fun i h1 h2 => by have := HGs.out; omega)⟩
    have HNG : Hold (sb ≠ g ∧ eb ≠ g) := ⟨by
      obtain ⟨cur2, h1, _⟩ := HB13.out
      have h9 := HC1.out
      refine ⟨fun e => ?_, fun e => ?_⟩
      · have := HS9.out.1; rw [e, h9] at this; simp at this
      · have := HS9.out.2; rw [e, h9] at this; simp at this⟩
    have HS13 := Hold.mk (And.intro (hMw.at HS9.out.1 HNG.out.1) (hMw.at HS9.out.2 HNG.out.2))
    have HF13 := Hold.mk (HF.out.later HM13.out)
    clear hcw hMw hM HC1 HC2 HM11 R2 R3 Q0 Q1 Q2 Q3 HCU HS9 HM9 HM8 HM7
    go_upto_region 14 with fail
    refine region_mg (db := w.heap.size) (eb := eb) (u := ub) (b := d.bound) (mn := min 100000 (d.bound + ub)) rfl rfl rfl rfl (fun W' h => cellsAt ((HF13.out _ h).1) 1) (fun W' h => ⟨_, _, _, h.at HS13.out.2 id, rfl⟩) hub ⟨db1, db2⟩ rfl ?_
    intro w14 hM
    simp only [mgDs, mgC, List.foldl_cons, List.foldl_nil, Act.put, List.setIfInBounds_toArray, List.set_cons_succ, List.set_cons_zero, List.getD_cons_zero, List.getD_cons_succ]
    have hcw := setCell_at (hM.at HS13.out.2 id) 1 (.int .i64 (min 100000 (d.bound + ub)))
    have hMw : Mod (fun j => j = eb) w13 (w14.setCell ⟨eb, 1, none⟩ (.int .i64 (min 100000 (d.bound + ub)))) := (show Mod (fun j => j = eb) w13 w14 from hM.wider (fun _ _ h => h.elim)).setCell (p := ⟨eb, 1, none⟩) (fun _ => rfl) _
    generalize w14.setCell ⟨eb, 1, none⟩ (.int .i64 (min 100000 (d.bound + ub))) = w15 at *
    have HM15 : Hold (Mod noB w6 w15) := ⟨HM13.out.then hMw (fun i h1 h2 => by have := HN.out.2.2; omega)⟩
    have HS15 : Hold (w15.heap[sb]? = some (.cells #[.slice (some ⟨g, 0, none⟩) d.bl.length cp, .int .i64 d.bound, .int .i64 d.stop, .int .i64 d.bend] 24) ∧ w15.heap[eb]? = some (.cells (dyC (some ⟨ab, af, none⟩) d.bl.length cap (looseD d ub)) 24)) := ⟨hMw.at HS13.out.1 HN.out.1, hcw⟩
    have HB15 : Hold (BlAt g (d.bl.set wn (sharpB y t5 t3)) w15) := ⟨by obtain ⟨cur2, h1, h2⟩ := HB13.out; exact ⟨cur2, hMw.at h1 (fun e => HNG.out.2 e.symm), h2⟩⟩
    have HF15 := Hold.mk (HF.out.later HM15.out)
    clear hcw hMw hM HF13 HS13 HB13 HM13 HNG
    go_upto_region 15 with fail
    refine region_mk (B := B) (lo := lo) (l := l) (lcap := lcap) rfl rfl HF15.out.now.2.1.st HF15.out.now.2.1.le hl7 HCN.out ?_
    intro sg sc w16 hst hg15 hM
    simp only [Act.put, List.setIfInBounds_toArray, List.set_cons_succ, List.set_cons_zero]
    have HST : Hold (StAt sg (fun _ x => x) l w16) := ⟨hst⟩
    have HM16 : Hold (Mod noB w6 w16) := ⟨HM15.out.trans hM⟩
    have HS16 := Hold.mk (And.intro (And.intro (hM.at HS15.out.1 id) (hM.at HS15.out.2 id)) (show w15.heap.size ≤ sg from hg15))
    have HLT : Hold ((sb < w15.heap.size ∧ eb < w15.heap.size ∧ g < w15.heap.size) ∧ w6.heap.size ≤ sg) := ⟨⟨at_ltS HS15.out.1, at_ltS HS15.out.2, by obtain ⟨cur2, h1, _⟩ := HB15.out; exact at_ltS h1⟩, Nat.le_trans HM15.out.size hg15⟩
    have HB16 : Hold (BlAt g (d.bl.set wn (sharpB y t5 t3)) w16) := ⟨by obtain ⟨cur2, h1, h2⟩ := HB15.out; exact ⟨cur2, hM.at h1 id, h2⟩⟩
    clear hst hg15 hM HF15 HS15 HB15
    go_wp2
    refine wp_mono (law10_short lo lcap l uw ub t4 t6 huw hub HT.out.1.1 HT.out.1.2 hT4 hT6 hl7 sg sc w16 HL HST) (inBlock_only ?_)
    rintro a' w17 ⟨v, rfl, hst, hM⟩
    have HM17 : Hold (Mod noB w6 w17) := ⟨HM16.out.then hM (fun i h1 h2 => by have := HLT.out.2; omega)⟩
    have HF17 := Hold.mk (HF.out.later HM17.out)
    have HBB : Hold (w17.heap[sb]? = some (.cells #[.slice (some ⟨g, 0, none⟩) d.bl.length cp, .int .i64 d.bound, .int .i64 d.stop, .int .i64 d.bend] 24) ∧ w17.heap[eb]? = some (.cells (dyC (some ⟨ab, af, none⟩) d.bl.length cap (looseD d ub)) 24) ∧ w17.heap[w.heap.size]? = some (.cells (dyC (some ⟨ab, af, none⟩) d.bl.length cap d) 24)) := ⟨hM.at HS16.out.1.1 (fun e => by have h1 := HLT.out.1.1; have h2 := HS16.out.2; omega), hM.at HS16.out.1.2 (fun e => by have h1 := HLT.out.1.2.1; have h2 := HS16.out.2; omega), HF17.out.now.1⟩
    have HMM : Hold (BlAt g (d.bl.set wn (sharpB (bladeAt d wn) t5 t3)) w17 ∧ StAt sg (fun _ x => shortS t4 t6 x) l w17 ∧ InB B w17 (some ⟨ab, af, none⟩) d lo l ∧ IntsAt w17 a0 P) := ⟨by
      obtain ⟨cur2, h1, h2⟩ := HB16.out
      rw [hy]
      exact ⟨cur2, hM.at h1 (fun e => by have h3 := HLT.out.1.2.2; have h4 := HS16.out.2; omega), h2⟩, hst, HF17.out.now.2.1, (HP.out.later HM17.out).now⟩
    clear hst hM
    go_wp2
    refine wp_mono (law10_pairs B ab af cap d lo lcap l wn t5 t3 t4 t6 ub g cp sb eb w.heap.size sg sc a0 k0 P c a1 rows.length k1 w17 HD HBB HMM) (inBlock_only ?_)
    rintro a' w18 ⟨v2, rfl, hM⟩
    have HF18 := Hold.mk (HF17.out.later hM)
    clear hM
    go_wp2_with (go_at_call 13; refine (awake_any _ HF18.out.now.2.1.tab).mono ?_; rintro e w19 ⟨rfl, hM⟩; have HF19 := Hold.mk (HF18.out.later hM); clear hM)
    go_ret
    exact ⟨rfl, HF19.out.now.2.2⟩
end Go.Proofs.YtdncppempgpooaaDoor

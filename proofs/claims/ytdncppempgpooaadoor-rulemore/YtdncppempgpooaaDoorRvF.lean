/- cheapest: the maps that it makes; and from where it starts. -/
import Derived.Test.YtdncppempgpooaaDoorRvE
import Derived.Deep.OwnRows
set_option linter.unusedSimpArgs false
set_option linter.unusedVariables false
namespace Go.Proofs.YtdncppempgpooaaDoor
open Go.RowKit Go.Shelf Go.Maps Go.WideMaps

theorem from_any (B : Nat) (ao : Option Addr) (cap : Nat) (d : Dye) (oo : Option Addr) (oc : Nat) (l : List (Int × Int)) (lo : Option Addr) (lcap lb bb fb gb mb : Nat) (hsl : stintsB l = true) (hbl : bearsB d l = true) :
    ∀ (m i : Nat), i + m = l.length → FromOk B ao cap d oo oc l lo lcap lb bb fb gb mb i := by
  have hll : l.length ≤ 7 := by
    simp only [stintsB, Bool.and_eq_true, decide_eq_true_eq] at hsl
    omega
  intro m
  induction m with
  | zero => intro i hi; obtain rfl : i = l.length := by omega
            exact from_end B ao cap d oo oc l lo lcap lb bb fb gb mb hll
  | succ m ih => intro i hi; exact from_step B ao cap d oo oc l lo lcap lb bb fb gb mb i hsl hbl (by omega) (ih (i + 1) (by omega))

theorem info115 : (Tryd.prog.info? 115).map (fun i => (i.zero, i.size, i.bytes)) = some (some (.map none), 1, 8) := by kernel_rfl

/-- The row of maps after k rounds. -/
def mapsV (mb n k : Nat) : Array Value := ((List.range n).map fun i => if i < k then Value.map (some (mb + i)) else .map none).toArray
theorem mapsV_at {mb n k i : Nat} (hi : i < n) : (mapsV mb n k)[i]? = some (if i < k then .map (some (mb + i)) else .map none) := by
  simp [mapsV, hi]
theorem mapsV_zero {mb n : Nat} : madeCells #[.map none] n = mapsV mb n 0 := by
  apply Array.ext
  · simp [mapsV, madeCells]
  · intro i h1 h2
    simp [mapsV, madeCells, Nat.mod_one]
theorem mapsV_set {mb n k : Nat} (hk : k < n) : (mapsV mb n k).setIfInBounds k (.map (some (mb + k))) = mapsV mb n (k + 1) := by
  apply Array.ext
  · simp [mapsV]
  · intro i h1 h2
    rw [Array.getElem_setIfInBounds]
    · simp only [mapsV, List.getElem_toArray, List.getElem_map, List.getElem_range]
      by_cases h : k = i
      · subst h; simp
      · rw [if_neg h]
        by_cases h3 : i < k
        · rw [if_pos h3, if_pos (by omega)]
        · rw [if_neg h3, if_neg (by omega)]
    · simpa [mapsV] using h1

/-- While the maps are made. -/
structure MkI (ao : Option Addr) (cap : Nat) (d : Dye) (oo : Option Addr) (oc : Nat) (l : List (Int × Int)) (lo : Option Addr) (lcap : Nat) (w : World) (k : Nat) (wr : World) : Prop where
  a : wr.heap[w.heap.size]? = some (.cells (mtC ao d.bl.length cap d oo oc zeroR) 87)
  ls : wr.heap[w.heap.size + 1]? = some (.cells #[.slice lo l.length lcap] 33)
  z : wr.heap[w.heap.size + 1 + 1]? = some (.cells #[.int .i64 0, .slice none 0 0] 97)
  g : wr.heap[w.heap.size + 1 + 1 + 1]? = some (.cells (mapsV (w.heap.size + 5) l.length k) 115)
  b : wr.heap[w.heap.size + 1 + 1 + 1 + 1]? = some (.cells #[.slice (some ⟨w.heap.size + 1 + 1 + 1, 0, none⟩) l.length l.length] 114)
  mp : ∀ j, j < k → wr.heap[w.heap.size + 5 + j]? = some (.map #[] 0)
  m : Mod noB w wr
  sz : wr.heap.size = w.heap.size + 5 + k
theorem MkI.step {ao : Option Addr} {cap : Nat} {d : Dye} {oo : Option Addr} {oc : Nat} {l : List (Int × Int)} {lo : Option Addr} {lcap : Nat} {w : World} {k : Nat} {wr : World} (h : MkI ao cap d oo oc l lo lcap w k wr) (hk : k < l.length) :
    MkI ao cap d oo oc l lo lcap w (k + 1) ((wr.setCell ⟨w.heap.size + 1 + 1 + 1, k, none⟩ (.map (some wr.heap.size))).alloc (.map #[] 0)) := by
  have hs := h.sz
  have hz2 : (wr.setCell ⟨w.heap.size + 1 + 1 + 1, k, none⟩ (.map (some wr.heap.size))).heap.size = wr.heap.size := by simp
  have hm2 : Mod (fun j => j = w.heap.size + 1 + 1 + 1) wr (wr.setCell ⟨w.heap.size + 1 + 1 + 1, k, none⟩ (.map (some wr.heap.size))) := (Mod.refl (fun j => j = w.heap.size + 1 + 1 + 1) _).setCell (p := ⟨w.heap.size + 1 + 1 + 1, k, none⟩) (fun _ => rfl) _
  have hg : (wr.setCell ⟨w.heap.size + 1 + 1 + 1, k, none⟩ (.map (some wr.heap.size))).heap[w.heap.size + 1 + 1 + 1]? = some (.cells (mapsV (w.heap.size + 5) l.length (k + 1)) 115) := by rw [setCell_at h.g, hs, mapsV_set hk]
  generalize wr.setCell ⟨w.heap.size + 1 + 1 + 1, k, none⟩ (.map (some wr.heap.size)) = W2 at *
  have hm1 : Mod noB W2 (W2.alloc (.map #[] 0)) := (Mod.refl _ _).alloc _
  refine ⟨hm1.at (hm2.at h.a (by omega)) id, hm1.at (hm2.at h.ls (by omega)) id, hm1.at (hm2.at h.z (by omega)) id, hm1.at hg id, hm1.at (hm2.at h.b (by omega)) id, fun j hj => ?_, (h.m.then hm2 (fun i h1 h2 => by omega)).trans hm1, ?_⟩
  · by_cases hjk : j < k
    · exact hm1.at (hm2.at (h.mp j hjk) (by omega)) id
    · obtain rfl : j = k := by omega
      rw [← hs, ← hz2]
      exact World.alloc_heap_new _ _
  · simp
    omega
theorem MemoIs.empty {f : (Nat → Int) → Int × List Nat} {w : World} {b : Nat} (h : w.heap[b]? = some (.map #[] 0)) : MemoIs f w b := ⟨_, _, h, fun e he => by simp at he⟩
@[reducible] def rf0 : Oper := { dst := some 26, op := Op.load 116 (Operand.tmp 7), type := 116, pos := "plan.go:46", after := #[], guard := none }
@[reducible] def rf1 : Oper := { dst := some 27, op := Op.load 87 (Operand.tmp 2), type := 87, pos := "plan.go:46", after := #[], guard := none }
@[reducible] def rf2 : Oper := { dst := some 28, op := Op.load 33 (Operand.tmp 3), type := 33, pos := "plan.go:46", after := #[], guard := none }
@[reducible] def rf3 : Oper := { dst := some 29, op := Op.indexAddr 33 (Operand.tmp 28) (Operand.const (Value.int IntKind.i64 0)), type := 0, pos := "plan.go:46", after := #[{ on := 2, ground := Ground.data }], guard := none }
@[reducible] def rf4 : Oper := { dst := some 30, op := Op.load 58 (Operand.tmp 29), type := 58, pos := "plan.go:46", after := #[{ on := 3, ground := Ground.data }], guard := none }
@[reducible] def rf5 : Oper := { dst := some 31, op := Op.call { callee := Callee.value (Operand.func 52), args := #[Operand.tmp 27, Operand.tmp 30], argTypes := #[87, 58] }, type := 87, pos := "plan.go:46", after := #[{ on := 1, ground := Ground.data }, { on := 4, ground := Ground.data }], guard := none }
@[reducible] def rf6 : Oper := { dst := some 32, op := Op.call { callee := Callee.value (Operand.tmp 26), args := #[Operand.const (Value.int IntKind.i64 1), Operand.tmp 31], argTypes := #[3, 87] }, type := 97, pos := "plan.go:46", after := #[{ on := 0, ground := Ground.data }, { on := 5, ground := Ground.data }, { on := 5, ground := Ground.chain }], guard := none }
@[reducible] def rf7 : Oper := { dst := none, op := Op.store 97 (Operand.tmp 4) (Operand.tmp 32), type := 0, pos := "plan.go:46", after := #[{ on := 6, ground := Ground.data }, { on := 6, ground := Ground.chain }, { on := 0, ground := Ground.phase }, { on := 1, ground := Ground.phase }, { on := 2, ground := Ground.phase }, { on := 3, ground := Ground.phase }, { on := 4, ground := Ground.phase }, { on := 5, ground := Ground.phase }, { on := 6, ground := Ground.phase }], guard := none }
@[reducible] def rfOps : List Oper := [rf0, rf1, rf2, rf3, rf4, rf5, rf6, rf7]
@[reducible] def rfDs : List (Nat × Nat) := [(0, 26), (1, 27), (2, 28), (3, 29), (4, 30), (5, 31), (6, 32)]
theorem rfB : lowB rfOps = true := by kernel_rfl
theorem rfOk : okB rfOps rfDs 33 = true := by decide +kernel
theorem run_index33z {o : Oper} {a : Act} {w : World} {x : Operand} (hop : o.op = .indexAddr 33 x (.const (.int .i64 0))) {sb off n cap : Nat} (hx : a.eval x = .slice (some ⟨sb, off, none⟩) n cap) (hi : 0 < n) : (execOp a.eval o).run Tryd.prog w = .ok (.value (.pointer (some ⟨sb, off, none⟩))) w := by
  have h := @run_index33 { o with op := .indexAddr 33 x (.const (.int .i64 (0 : Nat))) } a w x (.const (.int .i64 (0 : Nat))) rfl sb off n cap 0 hx rfl hi
  have e : (execOp a.eval o).run Tryd.prog w = (execOp a.eval { o with op := .indexAddr 33 x (.const (.int .i64 (0 : Nat))) }).run Tryd.prog w := by
    simp only [execOp, hop]
    rfl
  rw [e, h]
  simp

structure RfW (sb off n cap : Nat) (lb bb fb zb : Nat) (v1 v5 : Value) (s : Int × Int) (T : Nat → Prop) (R : Value → World → Prop) (w : World) (D : Nat → Bool) (vs : Nat → Value) (w' : World) : Prop where
  d0 : D 0 = true → vs 0 = .func (.func 73) #[] #[.pointer (some ⟨lb, 0, none⟩), .pointer (some ⟨bb, 0, none⟩), .pointer (some ⟨fb, 0, none⟩)]
  d1 : D 1 = true → vs 1 = v1
  d2 : D 2 = true → vs 2 = .slice (some ⟨sb, off, none⟩) n cap
  d3 : D 3 = true → vs 3 = .pointer (some ⟨sb, off, none⟩)
  d4 : D 4 = true → vs 4 = spV s
  d5 : D 5 = true → vs 5 = v5
  d6 : D 6 = true → ∃ x : Crs, vs 6 = crV x ∧ (D 7 = false → R (crV x) w' ∧ Mod T w w') ∧ (D 7 = true → ∃ w1, R (crV x) w1 ∧ Mod T w w1 ∧ w' = w1.putObj zb (.cells (crC x) 97))
  m : D 6 = false → Mod noB w w'

set_option maxRecDepth 100000 in
set_option maxHeartbeats 4000000 in
theorem region_from {rid : Nat} {Q : Exit → Act → World → Prop} {a0 : Act} {w : World} {sb off n cap m2 lb bb fb tb zb : Nat} {ao : Option Addr} {acap : Nat} {d : Dye} {oo : Option Addr} {oc : Nat} {r : Nat → Int} {s : Int × Int} (hsz : a0.tmps.size = 33)
    (x7 : a0.eval (.tmp 7) = .pointer (some ⟨fb, 0, none⟩)) (x3 : a0.eval (.tmp 3) = .pointer (some ⟨lb, 0, none⟩)) (x2 : a0.eval (.tmp 2) = .pointer (some ⟨m2, 0, none⟩)) (x4 : a0.eval (.tmp 4) = .pointer (some ⟨zb, 0, none⟩))
    (hfb : w.cell? ⟨fb, 0, none⟩ = some (.func (.func 73) #[] #[.pointer (some ⟨lb, 0, none⟩), .pointer (some ⟨bb, 0, none⟩), .pointer (some ⟨fb, 0, none⟩)])) (hlb : w.cell? ⟨lb, 0, none⟩ = some (.slice (some ⟨sb, off, none⟩) n cap))
    (hs0 : w.cell? ⟨sb, off, none⟩ = some (.int .i64 s.1)) (hs1 : w.cell? ⟨sb, off + 1, none⟩ = some (.int .i64 s.2)) (hm2 : w.heap[m2]? = some (.cells (mtC ao d.bl.length acap d oo oc r) 87)) (hr : RunB 10000 r) (hst : stintB s = true) (hn5 : d.bl.length ≤ 5) (hn : 0 < n)
    (hz : w.heap[zb]? = some (.cells #[.int .i64 0, .slice none 0 0] 97)) (T : Nat → Prop) (R : Value → World → Prop) (hT : ¬ T zb)
    (HC : ∀ w1, Mod noB w w1 → Calls Tryd.prog 73 #[.int .i64 1, mtV ao d.bl.length acap d oo oc (runR d r s), .pointer (some ⟨lb, 0, none⟩), .pointer (some ⟨bb, 0, none⟩), .pointer (some ⟨fb, 0, none⟩)] w1 fun e w' => ∃ x : Crs, e = .returned (crV x) ∧ R (crV x) w' ∧ Mod T w1 w')
    (hend : ∀ (vs : Nat → Value) w1 (x : Crs), R (crV x) w1 → Mod T w w1 → Q .normal (rfDs.foldl (fun a x => a.put (some x.2) (vs x.1)) a0) (w1.putObj zb (.cells (crC x) 97))) : (Code.region rid rfOps.toArray true).wp Tryd.prog Q a0 w := by
  have hfl := World.block_lt_of_cell? _ _ hfb
  have hll := World.block_lt_of_cell? _ _ hlb
  have hsl := World.block_lt_of_cell? _ _ hs0
  refine region_word2 rfB rfDs 33 hsz rfOk (RfW sb off n cap lb bb fb zb (mtV ao d.bl.length acap d oo oc r) (mtV ao d.bl.length acap d oo oc (runR d r s)) s T R w) ?_ ?_ ?_
  · exact ⟨fun h => absurd h (by decide), fun h => absurd h (by decide), fun h => absurd h (by decide), fun h => absurd h (by decide), fun h => absurd h (by decide), fun h => absurd h (by decide), fun h => absurd h (by decide), fun _ => (Mod.refl _ _).drew⟩
  · intro D vs i' o ρ w' hlt hcl ho hD hdep EV EO hW
    have far : ∀ s, s ∉ rfDs.map Prod.snd → ρ.eval (.tmp s) = a0.eval (.tmp s) := fun s hs => EO s fun x hx e => absurd (e ▸ List.mem_map.2 ⟨x, hx, rfl⟩ : s ∈ rfDs.map Prod.snd) hs
    obtain ⟨W0, W1, W2, W3, W4, W5, W6, WM⟩ := hW
    have c7 : D 7 = true → D 6 = true := fun h => hcl 7 rf7 rfl h ⟨6, .data⟩ (by simp) rfl
    have c6 : D 6 = true → D 0 = true ∧ D 5 = true := fun h => ⟨hcl 6 rf6 rfl h ⟨0, .data⟩ (by simp) rfl, hcl 6 rf6 rfl h ⟨5, .data⟩ (by simp) rfl⟩
    have c5 : D 5 = true → D 1 = true ∧ D 4 = true := fun h => ⟨hcl 5 rf5 rfl h ⟨1, .data⟩ (by simp) rfl, hcl 5 rf5 rfl h ⟨4, .data⟩ (by simp) rfl⟩
    have c4 : D 4 = true → D 3 = true := fun h => hcl 4 rf4 rfl h ⟨3, .data⟩ (by simp) rfl
    have c3 : D 3 = true → D 2 = true := fun h => hcl 3 rf3 rfl h ⟨2, .data⟩ (by simp) rfl
    have n6 : (∃ j, j ≤ 5 ∧ D j = false) → D 6 = false := by
      rintro ⟨j, hj, hd⟩
      cases h6 : D 6 with
      | false => rfl
      | true =>
        obtain ⟨h0, h5⟩ := c6 h6
        obtain ⟨h1, h4⟩ := c5 h5
        have h3 := c4 h4
        have h2 := c3 h3
        rcases (by omega : j = 0 ∨ j = 1 ∨ j = 2 ∨ j = 3 ∨ j = 4 ∨ j = 5) with rfl | rfl | rfl | rfl | rfl | rfl <;> simp_all
    have dat : ∀ {j : Nat} {s : Nat}, (∃ e ∈ o.after, Region.binds .any e = true ∧ e.on = j) → (j, s) ∈ rfDs → ρ.eval (.tmp s) = vs j ∧ D j = true := fun ⟨e, he, hb, hj⟩ hm => ⟨EV _ _ hm (hj ▸ hdep e he hb), hj ▸ hdep e he hb⟩
    have hlt' : i' < 8 := hlt
    rcases (by omega : i' = 0 ∨ i' = 1 ∨ i' = 2 ∨ i' = 3 ∨ i' = 4 ∨ i' = 5 ∨ i' = 6 ∨ i' = 7) with rfl | rfl | rfl | rfl | rfl | rfl | rfl | rfl
    all_goals (obtain rfl := Option.some.inj ho)
    · have wm := WM (n6 ⟨0, by omega, hD⟩)
      refine step_val rfl _ (run_load116 rfl ((far 7 (by decide)).trans x7) ((cell_same (wm.block fb hfl id) _).trans hfb)) ⟨_, rfl, fun _ => rfl, W1, W2, W3, W4, W5, W6, WM⟩
    · have wm := WM (n6 ⟨1, by omega, hD⟩)
      refine step_loadRow rfl 87 rfl m2 ((far 2 (by decide)).trans x2) _ 87 _ (wm.at hm2 id) rfl Tryd.underlying87 info87 ⟨_, rfl, W0, fun _ => rfl, W2, W3, W4, W5, W6, WM⟩
    · have wm := WM (n6 ⟨2, by omega, hD⟩)
      refine step_val rfl _ (run_load33 rfl ((far 3 (by decide)).trans x3) ((cell_same (wm.block lb hll id) _).trans hlb)) ⟨_, rfl, W0, W1, fun _ => rfl, W3, W4, W5, W6, WM⟩
    · obtain ⟨v2, g2⟩ := @dat 2 28 ⟨⟨2, .data⟩, by simp, rfl, rfl⟩ (by decide)
      refine step_val rfl _ (run_index33z rfl (v2.trans (W2 g2)) hn) ⟨_, rfl, W0, W1, W2, fun _ => rfl, W4, W5, W6, WM⟩
    · obtain ⟨v3, g3⟩ := @dat 3 29 ⟨⟨3, .data⟩, by simp, rfl, rfl⟩ (by decide)
      have wm := WM (n6 ⟨4, by omega, hD⟩)
      refine step_val rfl (spV s) (run_load58 rfl (v3.trans (W3 g3)) ((cell_same (wm.block sb hsl id) _).trans hs0) ((cell_same (wm.block sb hsl id) _).trans hs1)) ⟨_, rfl, W0, W1, W2, W3, fun _ => rfl, W5, W6, WM⟩
    · obtain ⟨v1, g1⟩ := @dat 1 27 ⟨⟨1, .data⟩, by simp, rfl, rfl⟩ (by decide)
      obtain ⟨v4, g4⟩ := @dat 4 30 ⟨⟨4, .data⟩, by simp, rfl, rfl⟩ (by decide)
      have h6 := n6 ⟨5, by omega, hD⟩
      have wm := WM h6
      refine step_call rfl 52 #[.tmp 27, .tmp 30] #[87, 58] rfl enter52 ?_
      rw [show (#[Operand.tmp 27, Operand.tmp 30].map ρ.eval) = #[mtV ao d.bl.length acap d oo oc r, spV s] by simp [v1.trans (W1 g1), v4.trans (W4 g4)]]
      refine (run_any ao acap d oo oc r s w' hn5 hr hst).mono ?_
      rintro e w2 ⟨rfl, hm⟩
      exact ⟨_, rfl, _, rfl, W0, W1, W2, W3, W4, fun _ => rfl, fun h => absurd ((show D 6 = true from h).symm.trans h6) (by decide), fun _ => wm.trans hm⟩
    · obtain ⟨v0, g0⟩ := @dat 0 26 ⟨⟨0, .data⟩, by simp, rfl, rfl⟩ (by decide)
      obtain ⟨v5, g5⟩ := @dat 5 31 ⟨⟨5, .data⟩, by simp, rfl, rfl⟩ (by decide)
      have wm := WM hD
      refine step_callv rfl 73 #[.const (.int .i64 1), .tmp 31] #[3, 87] (.tmp 26) _ rfl (v0.trans (W0 g0)) enter73 ?_
      rw [show (#[Operand.const (.int .i64 1), Operand.tmp 31].map ρ.eval) = #[.int .i64 1, mtV ao d.bl.length acap d oo oc (runR d r s)] by simp [v5.trans (W5 g5)]; rfl]
      refine (HC w' wm).mono ?_
      rintro e w2 ⟨x, rfl, hr2, hm⟩
      have h7 : D 7 = false := by
        cases h : D 7 with
        | false => rfl
        | true => rw [c7 h] at hD; cases hD
      exact ⟨_, rfl, _, rfl, W0, W1, W2, W3, W4, W5, fun _ => ⟨x, rfl, fun _ => ⟨hr2, (wm.wider (fun _ _ h => h.elim)).trans hm⟩, fun h => absurd ((show D 7 = true from h).symm.trans h7) (by decide)⟩, fun h => absurd h (by simp)⟩
    · obtain ⟨v6, g6⟩ := @dat 6 32 ⟨⟨6, .data⟩, by simp, rfl, rfl⟩ (by decide)
      obtain ⟨x, e6, h1, _⟩ := W6 g6
      obtain ⟨hr2, hm⟩ := h1 hD
      refine step_storeRow rfl 97 rfl zb (crC x) ((far 4 (by decide)).trans x4) (v6.trans e6) 97 _ (hm.at hz hT) info97 rfl (by simp [Value.oneCell']) ⟨undef, rfl, W0, W1, W2, W3, W4, W5, fun _ => ⟨x, e6, fun h => absurd h (by simp), fun _ => ⟨w', hr2, hm, rfl⟩⟩, fun h => absurd ((show D 6 = false from h).symm.trans g6) (by decide)⟩
  · intro vs D w' hall hW
    obtain ⟨x, _, _, h⟩ := hW.d6 (hall 6 (by decide))
    obtain ⟨w1, h1, h2, rfl⟩ := h (hall 7 (by decide))
    exact hend vs w1 x h1 h2
end Go.Proofs.YtdncppempgpooaaDoor

/- cheapest: the least of the courses; and it is kept. -/
import Derived.Test.YtdncppempgpooaaDoorRvB
set_option linter.unusedSimpArgs false
set_option linter.unusedVariables false
namespace Go.Proofs.YtdncppempgpooaaDoor
open Go.RowKit Go.Shelf Go.Maps Go.WideMaps
section
variable {ops : Array Oper} {o : Oper} {a : Act} {w : World} {K : Act → World → Prop} {x y z : Operand}
theorem run_slice118 (hop : o.op = .slice 118 x (some (.const (.int .i64 1))) none none) {g n cap : Nat} (hx : a.eval x = .slice (some ⟨g, 0, none⟩) n cap) (h1 : 1 ≤ n) (h2 : n ≤ cap) (h3 : cap ≤ 9223372036854775807) :
    ∃ o', (cap ≠ 1 → o' = 2) ∧ (execOp a.eval o).run Tryd.prog w = .ok (.value (.slice (some ⟨g, o', none⟩) (n - 1) (cap - 1))) w := by
  have i1 : (1 : Int) ≤ n := by omega
  have i2 : (n : Int) ≤ cap := by omega
  have i3 : (1 : Int) ≤ cap := by omega
  by_cases hc : cap = 1
  · obtain rfl : n = 1 := by omega
    subst hc
    refine ⟨0, fun h => absurd rfl h, ?_⟩
    simp only [execOp, hop, hx]
    go_simp
    done
  · refine ⟨2, fun _ => rfl, ?_⟩
    simp only [execOp, hop, hx]
    go_simp
    first | done | exact hc
theorem run_index118 (hop : o.op = .indexAddr 118 x (.const (.int .i64 0))) {g n cap : Nat} (hx : a.eval x = .slice (some ⟨g, 0, none⟩) n cap) (h1 : 1 ≤ n) : (execOp a.eval o).run Tryd.prog w = .ok (.value (.pointer (some ⟨g, 0, none⟩))) w := by
  have i1 : (0 : Int) < n := by omega
  have i2 : ¬ n = 0 := by omega
  simp only [execOp, hop, hx]
  go_simp
  done
theorem run_load97 (hop : o.op = .load 97 x) {g k : Nat} (hx : a.eval x = .pointer (some ⟨g, k, none⟩)) {c : Int} {ao : Option Addr} {n cap : Nat} (h0 : w.cell? ⟨g, k, none⟩ = some (.int .i64 c)) (h1 : w.cell? ⟨g, k + 1, none⟩ = some (.slice ao n cap)) : (execOp a.eval o).run Tryd.prog w = .ok (.value (.agg #[.int .i64 c, .slice ao n cap])) w := by
  simp only [execOp, hop, hx]
  go_simp
  done
theorem run_mapUpdate (hop : o.op = .mapUpdate 115 x y z) {m k v : Value} {w' : World} (hx : a.eval x = m) (hy : a.eval y = k) (hz : a.eval z = v) (hl : (Instr.mapUpdate 115 m k v).run Tryd.prog w = .ok () w') : (execOp a.eval o).run Tryd.prog w = .ok .skip w' := by
  simp only [execOp, hop, hx, hy, hz]
  simp [Sem.run_bind, hl, Result.andThen, Sem.run_pure, Sem.run_map]
  done
end
@[reducible] def rd0 : Oper := { dst := some 84, op := Op.move (Operand.tmp 10), type := 118, pos := "plan.go:42", after := #[], guard := none }
@[reducible] def rd1 : Oper := { dst := some 85, op := Op.indexAddr 118 (Operand.tmp 84) (Operand.const (Value.int IntKind.i64 0)), type := 0, pos := "plan.go:42", after := #[{ on := 0, ground := Ground.data }], guard := none }
@[reducible] def rd2 : Oper := { dst := some 86, op := Op.load 97 (Operand.tmp 85), type := 97, pos := "plan.go:42", after := #[{ on := 1, ground := Ground.data }], guard := none }
@[reducible] def rd3 : Oper := { dst := some 87, op := Op.move (Operand.tmp 10), type := 118, pos := "plan.go:42", after := #[], guard := none }
@[reducible] def rd4 : Oper := { dst := some 88, op := Op.slice 118 (Operand.tmp 87) (some (Operand.const (Value.int IntKind.i64 1))) none none, type := 118, pos := "plan.go:42", after := #[{ on := 3, ground := Ground.data }], guard := none }
@[reducible] def rd5 : Oper := { dst := some 89, op := Op.call { callee := Callee.value (Operand.func 74), args := #[Operand.func 75, Operand.tmp 86, Operand.tmp 88], argTypes := #[120, 97, 118] }, type := 97, pos := "plan.go:42", after := #[{ on := 2, ground := Ground.data }, { on := 4, ground := Ground.data }], guard := none }
@[reducible] def rd6 : Oper := { dst := some 15, op := Op.alloc 97, type := 0, pos := "plan.go:42", after := #[], guard := none }
@[reducible] def rd7 : Oper := { dst := none, op := Op.store 97 (Operand.tmp 15) (Operand.tmp 89), type := 0, pos := "plan.go:42", after := #[{ on := 6, ground := Ground.data }, { on := 5, ground := Ground.data }, { on := 5, ground := Ground.chain }, { on := 0, ground := Ground.phase }, { on := 1, ground := Ground.phase }, { on := 2, ground := Ground.phase }, { on := 3, ground := Ground.phase }, { on := 4, ground := Ground.phase }, { on := 5, ground := Ground.phase }, { on := 6, ground := Ground.phase }], guard := none }
@[reducible] def rdOps : List Oper := [rd0, rd1, rd2, rd3, rd4, rd5, rd6, rd7]
@[reducible] def rdDs : List (Nat × Nat) := [(0, 84), (1, 85), (2, 86), (3, 87), (4, 88), (5, 89), (6, 15)]
@[reducible] def re0 : Oper := { dst := some 90, op := Op.load 114 (Operand.tmp 3), type := 114, pos := "plan.go:43", after := #[], guard := none }
@[reducible] def re1 : Oper := { dst := some 91, op := Op.move (Operand.tmp 0), type := 3, pos := "plan.go:43", after := #[], guard := none }
@[reducible] def re2 : Oper := { dst := some 92, op := Op.indexAddr 114 (Operand.tmp 90) (Operand.tmp 91), type := 0, pos := "plan.go:43", after := #[{ on := 0, ground := Ground.data }, { on := 1, ground := Ground.data }], guard := none }
@[reducible] def re3 : Oper := { dst := some 93, op := Op.load 115 (Operand.tmp 92), type := 115, pos := "plan.go:43", after := #[{ on := 2, ground := Ground.data }], guard := none }
@[reducible] def re4 : Oper := { dst := some 94, op := Op.fieldAddr 87 (Operand.tmp 6) 2, type := 0, pos := "plan.go:43", after := #[], guard := none }
@[reducible] def re5 : Oper := { dst := some 95, op := Op.load 85 (Operand.tmp 94), type := 85, pos := "plan.go:43", after := #[{ on := 4, ground := Ground.data }], guard := none }
@[reducible] def re6 : Oper := { dst := some 96, op := Op.load 97 (Operand.tmp 15), type := 97, pos := "plan.go:43", after := #[], guard := none }
@[reducible] def re7 : Oper := { dst := none, op := Op.mapUpdate 115 (Operand.tmp 93) (Operand.tmp 95) (Operand.tmp 96), type := 0, pos := "plan.go:43", after := #[{ on := 3, ground := Ground.data }, { on := 5, ground := Ground.data }, { on := 6, ground := Ground.data }, { on := 0, ground := Ground.phase }, { on := 1, ground := Ground.phase }, { on := 2, ground := Ground.phase }, { on := 3, ground := Ground.phase }, { on := 4, ground := Ground.phase }, { on := 5, ground := Ground.phase }, { on := 6, ground := Ground.phase }], guard := none }
@[reducible] def reOps : List Oper := [re0, re1, re2, re3, re4, re5, re6, re7]
@[reducible] def reDs : List (Nat × Nat) := [(0, 90), (1, 91), (2, 92), (3, 93), (4, 94), (5, 95), (6, 96)]
theorem rdB : lowB rdOps = true := by kernel_rfl
theorem rdOk : okB rdOps rdDs 98 = true := by decide +kernel
theorem reB : lowB reOps = true := by kernel_rfl
theorem reOk : okB reOps reDs 98 = true := by decide +kernel
theorem enter74 : ∀ args w, (callFunc 74 args).run Tryd.prog w = .ok (.enter 74 args) w := enters_of Tryd.func74 (by kernel_rfl) rfl

def crL (cs : List Crs) : List Value := cs.flatMap fun x => [.int .i64 x.1, .slice x.2.1 x.2.2.1 x.2.2.2]
theorem crL_at {cs : List Crs} : ∀ {k : Nat} {x : Crs}, cs[k]? = some x → (crL cs)[k * 2]? = some (.int .i64 x.1) ∧ (crL cs)[k * 2 + 1]? = some (.slice x.2.1 x.2.2.1 x.2.2.2) := by
  induction cs with
  | nil => intro k x h; simp at h
  | cons y cs ih =>
    intro k x h
    cases k with
    | zero => simp at h; subst h; exact ⟨rfl, rfl⟩
    | succ k =>
      have := ih (k := k) (x := x) (by simpa using h)
      have e : crL (y :: cs) = .int .i64 y.1 :: .slice y.2.1 y.2.2.1 y.2.2.2 :: crL cs := rfl
      rw [e, show (k + 1) * 2 = k * 2 + 1 + 1 by omega]
      exact this

structure RdW (g n cap : Nat) (vA : Value) (x y : Crs) (w : World) (D : Nat → Bool) (vs : Nat → Value) (w' : World) : Prop where
  d0 : D 0 = true → vs 0 = vA
  d1 : D 1 = true → vs 1 = .pointer (some ⟨g, 0, none⟩)
  d2 : D 2 = true → vs 2 = crV x
  d3 : D 3 = true → vs 3 = vA
  d4 : D 4 = true → ∃ o', (cap ≠ 1 → o' = 2) ∧ vs 4 = .slice (some ⟨g, o', none⟩) (n - 1) (cap - 1)
  d5 : D 5 = true → vs 5 = crV y
  d6 : D 6 = true → ∃ pb, vs 6 = .pointer (some ⟨pb, 0, none⟩) ∧ w.heap.size ≤ pb ∧ (D 7 = false → w'.heap[pb]? = some (.cells #[.int .i64 0, .slice none 0 0] 97)) ∧ (D 7 = true → w'.heap[pb]? = some (.cells (crC y) 97))
  m : Mod noB w w'

set_option maxRecDepth 100000 in
set_option maxHeartbeats 4000000 in
theorem region_least {rid : Nat} {Q : Exit → Act → World → Prop} {a0 : Act} {w : World} {base : Nat} {vA : Value} {x : Crs} {cs : List Crs} (hsz : a0.tmps.size = 98) (x10 : a0.eval (.tmp 10) = vA) (hown : w.ownsRow base 97 2 vA (cs.length + 1) (crL (x :: cs))) (hsm : cs.length ≤ 1000)
    (hend : ∀ (vs : Nat → Value) w' pb, vs 6 = .pointer (some ⟨pb, 0, none⟩) → w.heap.size ≤ pb → w'.heap[pb]? = some (.cells (crC (leastC x cs)) 97) → Mod noB w w' →
      Q .normal (rdDs.foldl (fun a x => a.put (some x.2) (vs x.1)) a0) w') : (Code.region rid rdOps.toArray true).wp Tryd.prog Q a0 w := by
  obtain ⟨g, cap, rfl, hgl, hnc, hcm, hcell⟩ : ∃ g cap, vA = .slice (some ⟨g, 0, none⟩) (cs.length + 1) cap ∧ g < w.heap.size ∧ cs.length + 1 ≤ cap ∧ cap ≤ maxLen ∧ ∀ j, j < (cs.length + 1) * 2 → w.cell? ⟨g, j, none⟩ = (crL (x :: cs))[j]? := by
    have hown0 := hown
    obtain ⟨_, ⟨_, h⟩ | ⟨g, cap, cur, hv, hb, hh, hnc, hcm, _⟩⟩ := hown
    · omega
    · subst hv
      exact ⟨g, cap, rfl, at_ltS hh, hnc, hcm, fun j hj => hown0.cellAt j hj⟩
  have hx0 : w.cell? ⟨g, 0, none⟩ = some (.int .i64 x.1) ∧ w.cell? ⟨g, 1, none⟩ = some (.slice x.2.1 x.2.2.1 x.2.2.2) := ⟨hcell 0 (by omega), hcell 1 (by omega)⟩
  have hcs : ∀ (o' : Nat), (cap ≠ 1 → o' = 2) → CrsAt w.heap.size w (some ⟨g, o', none⟩) cs := fun o' ho => ⟨fun hne => ⟨g, o', rfl, hgl, fun k y hy => by
    have hp := List.length_pos_iff.2 hne
    have ho2 := ho (by omega)
    subst ho2
    have hk := (List.getElem?_eq_some_iff.1 hy).1
    have hc : (x :: cs)[k + 1]? = some y := by simpa using hy
    obtain ⟨e0, e1⟩ := crL_at hc
    intro i hi
    rcases (by omega : i = 0 ∨ i = 1) with rfl | rfl
    · rw [show 2 + k * 2 + 0 = (k + 1) * 2 by omega, hcell _ (by omega)]; exact e0
    · rw [show 2 + k * 2 + 1 = (k + 1) * 2 + 1 by omega, hcell _ (by omega)]; exact e1⟩, by omega⟩
  simp only [maxLen] at hcm
  refine region_word2 rdB rdDs 98 hsz rdOk (RdW g (cs.length + 1) cap (.slice (some ⟨g, 0, none⟩) (cs.length + 1) cap) x (leastC x cs) w) ?_ ?_ ?_
  · exact ⟨fun h => absurd h (by decide), fun h => absurd h (by decide), fun h => absurd h (by decide), fun h => absurd h (by decide), fun h => absurd h (by decide), fun h => absurd h (by decide), fun h => absurd h (by decide), (Mod.refl _ _).drew⟩
  · intro D vs i' o ρ w' hlt hcl ho hD hdep EV EO hW
    have far : ∀ s, s ∉ rdDs.map Prod.snd → ρ.eval (.tmp s) = a0.eval (.tmp s) := fun s hs => EO s fun x hx e => absurd (e ▸ List.mem_map.2 ⟨x, hx, rfl⟩ : s ∈ rdDs.map Prod.snd) hs
    obtain ⟨W0, W1, W2, W3, W4, W5, W6, WM⟩ := hW
    have dat : ∀ {j : Nat} {s : Nat}, (∃ e ∈ o.after, Region.binds .any e = true ∧ e.on = j) → (j, s) ∈ rdDs → ρ.eval (.tmp s) = vs j ∧ D j = true := fun ⟨e, he, hb, hj⟩ hm => ⟨EV _ _ hm (hj ▸ hdep e he hb), hj ▸ hdep e he hb⟩
    have c7 : D 7 = true → D 6 = true ∧ D 5 = true := fun h => ⟨hcl 7 rd7 rfl h ⟨6, .data⟩ (by simp) rfl, hcl 7 rd7 rfl h ⟨5, .data⟩ (by simp) rfl⟩
    have hlt' : i' < 8 := hlt
    rcases (by omega : i' = 0 ∨ i' = 1 ∨ i' = 2 ∨ i' = 3 ∨ i' = 4 ∨ i' = 5 ∨ i' = 6 ∨ i' = 7) with rfl | rfl | rfl | rfl | rfl | rfl | rfl | rfl
    all_goals (obtain rfl := Option.some.inj ho)
    · refine step_val rfl _ (run_move rfl ((far 10 (by decide)).trans x10)) ⟨_, rfl, fun _ => rfl, W1, W2, W3, W4, W5, W6, WM⟩
    · obtain ⟨e0, g0⟩ := @dat 0 84 ⟨⟨0, .data⟩, by simp, rfl, rfl⟩ (by decide)
      refine step_val rfl _ (run_index118 rfl (e0.trans (W0 g0)) (by omega)) ⟨_, rfl, W0, fun _ => rfl, W2, W3, W4, W5, W6, WM⟩
    · obtain ⟨e1, g1⟩ := @dat 1 85 ⟨⟨1, .data⟩, by simp, rfl, rfl⟩ (by decide)
      refine step_val rfl (crV x) (run_load97 rfl (e1.trans (W1 g1)) ((cell_same (WM.block g hgl id) _).trans hx0.1) ((cell_same (WM.block g hgl id) _).trans hx0.2)) ⟨_, rfl, W0, W1, fun _ => rfl, W3, W4, W5, W6, WM⟩
    · refine step_val rfl _ (run_move rfl ((far 10 (by decide)).trans x10)) ⟨_, rfl, W0, W1, W2, fun _ => rfl, W4, W5, W6, WM⟩
    · obtain ⟨e3, g3⟩ := @dat 3 87 ⟨⟨3, .data⟩, by simp, rfl, rfl⟩ (by decide)
      obtain ⟨o', ho', hrun⟩ := run_slice118 (w := w') (o := rd4) (a := ρ) rfl (e3.trans (W3 g3)) (by omega) hnc (by omega)
      refine step_val rfl _ hrun ⟨_, rfl, W0, W1, W2, W3, fun _ => ⟨o', ho', rfl⟩, W5, W6, WM⟩
    · obtain ⟨e2, g2⟩ := @dat 2 86 ⟨⟨2, .data⟩, by simp, rfl, rfl⟩ (by decide)
      obtain ⟨e4, g4⟩ := @dat 4 88 ⟨⟨4, .data⟩, by simp, rfl, rfl⟩ (by decide)
      obtain ⟨o', ho', h4⟩ := W4 g4
      refine step_call rfl 74 #[.func 75, .tmp 86, .tmp 88] #[120, 97, 118] rfl enter74 ?_
      rw [show (#[Operand.func 75, Operand.tmp 86, Operand.tmp 88].map ρ.eval) = #[.func (.func 75) #[] #[], crV x, .slice (some ⟨g, o', none⟩) cs.length (cap - 1)] by simp [e2.trans (W2 g2), e4.trans h4]; rfl]
      refine (least_any w.heap.size x cs (some ⟨g, o', none⟩) (cap - 1) w' WM.size ((hcs o' ho').low (Low.ofN WM (Nat.le_refl _)))).mono ?_
      rintro e w2 ⟨rfl, hm⟩
      refine ⟨_, rfl, _, rfl, W0, W1, W2, W3, W4, fun _ => rfl, fun h => ?_, WM.trans hm⟩
      obtain ⟨pb, h1, h2, h3, h5⟩ := W6 h
      exact ⟨pb, h1, h2, fun h => hm.at (h3 h) id, fun h => hm.at (h5 h) id⟩
    · refine step_run rfl _ _ (run_alloc97 rfl) ⟨_, rfl, W0, W1, W2, W3, W4, W5, fun _ => ⟨w'.heap.size, rfl, WM.size, fun _ => World.alloc_heap_new _ _, fun h => absurd ((c7 h).1.symm.trans hD) (by decide)⟩, WM.alloc _⟩
    · obtain ⟨e6, g6⟩ := @dat 6 15 ⟨⟨6, .data⟩, by simp, rfl, rfl⟩ (by decide)
      obtain ⟨e5, g5⟩ := @dat 5 89 ⟨⟨5, .data⟩, by simp, rfl, rfl⟩ (by decide)
      obtain ⟨pb, h1, h2, h3, _⟩ := W6 g6
      have hb := h3 hD
      refine step_storeRow rfl 97 rfl pb (crC (leastC x cs)) (e6.trans h1) (e5.trans (W5 g5)) 97 _ hb info97 rfl (by simp [Value.oneCell']) ⟨undef, rfl, W0, W1, W2, W3, W4, W5, fun _ => ⟨pb, h1, h2, fun h => absurd h (by simp), fun _ => World.putObj_heap_same (at_ltS hb)⟩, WM.putObj (fun h => by omega) _⟩
  · intro vs D w' hall hW
    obtain ⟨pb, e6, hpb, _, hb⟩ := hW.d6 (hall 6 (by decide))
    exact hend vs w' pb e6 hpb (hb (hall 7 (by decide))) hW.m

structure ReW (gb n cap i m1 mb : Nat) (f : (Nat → Int) → Int × List Nat) (r : Nat → Int) (y : Crs) (w : World) (D : Nat → Bool) (vs : Nat → Value) (w' : World) : Prop where
  d0 : D 0 = true → vs 0 = .slice (some ⟨gb, 0, none⟩) n cap
  d1 : D 1 = true → vs 1 = .int .i64 i
  d2 : D 2 = true → vs 2 = .pointer (some ⟨gb, i, none⟩)
  d3 : D 3 = true → vs 3 = .map (some mb)
  d4 : D 4 = true → vs 4 = .pointer (some ⟨m1, 5, none⟩)
  d5 : D 5 = true → vs 5 = ranV r
  d6 : D 6 = true → vs 6 = crV y
  d7 : D 7 = true → MemoIs f w' mb ∧ Mod (fun k => k = mb) w w'
  m : D 7 = false → Mod noB w w'

set_option maxRecDepth 100000 in
set_option maxHeartbeats 4000000 in
theorem region_keep {rid : Nat} {Q : Exit → Act → World → Prop} {a0 : Act} {w : World} {bb gb n cap i m1 mb pb : Nat} {f : (Nat → Int) → Int × List Nat} {ao : Option Addr} {nn acap : Nat} {d : Dye} {oo : Option Addr} {oc : Nat} {r : Nat → Int} {y : Crs} (hsz : a0.tmps.size = 98)
    (x3 : a0.eval (.tmp 3) = .pointer (some ⟨bb, 0, none⟩)) (x0 : a0.eval (.tmp 0) = .int .i64 i) (x6 : a0.eval (.tmp 6) = .pointer (some ⟨m1, 0, none⟩)) (x15 : a0.eval (.tmp 15) = .pointer (some ⟨pb, 0, none⟩)) (hbb : w.cell? ⟨bb, 0, none⟩ = some (.slice (some ⟨gb, 0, none⟩) n cap)) (hgb : w.cell? ⟨gb, i, none⟩ = some (.map (some mb)))
    (hm1 : w.heap[m1]? = some (.cells (mtC ao nn acap d oo oc r) 87)) (hpb : w.heap[pb]? = some (.cells (crC y) 97)) (hM : MemoIs f w mb) (hz : Zer r) (hr : RunB 10000 r) (hi : i < n) (hC : CrV (f r) (crV y) w)
    (hend : ∀ (vs : Nat → Value) w', MemoIs f w' mb → Mod (fun k => k = mb) w w' → Q .normal (reDs.foldl (fun a x => a.put (some x.2) (vs x.1)) a0) w') : (Code.region rid reOps.toArray true).wp Tryd.prog Q a0 w := by
  have hbl := World.block_lt_of_cell? _ _ hbb
  have hgl := World.block_lt_of_cell? _ _ hgb
  refine region_word2 reB reDs 98 hsz reOk (ReW gb n cap i m1 mb f r y w) ?_ ?_ ?_
  · exact ⟨fun h => absurd h (by decide), fun h => absurd h (by decide), fun h => absurd h (by decide), fun h => absurd h (by decide), fun h => absurd h (by decide), fun h => absurd h (by decide), fun h => absurd h (by decide), fun h => absurd h (by decide), fun _ => (Mod.refl _ _).drew⟩
  · intro D vs i' o ρ w' hlt hcl ho hD hdep EV EO hW
    have far : ∀ s, s ∉ reDs.map Prod.snd → ρ.eval (.tmp s) = a0.eval (.tmp s) := fun s hs => EO s fun x hx e => absurd (e ▸ List.mem_map.2 ⟨x, hx, rfl⟩ : s ∈ reDs.map Prod.snd) hs
    obtain ⟨W0, W1, W2, W3, W4, W5, W6, W7, WM⟩ := hW
    have dat : ∀ {j : Nat} {s : Nat}, (∃ e ∈ o.after, Region.binds .any e = true ∧ e.on = j) → (j, s) ∈ reDs → ρ.eval (.tmp s) = vs j ∧ D j = true := fun ⟨e, he, hb, hj⟩ hm => ⟨EV _ _ hm (hj ▸ hdep e he hb), hj ▸ hdep e he hb⟩
    have n7 : i' ≠ 7 → D 7 = false := fun hne => by
      cases h : D 7 with
      | false => rfl
      | true =>
        have hh := fun e he hb => hcl 7 re7 rfl h e he hb
        have h0 := hh ⟨0, .phase⟩ (by simp) rfl; have h1 := hh ⟨1, .phase⟩ (by simp) rfl; have h2 := hh ⟨2, .phase⟩ (by simp) rfl; have h3 := hh ⟨3, .data⟩ (by simp) rfl; have h4 := hh ⟨4, .phase⟩ (by simp) rfl; have h5 := hh ⟨5, .data⟩ (by simp) rfl; have h6 := hh ⟨6, .data⟩ (by simp) rfl
        have hlt' : i' < 8 := hlt
        rcases (by omega : i' = 0 ∨ i' = 1 ∨ i' = 2 ∨ i' = 3 ∨ i' = 4 ∨ i' = 5 ∨ i' = 6) with rfl | rfl | rfl | rfl | rfl | rfl | rfl <;> simp_all
    have hlt' : i' < 8 := hlt
    rcases (by omega : i' = 0 ∨ i' = 1 ∨ i' = 2 ∨ i' = 3 ∨ i' = 4 ∨ i' = 5 ∨ i' = 6 ∨ i' = 7) with rfl | rfl | rfl | rfl | rfl | rfl | rfl | rfl
    all_goals (obtain rfl := Option.some.inj ho)
    · have wm := WM (n7 (by decide))
      refine step_val rfl _ (run_load114 rfl ((far 3 (by decide)).trans x3) ((cell_same (wm.block bb hbl id) _).trans hbb)) ⟨_, rfl, fun _ => rfl, W1, W2, W3, W4, W5, W6, W7, WM⟩
    · refine step_val rfl _ (run_move rfl ((far 0 (by decide)).trans x0)) ⟨_, rfl, W0, fun _ => rfl, W2, W3, W4, W5, W6, W7, WM⟩
    · obtain ⟨v0, g0⟩ := @dat 0 90 ⟨⟨0, .data⟩, by simp, rfl, rfl⟩ (by decide)
      obtain ⟨v1, g1⟩ := @dat 1 91 ⟨⟨1, .data⟩, by simp, rfl, rfl⟩ (by decide)
      refine step_val rfl _ (run_index114 rfl (v0.trans (W0 g0)) (v1.trans (W1 g1)) hi) ⟨_, rfl, W0, W1, fun _ => rfl, W3, W4, W5, W6, W7, WM⟩
    · obtain ⟨v2, g2⟩ := @dat 2 92 ⟨⟨2, .data⟩, by simp, rfl, rfl⟩ (by decide)
      have wm := WM (n7 (by decide))
      refine step_val rfl _ (run_load115 rfl (v2.trans (W2 g2)) ((cell_same (wm.block gb hgl id) _).trans hgb)) ⟨_, rfl, W0, W1, W2, fun _ => rfl, W4, W5, W6, W7, WM⟩
    · refine step_val rfl _ (run_ranAddr rfl ((far 6 (by decide)).trans x6)) ⟨_, rfl, W0, W1, W2, W3, fun _ => rfl, W5, W6, W7, WM⟩
    · obtain ⟨v4, g4⟩ := @dat 4 94 ⟨⟨4, .data⟩, by simp, rfl, rfl⟩ (by decide)
      have wm := WM (n7 (by decide))
      refine step_val rfl _ (run_load85 rfl (v4.trans (W4 g4)) (wm.at hm1 id)) ⟨_, rfl, W0, W1, W2, W3, W4, fun _ => rfl, W6, W7, WM⟩
    · have wm := WM (n7 (by decide))
      have hb := wm.at hpb id
      refine step_val rfl (crV y) (run_load97 rfl ((far 15 (by decide)).trans x15) (cellsAt hb 0) (cellsAt hb 1)) ⟨_, rfl, W0, W1, W2, W3, W4, W5, fun _ => rfl, W7, WM⟩
    · obtain ⟨v3, g3⟩ := @dat 3 93 ⟨⟨3, .data⟩, by simp, rfl, rfl⟩ (by decide)
      obtain ⟨v5, g5⟩ := @dat 5 95 ⟨⟨5, .data⟩, by simp, rfl, rfl⟩ (by decide)
      obtain ⟨v6, g6⟩ := @dat 6 96 ⟨⟨6, .data⟩, by simp, rfl, rfl⟩ (by decide)
      have wm := WM hD
      have hM' := hM.modT wm (fun _ h => h.elim) (wm.block mb hM.lt id)
      obtain ⟨es, c, hrun, hnew⟩ := hM'.store hz hr (hC.mod wm)
      refine wpList_plain rfl fun K' hK => ?_
      unfold Oper.wp
      rw [run_mapUpdate rfl (v3.trans (W3 g3)) (v5.trans (W5 g5)) (v6.trans (W6 g6)) hrun]
      simp only [Oper.upon]
      exact hK _ _ ⟨rfl, undef, rfl, W0, W1, W2, W3, W4, W5, W6, fun _ => ⟨hnew, (wm.wider (fun _ _ h => h.elim)).trans ((Mod.refl (fun k => k = mb) w').putObj (fun _ => rfl) _)⟩, fun h => absurd h (by simp)⟩
  · intro vs D w' hall hW
    obtain ⟨h1, h2⟩ := hW.d7 (hall 7 (by decide))
    exact hend vs w' h1 h2
end Go.Proofs.YtdncppempgpooaaDoor

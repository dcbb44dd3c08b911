/- cheapest: what comes later. -/
import Derived.Test.YtdncppempgpooaaDoorRuY
set_option linter.unusedSimpArgs false
set_option linter.unusedVariables false
namespace Go.Proofs.YtdncppempgpooaaDoor
open Go.RowKit Go.Shelf Go.Maps Go.WideMaps

section
variable {ops : Array Oper} {o : Oper} {a : Act} {w : World} {K : Act → World → Prop} {x y z : Operand}
theorem run_load116 (hop : o.op = .load 116 x) {b k : Nat} (hx : a.eval x = .pointer (some ⟨b, k, none⟩)) {v : Value} (hc : w.cell? ⟨b, k, none⟩ = some v) : (execOp a.eval o).run Tryd.prog w = .ok (.value v) w := by
  simp only [execOp, hop, hx]
  go_simp
  done
theorem run_load33 (hop : o.op = .load 33 x) {b k : Nat} (hx : a.eval x = .pointer (some ⟨b, k, none⟩)) {v : Value} (hc : w.cell? ⟨b, k, none⟩ = some v) : (execOp a.eval o).run Tryd.prog w = .ok (.value v) w := by
  simp only [execOp, hop, hx]
  go_simp
  done
theorem run_index33 (hop : o.op = .indexAddr 33 x y) {sb off n cap i : Nat} (hx : a.eval x = .slice (some ⟨sb, off, none⟩) n cap) (hy : a.eval y = .int .i64 i) (hi : i < n) : (execOp a.eval o).run Tryd.prog w = .ok (.value (.pointer (some ⟨sb, off + i * 2, none⟩))) w := by
  have h1 : (i : Int) < n := by omega
  have h0 : (0 : Int) ≤ i := by omega
  simp only [execOp, hop, hx, hy]
  go_simp
  done
theorem run_load58 (hop : o.op = .load 58 x) {b k : Nat} {s : Int × Int} (hx : a.eval x = .pointer (some ⟨b, k, none⟩)) (h0 : w.cell? ⟨b, k, none⟩ = some (.int .i64 s.1)) (h1 : w.cell? ⟨b, k + 1, none⟩ = some (.int .i64 s.2)) : (execOp a.eval o).run Tryd.prog w = .ok (.value (spV s)) w := by
  simp only [execOp, hop, hx]
  go_simp
  done
theorem step_callv (hg : o.guard = none) (f : Nat) (args : Array Operand) (tys : Array TypeId) (c : Operand) (bd : Array Value) (hop : o.op = .call { callee := .value c, args := args, argTypes := tys }) (hc : a.eval c = .func (.func f) #[] bd)
    (hrun : ∀ (vs : Array Value) (w : World), (callFunc f vs).run Tryd.prog w = .ok (.enter f vs) w)
    (h : Calls Tryd.prog f (args.map a.eval ++ bd) w fun e w' => ∃ v, e = .returned v ∧ K (a.put o.dst v) w') : wpList Tryd.prog ops (only K) [o] a w := by
  refine wpList_plain hg fun K' hK => ?_
  unfold Oper.wp
  have e : (execOp a.eval o).run Tryd.prog w = .ok (.enter f (args.map a.eval ++ bd)) w := by
    simp [execOp, hop, resolve, invoke, hc, Deferred.ofValue, Result.andThen, hrun]
  rw [e]
  simp only [Oper.upon]
  refine Calls.mono h fun e w'' he => ?_
  obtain ⟨v, rfl, hk⟩ := he
  exact hK _ _ ⟨rfl, hk⟩
end
theorem enter52 : ∀ args w, (callFunc 52 args).run Tryd.prog w = .ok (.enter 52 args) w := enters_of Tryd.func52 (by kernel_rfl) rfl
theorem enter73 : ∀ args w, (callFunc 73 args).run Tryd.prog w = .ok (.enter 73 args) w := enters_of Tryd.func73 (by kernel_rfl) rfl
theorem info87 : (Tryd.prog.info? 87).map (·.size) = some 10 := by kernel_rfl
@[reducible] def rb0 : Oper := { dst := some 58, op := Op.load 116 (Operand.tmp 4), type := 116, pos := "plan.go:38", after := #[], guard := none }
@[reducible] def rb1 : Oper := { dst := some 59, op := Op.move (Operand.tmp 0), type := 3, pos := "plan.go:38", after := #[], guard := none }
@[reducible] def rb2 : Oper := { dst := some 60, op := Op.binOp BinOp.add 3 (Operand.tmp 59) (Operand.const (Value.int IntKind.i64 1)) 3, type := 3, pos := "plan.go:38", after := #[{ on := 1, ground := Ground.data }], guard := none }
@[reducible] def rb3 : Oper := { dst := some 61, op := Op.load 87 (Operand.tmp 12), type := 87, pos := "plan.go:38", after := #[], guard := none }
@[reducible] def rb4 : Oper := { dst := some 62, op := Op.load 33 (Operand.tmp 2), type := 33, pos := "plan.go:38", after := #[], guard := none }
@[reducible] def rb5 : Oper := { dst := some 63, op := Op.move (Operand.tmp 0), type := 3, pos := "plan.go:38", after := #[], guard := none }
@[reducible] def rb6 : Oper := { dst := some 64, op := Op.indexAddr 33 (Operand.tmp 62) (Operand.tmp 63), type := 0, pos := "plan.go:38", after := #[{ on := 4, ground := Ground.data }, { on := 5, ground := Ground.data }], guard := none }
@[reducible] def rb7 : Oper := { dst := some 65, op := Op.load 58 (Operand.tmp 64), type := 58, pos := "plan.go:38", after := #[{ on := 6, ground := Ground.data }], guard := none }
@[reducible] def rb8 : Oper := { dst := some 66, op := Op.call { callee := Callee.value (Operand.func 52), args := #[Operand.tmp 61, Operand.tmp 65], argTypes := #[87, 58] }, type := 87, pos := "plan.go:38", after := #[{ on := 3, ground := Ground.data }, { on := 7, ground := Ground.data }], guard := none }
@[reducible] def rb9 : Oper := { dst := some 67, op := Op.call { callee := Callee.value (Operand.tmp 58), args := #[Operand.tmp 60, Operand.tmp 66], argTypes := #[3, 87] }, type := 97, pos := "plan.go:38", after := #[{ on := 0, ground := Ground.data }, { on := 2, ground := Ground.data }, { on := 8, ground := Ground.data }, { on := 8, ground := Ground.chain }], guard := none }
@[reducible] def rb10 : Oper := { dst := some 14, op := Op.alloc 97, type := 0, pos := "plan.go:38", after := #[], guard := none }
@[reducible] def rb11 : Oper := { dst := none, op := Op.store 97 (Operand.tmp 14) (Operand.tmp 67), type := 0, pos := "plan.go:38", after := #[{ on := 10, ground := Ground.data }, { on := 9, ground := Ground.data }, { on := 9, ground := Ground.chain }, { on := 0, ground := Ground.phase }, { on := 1, ground := Ground.phase }, { on := 2, ground := Ground.phase }, { on := 3, ground := Ground.phase }, { on := 4, ground := Ground.phase }, { on := 5, ground := Ground.phase }, { on := 6, ground := Ground.phase }, { on := 7, ground := Ground.phase }, { on := 8, ground := Ground.phase }, { on := 9, ground := Ground.phase }, { on := 10, ground := Ground.phase }], guard := none }
@[reducible] def rbOps : List Oper := [rb0, rb1, rb2, rb3, rb4, rb5, rb6, rb7, rb8, rb9, rb10, rb11]
@[reducible] def rbDs : List (Nat × Nat) := [(0, 58), (1, 59), (2, 60), (3, 61), (4, 62), (5, 63), (6, 64), (7, 65), (8, 66), (9, 67), (10, 14)]
theorem rbB : lowB rbOps = true := by kernel_rfl
theorem rbOk : okB rbOps rbDs 98 = true := by decide +kernel

structure RbW (sb off lo n cap i m2 lb bb fb : Nat) (v3 v8 : Value) (s : Int × Int) (T : Nat → Prop) (R : Value → World → Prop) (w : World) (D : Nat → Bool) (vs : Nat → Value) (w' : World) : Prop where
  d0 : D 0 = true → vs 0 = .func (.func 73) #[] #[.pointer (some ⟨lb, 0, none⟩), .pointer (some ⟨bb, 0, none⟩), .pointer (some ⟨fb, 0, none⟩)]
  d1 : D 1 = true → vs 1 = .int .i64 i
  d2 : D 2 = true → vs 2 = .int .i64 (i + 1 : Nat)
  d3 : D 3 = true → vs 3 = v3
  d4 : D 4 = true → vs 4 = .slice (some ⟨sb, off, none⟩) n cap
  d5 : D 5 = true → vs 5 = .int .i64 i
  d6 : D 6 = true → vs 6 = .pointer (some ⟨sb, off + i * 2, none⟩)
  d7 : D 7 = true → vs 7 = spV s
  d8 : D 8 = true → vs 8 = v8
  d9 : D 9 = true → ∃ c so k cp, vs 9 = .agg #[.int .i64 c, .slice so k cp] ∧ R (vs 9) w' ∧ Mod T w w'
  d10 : D 10 = true → ∃ pb, vs 10 = .pointer (some ⟨pb, 0, none⟩) ∧ w.heap.size ≤ pb ∧ (D 11 = false → w'.heap[pb]? = some (.cells #[.int .i64 0, .slice none 0 0] 97)) ∧
    (D 11 = true → ∀ cs, vs 9 = .agg cs → w'.heap[pb]? = some (.cells cs 97))
  m : D 9 = false → Mod noB w w'

set_option maxRecDepth 100000 in
set_option maxHeartbeats 4000000 in
theorem region_next {rid : Nat} {Q : Exit → Act → World → Prop} {a0 : Act} {w : World} {sb off lo n cap i m2 lb bb fb : Nat} {ao : Option Addr} {acap : Nat} {d : Dye} {oo : Option Addr} {oc : Nat} {r : Nat → Int} {s : Int × Int} (hsz : a0.tmps.size = 98)
    (x4 : a0.eval (.tmp 4) = .pointer (some ⟨fb, 0, none⟩)) (x2 : a0.eval (.tmp 2) = .pointer (some ⟨lb, 0, none⟩)) (x0 : a0.eval (.tmp 0) = .int .i64 i) (x12 : a0.eval (.tmp 12) = .pointer (some ⟨m2, 0, none⟩))
    (hfb : w.cell? ⟨fb, 0, none⟩ = some (.func (.func 73) #[] #[.pointer (some ⟨lb, 0, none⟩), .pointer (some ⟨bb, 0, none⟩), .pointer (some ⟨fb, 0, none⟩)])) (hlb : w.cell? ⟨lb, 0, none⟩ = some (.slice (some ⟨sb, off, none⟩) n cap))
    (hs0 : w.cell? ⟨sb, off + i * 2, none⟩ = some (.int .i64 s.1)) (hs1 : w.cell? ⟨sb, off + i * 2 + 1, none⟩ = some (.int .i64 s.2)) (hm2 : w.heap[m2]? = some (.cells (mtC ao d.bl.length acap d oo oc r) 87)) (hr : RunB 10000 r) (hst : stintB s = true) (hn5 : d.bl.length ≤ 5) (hi : i < n) (hn : n ≤ 100)
    (T : Nat → Prop) (R : Value → World → Prop) (hT : ∀ k, T k → k < w.heap.size)
    (hR : ∀ v w1 w2 pb cs, R v w1 → w.heap.size ≤ pb → w1.heap[pb]? = some (.cells cs 97) → Mod (fun k => k = pb) w1 w2 → R v w2) (hRn : ∀ v w1 w2, R v w1 → Mod noB w1 w2 → R v w2)
    (HC : ∀ w1, Mod noB w w1 → Calls Tryd.prog 73 #[.int .i64 (i + 1 : Nat), mtV ao d.bl.length acap d oo oc (runR d r s), .pointer (some ⟨lb, 0, none⟩), .pointer (some ⟨bb, 0, none⟩), .pointer (some ⟨fb, 0, none⟩)] w1 fun e w' => ∃ c so k cp, e = .returned (.agg #[.int .i64 c, .slice so k cp]) ∧ R (.agg #[.int .i64 c, .slice so k cp]) w' ∧ Mod T w1 w')
    (hend : ∀ (vs : Nat → Value) w' c so k cp pb, vs 10 = .pointer (some ⟨pb, 0, none⟩) → w.heap.size ≤ pb → w'.heap[pb]? = some (.cells #[.int .i64 c, .slice so k cp] 97) → R (.agg #[.int .i64 c, .slice so k cp]) w' → Mod T w w' →
      Q .normal (rbDs.foldl (fun a x => a.put (some x.2) (vs x.1)) a0) w') : (Code.region rid rbOps.toArray true).wp Tryd.prog Q a0 w := by
  have hfl := World.block_lt_of_cell? _ _ hfb
  have hll := World.block_lt_of_cell? _ _ hlb
  have hsl := World.block_lt_of_cell? _ _ hs0
  refine region_word2 rbB rbDs 98 hsz rbOk (RbW sb off lo n cap i m2 lb bb fb (mtV ao d.bl.length acap d oo oc r) (mtV ao d.bl.length acap d oo oc (runR d r s)) s T R w) ?_ ?_ ?_
  · exact ⟨fun h => absurd h (by decide), fun h => absurd h (by decide), fun h => absurd h (by decide), fun h => absurd h (by decide), fun h => absurd h (by decide), fun h => absurd h (by decide), fun h => absurd h (by decide), fun h => absurd h (by decide), fun h => absurd h (by decide), fun h => absurd h (by decide), fun h => absurd h (by decide), fun _ => (Mod.refl _ _).drew⟩
  · intro D vs i' o ρ w' hlt hcl ho hD hdep EV EO hW
    have far : ∀ s, s ∉ rbDs.map Prod.snd → ρ.eval (.tmp s) = a0.eval (.tmp s) := fun s hs => EO s fun x hx e => absurd (e ▸ List.mem_map.2 ⟨x, hx, rfl⟩ : s ∈ rbDs.map Prod.snd) hs
    obtain ⟨W0, W1, W2, W3, W4, W5, W6, W7, W8, W9, W10, WM⟩ := hW
    have c9 : D 9 = true → D 0 = true ∧ D 2 = true ∧ D 8 = true := fun h => ⟨hcl 9 rb9 rfl h ⟨0, .data⟩ (by simp) rfl, hcl 9 rb9 rfl h ⟨2, .data⟩ (by simp) rfl, hcl 9 rb9 rfl h ⟨8, .data⟩ (by simp) rfl⟩
    have c8 : D 8 = true → D 3 = true ∧ D 7 = true := fun h => ⟨hcl 8 rb8 rfl h ⟨3, .data⟩ (by simp) rfl, hcl 8 rb8 rfl h ⟨7, .data⟩ (by simp) rfl⟩
    have c7 : D 7 = true → D 6 = true := fun h => hcl 7 rb7 rfl h ⟨6, .data⟩ (by simp) rfl
    have c6 : D 6 = true → D 4 = true ∧ D 5 = true := fun h => ⟨hcl 6 rb6 rfl h ⟨4, .data⟩ (by simp) rfl, hcl 6 rb6 rfl h ⟨5, .data⟩ (by simp) rfl⟩
    have c2 : D 2 = true → D 1 = true := fun h => hcl 2 rb2 rfl h ⟨1, .data⟩ (by simp) rfl
    have c11 : D 11 = true → D 10 = true ∧ D 9 = true := fun h => ⟨hcl 11 rb11 rfl h ⟨10, .data⟩ (by simp) rfl, hcl 11 rb11 rfl h ⟨9, .data⟩ (by simp) rfl⟩
    have n9 : (∃ j, j ≤ 8 ∧ D j = false) → D 9 = false := by
      rintro ⟨j, hj, hd⟩
      cases h9 : D 9 with
      | false => rfl
      | true =>
        obtain ⟨h0, h2, h8⟩ := c9 h9
        obtain ⟨h3, h7⟩ := c8 h8
        have h6 := c7 h7
        obtain ⟨h4, h5⟩ := c6 h6
        have h1 := c2 h2
        rcases (by omega : j = 0 ∨ j = 1 ∨ j = 2 ∨ j = 3 ∨ j = 4 ∨ j = 5 ∨ j = 6 ∨ j = 7 ∨ j = 8) with rfl | rfl | rfl | rfl | rfl | rfl | rfl | rfl | rfl <;> simp_all
    have dat : ∀ {j : Nat} {s : Nat}, (∃ e ∈ o.after, Region.binds .any e = true ∧ e.on = j) → (j, s) ∈ rbDs → ρ.eval (.tmp s) = vs j ∧ D j = true := fun ⟨e, he, hb, hj⟩ hm => ⟨EV _ _ hm (hj ▸ hdep e he hb), hj ▸ hdep e he hb⟩
    have hlt' : i' < 12 := hlt
    rcases (by omega : i' = 0 ∨ i' = 1 ∨ i' = 2 ∨ i' = 3 ∨ i' = 4 ∨ i' = 5 ∨ i' = 6 ∨ i' = 7 ∨ i' = 8 ∨ i' = 9 ∨ i' = 10 ∨ i' = 11) with rfl | rfl | rfl | rfl | rfl | rfl | rfl | rfl | rfl | rfl | rfl | rfl
    all_goals (obtain rfl := Option.some.inj ho)
    · have wm := WM (n9 ⟨0, by omega, hD⟩)
      refine step_val rfl _ (run_load116 rfl ((far 4 (by decide)).trans x4) ((cell_same (wm.block fb hfl id) _).trans hfb)) ⟨_, rfl, fun _ => rfl, W1, W2, W3, W4, W5, W6, W7, W8, W9, W10, WM⟩
    · refine step_val rfl _ (run_move rfl ((far 0 (by decide)).trans x0)) ⟨_, rfl, W0, fun _ => rfl, W2, W3, W4, W5, W6, W7, W8, W9, W10, WM⟩
    · obtain ⟨v1, g1⟩ := @dat 1 59 ⟨⟨1, .data⟩, by simp, rfl, rfl⟩ (by decide)
      refine step_val rfl (.int .i64 (i + 1 : Nat)) (run_add rfl (v1.trans (W1 g1)) rfl (by omega) (by omega) (by omega)) ⟨_, rfl, W0, W1, fun _ => rfl, W3, W4, W5, W6, W7, W8, W9, W10, WM⟩
    · have wm := WM (n9 ⟨3, by omega, hD⟩)
      refine step_loadRow rfl 87 rfl m2 ((far 12 (by decide)).trans x12) _ 87 _ (wm.at hm2 id) rfl Tryd.underlying87 info87 ⟨_, rfl, W0, W1, W2, fun _ => rfl, W4, W5, W6, W7, W8, W9, W10, WM⟩
    · have wm := WM (n9 ⟨4, by omega, hD⟩)
      refine step_val rfl _ (run_load33 rfl ((far 2 (by decide)).trans x2) ((cell_same (wm.block lb hll id) _).trans hlb)) ⟨_, rfl, W0, W1, W2, W3, fun _ => rfl, W5, W6, W7, W8, W9, W10, WM⟩
    · refine step_val rfl _ (run_move rfl ((far 0 (by decide)).trans x0)) ⟨_, rfl, W0, W1, W2, W3, W4, fun _ => rfl, W6, W7, W8, W9, W10, WM⟩
    · obtain ⟨v4, g4⟩ := @dat 4 62 ⟨⟨4, .data⟩, by simp, rfl, rfl⟩ (by decide)
      obtain ⟨v5, g5⟩ := @dat 5 63 ⟨⟨5, .data⟩, by simp, rfl, rfl⟩ (by decide)
      refine step_val rfl _ (run_index33 rfl (v4.trans (W4 g4)) (v5.trans (W5 g5)) hi) ⟨_, rfl, W0, W1, W2, W3, W4, W5, fun _ => rfl, W7, W8, W9, W10, WM⟩
    · obtain ⟨v6, g6⟩ := @dat 6 64 ⟨⟨6, .data⟩, by simp, rfl, rfl⟩ (by decide)
      have wm := WM (n9 ⟨7, by omega, hD⟩)
      refine step_val rfl (spV s) (run_load58 rfl (v6.trans (W6 g6)) ((cell_same (wm.block sb hsl id) _).trans hs0) ((cell_same (wm.block sb hsl id) _).trans hs1)) ⟨_, rfl, W0, W1, W2, W3, W4, W5, W6, fun _ => rfl, W8, W9, W10, WM⟩
    · obtain ⟨v3, g3⟩ := @dat 3 61 ⟨⟨3, .data⟩, by simp, rfl, rfl⟩ (by decide)
      obtain ⟨v7, g7⟩ := @dat 7 65 ⟨⟨7, .data⟩, by simp, rfl, rfl⟩ (by decide)
      have h9 := n9 ⟨8, by omega, hD⟩
      have wm := WM h9
      refine step_call rfl 52 #[.tmp 61, .tmp 65] #[87, 58] rfl enter52 ?_
      rw [show (#[Operand.tmp 61, Operand.tmp 65].map ρ.eval) = #[mtV ao d.bl.length acap d oo oc r, spV s] by simp [v3.trans (W3 g3), v7.trans (W7 g7)]]
      refine (run_any ao acap d oo oc r s w' hn5 hr hst).mono ?_
      rintro e w2 ⟨rfl, hm⟩
      refine ⟨_, rfl, _, rfl, W0, W1, W2, W3, W4, W5, W6, W7, fun _ => rfl, fun h => ?_, fun h => ?_, fun _ => wm.trans hm⟩
      · exact absurd ((show D 9 = true from h).symm.trans h9) (by decide)
      · obtain ⟨pb, h1, h2, h3, _⟩ := W10 h
        exact ⟨pb, h1, h2, fun h11 => hm.at (h3 h11) id, fun h11 => absurd ((c11 h11).2.symm.trans h9) (by decide)⟩
    · obtain ⟨v0, g0⟩ := @dat 0 58 ⟨⟨0, .data⟩, by simp, rfl, rfl⟩ (by decide)
      obtain ⟨v2, g2⟩ := @dat 2 60 ⟨⟨2, .data⟩, by simp, rfl, rfl⟩ (by decide)
      obtain ⟨v8, g8⟩ := @dat 8 66 ⟨⟨8, .data⟩, by simp, rfl, rfl⟩ (by decide)
      have wm := WM hD
      refine step_callv rfl 73 #[.tmp 60, .tmp 66] #[3, 87] (.tmp 58) _ rfl (v0.trans (W0 g0)) enter73 ?_
      rw [show (#[Operand.tmp 60, Operand.tmp 66].map ρ.eval) = #[.int .i64 (i + 1 : Nat), mtV ao d.bl.length acap d oo oc (runR d r s)] by simp [v2.trans (W2 g2), v8.trans (W8 g8)]]
      refine (HC w' wm).mono ?_
      rintro e w2 ⟨c, so, k, cp, rfl, hr2, hm⟩
      refine ⟨_, rfl, _, rfl, W0, W1, W2, W3, W4, W5, W6, W7, W8, fun _ => ⟨c, so, k, cp, rfl, hr2, (wm.wider (fun _ _ h => h.elim)).trans hm⟩, fun h => ?_, fun h => ?_⟩
      · obtain ⟨pb, h1, h2, h3, _⟩ := W10 h
        exact ⟨pb, h1, h2, fun h11 => hm.at (h3 h11) (fun ht => by have := hT _ ht; omega), fun h11 => absurd ((c11 h11).2.symm.trans hD) (by decide)⟩
      · simp at h
    · have h11 : D 11 = false := by
        cases h : D 11 with
        | false => rfl
        | true => rw [(c11 h).1] at hD; cases hD
      have hsw : w.heap.size ≤ w'.heap.size := by
        cases h9 : D 9 with
        | false => exact (WM h9).size
        | true => obtain ⟨_, _, _, _, _, _, hm⟩ := W9 h9; exact hm.size
      refine step_run rfl _ _ (run_alloc97 rfl) ⟨_, rfl, W0, W1, W2, W3, W4, W5, W6, W7, W8, fun h => ?_, fun _ => ⟨w'.heap.size, rfl, hsw, fun _ => World.alloc_heap_new _ _, fun h => absurd ((show D 11 = true from h).symm.trans h11) (by decide)⟩, fun h => (WM h).alloc _⟩
      obtain ⟨c, so, k, cp, e, hr2, hm⟩ := W9 h
      exact ⟨c, so, k, cp, e, hRn _ _ _ hr2 ((Mod.refl _ _).alloc _), hm.alloc _⟩
    · obtain ⟨v10, g10⟩ := @dat 10 14 ⟨⟨10, .data⟩, by simp, rfl, rfl⟩ (by decide)
      obtain ⟨v9, g9⟩ := @dat 9 67 ⟨⟨9, .data⟩, by simp, rfl, rfl⟩ (by decide)
      obtain ⟨c, so, k, cp, e9, hr2, hm⟩ := W9 g9
      obtain ⟨pb, h1, h2, h3, _⟩ := W10 g10
      have hb := h3 hD
      refine step_storeRow rfl 97 rfl pb #[.int .i64 c, .slice so k cp] (v10.trans h1) (v9.trans e9) 97 _ hb info97 rfl (by simp [Value.oneCell']) ⟨undef, rfl, W0, W1, W2, W3, W4, W5, W6, W7, W8, fun _ => ⟨c, so, k, cp, e9, ?_, hm.putObj (fun h => ?_) _⟩, fun _ => ⟨pb, h1, h2, fun h => absurd h (by simp), fun _ cs hcs => ?_⟩, fun h => ?_⟩
      · exact hR _ _ _ pb _ hr2 h2 hb ((Mod.refl (fun k => k = pb) w').putObj (fun _ => rfl) _)
      · omega
      · have hcs' : vs 9 = .agg cs := hcs
        rw [e9] at hcs'
        cases hcs'
        exact World.putObj_heap_same (at_ltS hb)
      · exact absurd ((show D 9 = false from h).symm.trans g9) (by decide)
  · intro vs D w' hall hW
    obtain ⟨c, so, k, cp, e9, hr2, hm⟩ := hW.d9 (hall 9 (by decide))
    obtain ⟨pb, e10, hpb, _, hb⟩ := hW.d10 (hall 10 (by decide))
    exact hend vs w' c so k cp pb e10 hpb (hb (hall 11 (by decide)) _ e9) (e9 ▸ hr2) hm
end Go.Proofs.YtdncppempgpooaaDoor

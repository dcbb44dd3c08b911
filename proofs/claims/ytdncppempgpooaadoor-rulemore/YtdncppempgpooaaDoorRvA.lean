/- cheapest: a course more. -/
import Derived.Test.YtdncppempgpooaaDoorRuZ
import Derived.Test.YtdncppempgpooaaDoorRuU
import Derived.Maps.AppendAt
import Derived.Laws.AppendOwnNone
set_option linter.unusedSimpArgs false
set_option linter.unusedVariables false
namespace Go.Proofs.YtdncppempgpooaaDoor
open Go.RowKit Go.Shelf Go.Maps Go.WideMaps

section
variable {ops : Array Oper} {o : Oper} {a : Act} {w : World} {K : Act → World → Prop} {x y z : Operand}
theorem run_field97 (i : Nat) (hi : i < 2) (hop : o.op = .fieldAddr 97 x i) {b : Nat} (hx : a.eval x = .pointer (some ⟨b, 0, none⟩)) : (execOp a.eval o).run Tryd.prog w = .ok (.value (.pointer (some ⟨b, i, none⟩))) w := by
  rcases (by omega : i = 0 ∨ i = 1) with rfl | rfl
  all_goals
    simp only [execOp, hop, hx]
    go_simp
    done
theorem run_load34 (hop : o.op = .load 34 x) {b k : Nat} (hx : a.eval x = .pointer (some ⟨b, k, none⟩)) {v : Value} (hc : w.cell? ⟨b, k, none⟩ = some v) : (execOp a.eval o).run Tryd.prog w = .ok (.value v) w := by
  simp only [execOp, hop, hx]
  go_simp
  done
theorem run_build34 (hop : o.op = .buildSlice 34 1 #[(0, x)]) {v : Int} (hx : a.eval x = .int .i64 v) : (execOp a.eval o).run Tryd.prog w = .ok (.value (.slice (some ⟨w.heap.size, 0, none⟩) 1 1)) (w.alloc (.cells #[.int .i64 v] 3)) := by
  simp only [execOp, hop, List.map_toArray, List.map_cons, List.map_nil, hx]
  go_simp
  done
theorem run_build97 (hop : o.op = .build 97 #[(0, x), (1, y)]) {v : Int} {ao : Option Addr} {n cap : Nat} (hx : a.eval x = .int .i64 v) (hy : a.eval y = .slice ao n cap) : (execOp a.eval o).run Tryd.prog w = .ok (.value (.agg #[.int .i64 v, .slice ao n cap])) w := by
  simp only [execOp, hop, List.map_toArray, List.map_cons, List.map_nil, hx, hy]
  go_simp
  done
theorem run_build118 (hop : o.op = .buildSlice 118 1 #[(0, x)]) {v : Int} {ao : Option Addr} {n cap : Nat} (hx : a.eval x = .agg #[.int .i64 v, .slice ao n cap]) : (execOp a.eval o).run Tryd.prog w = .ok (.value (.slice (some ⟨w.heap.size, 0, none⟩) 1 1)) (w.alloc (.cells #[.int .i64 v, .slice ao n cap] 97)) := by
  simp only [execOp, hop, List.map_toArray, List.map_cons, List.map_nil, hx]
  go_simp
  done
end
theorem enter49 : ∀ args w, (callFunc 49 args).run Tryd.prog w = .ok (.enter 49 args) w := enters_of Tryd.func49 (by kernel_rfl) rfl
theorem info97b : (Tryd.prog.info? 97).map (fun i => (i.zero, i.size, i.bytes)) = some (some (.agg #[.int .i64 0, .slice none 0 0]), 2, 32) := by kernel_rfl
@[reducible] def rc0 : Oper := { dst := some 68, op := Op.move (Operand.tmp 10), type := 118, pos := "plan.go:39", after := #[], guard := none }
@[reducible] def rc1 : Oper := { dst := some 69, op := Op.load 87 (Operand.tmp 6), type := 87, pos := "plan.go:39", after := #[], guard := none }
@[reducible] def rc2 : Oper := { dst := some 70, op := Op.move (Operand.tmp 11), type := 3, pos := "plan.go:39", after := #[], guard := none }
@[reducible] def rc3 : Oper := { dst := some 71, op := Op.call { callee := Callee.value (Operand.func 49), args := #[Operand.tmp 69, Operand.tmp 70], argTypes := #[87, 3] }, type := 3, pos := "plan.go:39", after := #[{ on := 1, ground := Ground.data }, { on := 2, ground := Ground.data }], guard := none }
@[reducible] def rc4 : Oper := { dst := some 72, op := Op.fieldAddr 97 (Operand.tmp 14) 0, type := 0, pos := "plan.go:39", after := #[], guard := none }
@[reducible] def rc5 : Oper := { dst := some 73, op := Op.load 3 (Operand.tmp 72), type := 3, pos := "plan.go:39", after := #[{ on := 4, ground := Ground.data }], guard := none }
@[reducible] def rc6 : Oper := { dst := some 74, op := Op.binOp BinOp.add 3 (Operand.tmp 71) (Operand.tmp 73) 3, type := 3, pos := "plan.go:39", after := #[{ on := 3, ground := Ground.data }, { on := 5, ground := Ground.data }], guard := none }
@[reducible] def rc7 : Oper := { dst := some 75, op := Op.move (Operand.tmp 11), type := 3, pos := "plan.go:39", after := #[], guard := none }
@[reducible] def rc8 : Oper := { dst := some 76, op := Op.buildSlice 34 1 #[(0, Operand.tmp 75)], type := 34, pos := "plan.go:39", after := #[{ on := 7, ground := Ground.data }], guard := none }
@[reducible] def rc9 : Oper := { dst := some 77, op := Op.fieldAddr 97 (Operand.tmp 14) 1, type := 0, pos := "plan.go:39", after := #[], guard := none }
@[reducible] def rc10 : Oper := { dst := some 78, op := Op.load 34 (Operand.tmp 77), type := 34, pos := "plan.go:39", after := #[{ on := 9, ground := Ground.data }], guard := none }
@[reducible] def rc11 : Oper := { dst := some 79, op := Op.call { callee := Callee.builtin Builtin.append, args := #[Operand.tmp 76, Operand.tmp 78], argTypes := #[34, 34] }, type := 34, pos := "plan.go:39", after := #[{ on := 8, ground := Ground.data }, { on := 10, ground := Ground.data }, { on := 3, ground := Ground.chain }], guard := none }
@[reducible] def rc12 : Oper := { dst := some 80, op := Op.build 97 #[(0, Operand.tmp 74), (1, Operand.tmp 79)], type := 97, pos := "plan.go:39", after := #[{ on := 6, ground := Ground.data }, { on := 11, ground := Ground.data }], guard := none }
@[reducible] def rc13 : Oper := { dst := some 81, op := Op.buildSlice 118 1 #[(0, Operand.tmp 80)], type := 118, pos := "plan.go:39", after := #[{ on := 12, ground := Ground.data }], guard := none }
@[reducible] def rc14 : Oper := { dst := some 82, op := Op.call { callee := Callee.builtin Builtin.append, args := #[Operand.tmp 68, Operand.tmp 81], argTypes := #[118, 118] }, type := 118, pos := "plan.go:39", after := #[{ on := 0, ground := Ground.data }, { on := 13, ground := Ground.data }, { on := 11, ground := Ground.chain }], guard := none }
@[reducible] def rc15 : Oper := { dst := some 10, op := Op.assign (Operand.tmp 82), type := 118, pos := "plan.go:39", after := #[{ on := 14, ground := Ground.data }, { on := 14, ground := Ground.chain }, { on := 0, ground := Ground.phase }, { on := 1, ground := Ground.phase }, { on := 2, ground := Ground.phase }, { on := 3, ground := Ground.phase }, { on := 4, ground := Ground.phase }, { on := 5, ground := Ground.phase }, { on := 6, ground := Ground.phase }, { on := 7, ground := Ground.phase }, { on := 8, ground := Ground.phase }, { on := 9, ground := Ground.phase }, { on := 10, ground := Ground.phase }, { on := 11, ground := Ground.phase }, { on := 12, ground := Ground.phase }, { on := 13, ground := Ground.phase }, { on := 14, ground := Ground.phase }], guard := none }
@[reducible] def rcOps : List Oper := [rc0, rc1, rc2, rc3, rc4, rc5, rc6, rc7, rc8, rc9, rc10, rc11, rc12, rc13, rc14, rc15]
@[reducible] def rcDs : List (Nat × Nat) := [(0, 68), (1, 69), (2, 70), (3, 71), (4, 72), (5, 73), (6, 74), (7, 75), (8, 76), (9, 77), (10, 78), (11, 79), (12, 80), (13, 81), (14, 82), (15, 10)]
theorem rcB : lowB rcOps = true := by kernel_rfl
theorem rcOk : okB rcOps rcDs 98 = true := by decide +kernel

structure RcW (pb set base na : Nat) (v1 vA : Value) (pr c1 : Int) (so : Option Addr) (k cp : Nat) (L : List Nat) (xs : List Value) (w : World) (D : Nat → Bool) (vs : Nat → Value) (w' : World) : Prop where
  d0 : D 0 = true → vs 0 = vA
  d1 : D 1 = true → vs 1 = v1
  d2 : D 2 = true → vs 2 = .int .i64 set
  d3 : D 3 = true → vs 3 = .int .i64 pr
  d4 : D 4 = true → vs 4 = .pointer (some ⟨pb, 0, none⟩)
  d5 : D 5 = true → vs 5 = .int .i64 c1
  d6 : D 6 = true → vs 6 = .int .i64 (pr + c1)
  d7 : D 7 = true → vs 7 = .int .i64 set
  d8 : D 8 = true → ∃ g, vs 8 = .slice (some ⟨g, 0, none⟩) 1 1 ∧ w.heap.size ≤ g ∧ (D 11 = false → w'.heap[g]? = some (.cells #[.int .i64 set] 3))
  d9 : D 9 = true → vs 9 = .pointer (some ⟨pb, 1, none⟩)
  d10 : D 10 = true → vs 10 = .slice so k cp
  d11 : D 11 = true → w'.ownsRow w.heap.size 3 1 (vs 11) (L.length + 1) (((set :: L).map Int.ofNat).map (Value.int .i64))
  d12 : D 12 = true → vs 12 = .agg #[.int .i64 (pr + c1), vs 11]
  d13 : D 13 = true → ∃ g, vs 13 = .slice (some ⟨g, 0, none⟩) 1 1 ∧ w.heap.size ≤ g ∧ (D 14 = false → w'.heap[g]? = some (.cells #[.int .i64 (pr + c1), vs 11] 97))
  d14 : D 14 = true → w'.ownsRow base 97 2 (vs 14) (na + 1) (xs ++ [.int .i64 (pr + c1), vs 11]) ∧ Mod (fun j => vA.ownBlock = some j) w w'
  d15 : D 15 = true → vs 15 = vs 14
  m : D 14 = false → Mod noB w w'

set_option maxRecDepth 100000 in
set_option maxHeartbeats 8000000 in
theorem region_add {rid : Nat} {Q : Exit → Act → World → Prop} {a0 : Act} {w : World} {m1 pb set base na : Nat} {vA : Value} {ao : Option Addr} {nn acap : Nat} {d : Dye} {oo : Option Addr} {oc : Nat} {r : Nat → Int} {c1 : Int} {so : Option Addr} {k cp : Nat} {L : List Nat} {xs : List Value} (hsz : a0.tmps.size = 98)
    (x10 : a0.eval (.tmp 10) = vA) (x6 : a0.eval (.tmp 6) = .pointer (some ⟨m1, 0, none⟩)) (x11 : a0.eval (.tmp 11) = .int .i64 set) (x14 : a0.eval (.tmp 14) = .pointer (some ⟨pb, 0, none⟩))
    (hown : w.ownsRow base 97 2 vA na xs) (hm1 : w.heap[m1]? = some (.cells (mtC ao nn acap d oo oc r) 87)) (hpb : w.heap[pb]? = some (.cells #[.int .i64 c1, .slice so k cp] 97)) (hC : CrV (c1, L) (.agg #[.int .i64 c1, .slice so k cp]) w)
    (hT : Tab w) (hs : set < 32) (hst : 0 ≤ d.stop ∧ d.stop ≤ 10000) (hbe : 0 ≤ d.bend ∧ d.bend ≤ 10000) (hc1 : 0 ≤ c1 ∧ c1 ≤ 1000000000) (hna : na ≤ 100) (hL : L.length ≤ 100) (hbase : base ≤ w.heap.size)
    (hend : ∀ (vs : Nat → Value) w' v11, w'.ownsRow base 97 2 (vs 15) (na + 1) (xs ++ [.int .i64 (priceR d set + c1), v11]) → CrV (priceR d set + c1, set :: L) (.agg #[.int .i64 (priceR d set + c1), v11]) w' → Mod (fun j => vA.ownBlock = some j) w w' →
      Q .normal (rcDs.foldl (fun a x => a.put (some x.2) (vs x.1)) a0) w') : (Code.region rid rcOps.toArray true).wp Tryd.prog Q a0 w := by
  have hml := at_ltS hm1
  have hpl := at_ltS hpb
  have hpr := price_bd hs hst hbe
  have hlt1 : 1 < w.heap.size := World.block_lt_of_cell? _ _ (hT.at_ 0 (by omega))
  obtain ⟨i0, hi, hz0, hz1, hz2⟩ := info_parts info3
  obtain ⟨j0, hj, hy0, hy1, hy2⟩ := info_parts info97b
  obtain ⟨lo, lcap, hlv, hli, hlo, hln⟩ := hC
  simp only [Value.agg.injEq, Array.mk.injEq, List.cons.injEq, Value.slice.injEq, true_and, and_true] at hlv
  obtain ⟨rfl, rfl, rfl⟩ := hlv
  have hA97 : ∀ g, vA.ownBlock = some g → ∃ cur, w.heap[g]? = some (.cells cur 97) := fun g hg => (own_block hown hg).2
  refine region_word2 rcB rcDs 98 hsz rcOk (RcW pb set base na (mtV ao nn acap d oo oc r) vA (priceR d set) c1 so L.length cp L xs w) ?_ ?_ ?_
  · exact ⟨fun h => absurd h (by decide), fun h => absurd h (by decide), fun h => absurd h (by decide), fun h => absurd h (by decide), fun h => absurd h (by decide), fun h => absurd h (by decide), fun h => absurd h (by decide), fun h => absurd h (by decide), fun h => absurd h (by decide), fun h => absurd h (by decide), fun h => absurd h (by decide), fun h => absurd h (by decide), fun h => absurd h (by decide), fun h => absurd h (by decide), fun h => absurd h (by decide), fun h => absurd h (by decide), fun _ => (Mod.refl _ _).drew⟩
  · intro D vs i' o ρ w' hlt hcl ho hD hdep EV EO hW
    have far : ∀ s, s ∉ rcDs.map Prod.snd → ρ.eval (.tmp s) = a0.eval (.tmp s) := fun s hs => EO s fun x hx e => absurd (e ▸ List.mem_map.2 ⟨x, hx, rfl⟩ : s ∈ rcDs.map Prod.snd) hs
    obtain ⟨W0, W1, W2, W3, W4, W5, W6, W7, W8, W9, W10, W11, W12, W13, W14, W15, WM⟩ := hW
    have c15 : D 15 = true → D 14 = true := fun h => hcl 15 rc15 rfl h ⟨14, .data⟩ (by simp) rfl
    have c14 : D 14 = true → D 0 = true ∧ D 13 = true := fun h => ⟨hcl 14 rc14 rfl h ⟨0, .data⟩ (by simp) rfl, hcl 14 rc14 rfl h ⟨13, .data⟩ (by simp) rfl⟩
    have c13 : D 13 = true → D 12 = true := fun h => hcl 13 rc13 rfl h ⟨12, .data⟩ (by simp) rfl
    have c12 : D 12 = true → D 6 = true ∧ D 11 = true := fun h => ⟨hcl 12 rc12 rfl h ⟨6, .data⟩ (by simp) rfl, hcl 12 rc12 rfl h ⟨11, .data⟩ (by simp) rfl⟩
    have c11 : D 11 = true → D 8 = true ∧ D 10 = true ∧ D 3 = true := fun h => ⟨hcl 11 rc11 rfl h ⟨8, .data⟩ (by simp) rfl, hcl 11 rc11 rfl h ⟨10, .data⟩ (by simp) rfl, hcl 11 rc11 rfl h ⟨3, .chain⟩ (by simp) rfl⟩
    have c10 : D 10 = true → D 9 = true := fun h => hcl 10 rc10 rfl h ⟨9, .data⟩ (by simp) rfl
    have c8 : D 8 = true → D 7 = true := fun h => hcl 8 rc8 rfl h ⟨7, .data⟩ (by simp) rfl
    have c6 : D 6 = true → D 3 = true ∧ D 5 = true := fun h => ⟨hcl 6 rc6 rfl h ⟨3, .data⟩ (by simp) rfl, hcl 6 rc6 rfl h ⟨5, .data⟩ (by simp) rfl⟩
    have c5 : D 5 = true → D 4 = true := fun h => hcl 5 rc5 rfl h ⟨4, .data⟩ (by simp) rfl
    have c3 : D 3 = true → D 1 = true ∧ D 2 = true := fun h => ⟨hcl 3 rc3 rfl h ⟨1, .data⟩ (by simp) rfl, hcl 3 rc3 rfl h ⟨2, .data⟩ (by simp) rfl⟩
    have n14 : (∃ j, j ≤ 13 ∧ D j = false) → D 14 = false := by
      rintro ⟨j, hj, hd⟩
      cases h14 : D 14 with
      | false => rfl
      | true =>
        obtain ⟨h0, h13⟩ := c14 h14
        have h12 := c13 h13
        obtain ⟨h6, h11⟩ := c12 h12
        obtain ⟨h8, h10, h3⟩ := c11 h11
        have h9 := c10 h10
        have h7 := c8 h8
        obtain ⟨_, h5⟩ := c6 h6
        have h4 := c5 h5
        obtain ⟨h1, h2⟩ := c3 h3
        rcases (by omega : j = 0 ∨ j = 1 ∨ j = 2 ∨ j = 3 ∨ j = 4 ∨ j = 5 ∨ j = 6 ∨ j = 7 ∨ j = 8 ∨ j = 9 ∨ j = 10 ∨ j = 11 ∨ j = 12 ∨ j = 13) with rfl | rfl | rfl | rfl | rfl | rfl | rfl | rfl | rfl | rfl | rfl | rfl | rfl | rfl <;> simp_all
    have dat : ∀ {j : Nat} {s : Nat}, (∃ e ∈ o.after, Region.binds .any e = true ∧ e.on = j) → (j, s) ∈ rcDs → ρ.eval (.tmp s) = vs j ∧ D j = true := fun ⟨e, he, hb, hj⟩ hm => ⟨EV _ _ hm (hj ▸ hdep e he hb), hj ▸ hdep e he hb⟩
    have hlt' : i' < 16 := hlt
    rcases (by omega : i' = 0 ∨ i' = 1 ∨ i' = 2 ∨ i' = 3 ∨ i' = 4 ∨ i' = 5 ∨ i' = 6 ∨ i' = 7 ∨ i' = 8 ∨ i' = 9 ∨ i' = 10 ∨ i' = 11 ∨ i' = 12 ∨ i' = 13 ∨ i' = 14 ∨ i' = 15) with rfl | rfl | rfl | rfl | rfl | rfl | rfl | rfl | rfl | rfl | rfl | rfl | rfl | rfl | rfl | rfl
    all_goals (obtain rfl := Option.some.inj ho)
    · have h15 : D 15 = false := by
        cases h : D 15 with
        | false => rfl
        | true => rw [(c14 (c15 h)).1] at hD; cases hD
      have e10 : ρ.eval (.tmp 10) = vA := (EO 10 (fun x hx e => by
        simp only [rcDs, List.mem_cons, List.not_mem_nil, or_false] at hx
        rcases hx with rfl | rfl | rfl | rfl | rfl | rfl | rfl | rfl | rfl | rfl | rfl | rfl | rfl | rfl | rfl | rfl <;> first | exact h15 | (exact absurd e (by decide)))).trans x10
      refine step_val rfl _ (run_move rfl e10) ⟨_, rfl, fun _ => rfl, W1, W2, W3, W4, W5, W6, W7, W8, W9, W10, W11, W12, W13, W14, W15, WM⟩
    · have wm := WM (n14 ⟨1, by omega, hD⟩)
      refine step_loadRow rfl 87 rfl m1 ((far 6 (by decide)).trans x6) _ 87 _ (wm.at hm1 id) rfl Tryd.underlying87 info87 ⟨_, rfl, W0, fun _ => rfl, W2, W3, W4, W5, W6, W7, W8, W9, W10, W11, W12, W13, W14, W15, WM⟩
    · refine step_val rfl _ (run_move rfl ((far 11 (by decide)).trans x11)) ⟨_, rfl, W0, W1, fun _ => rfl, W3, W4, W5, W6, W7, W8, W9, W10, W11, W12, W13, W14, W15, WM⟩
    · obtain ⟨e1, g1⟩ := @dat 1 69 ⟨⟨1, .data⟩, by simp, rfl, rfl⟩ (by decide)
      obtain ⟨e2, g2⟩ := @dat 2 70 ⟨⟨2, .data⟩, by simp, rfl, rfl⟩ (by decide)
      have h14 := n14 ⟨3, by omega, hD⟩
      have wm := WM h14
      have h11 : D 11 = false := by
        cases h : D 11 with
        | false => rfl
        | true => rw [(c11 h).2.2] at hD; cases hD
      refine step_call rfl 49 #[.tmp 69, .tmp 70] #[87, 3] rfl enter49 ?_
      rw [show (#[Operand.tmp 69, Operand.tmp 70].map ρ.eval) = #[mtV ao nn acap d oo oc r, .int .i64 set] by simp [e1.trans (W1 g1), e2.trans (W2 g2)]]
      refine (price_any ao nn acap d oo oc r set w' hs (hT.same (wm.block 1 hlt1 id)) hst hbe).mono ?_
      rintro e w2 ⟨rfl, hm⟩
      refine ⟨_, rfl, _, rfl, W0, W1, W2, fun _ => rfl, W4, W5, W6, W7, fun h => ?_, W9, W10, fun h => absurd ((show D 11 = true from h).symm.trans h11) (by decide), W12, fun h => absurd ((c12 (c13 h)).2.symm.trans h11) (by decide), fun h => absurd ((show D 14 = true from h).symm.trans h14) (by decide), W15, fun _ => wm.trans hm⟩
      obtain ⟨g, h1, h2, h3⟩ := W8 h
      exact ⟨g, h1, h2, fun h => hm.at (h3 h) id⟩
    · refine step_val rfl _ (run_field97 0 (by omega) rfl ((far 14 (by decide)).trans x14)) ⟨_, rfl, W0, W1, W2, W3, fun _ => rfl, W5, W6, W7, W8, W9, W10, W11, W12, W13, W14, W15, WM⟩
    · obtain ⟨e4, g4⟩ := @dat 4 72 ⟨⟨4, .data⟩, by simp, rfl, rfl⟩ (by decide)
      have wm := WM (n14 ⟨5, by omega, hD⟩)
      refine step_val rfl (.int .i64 c1) (run_load3 rfl (e4.trans (W4 g4)) (cellsAt (wm.at hpb id) 0)) ⟨_, rfl, W0, W1, W2, W3, W4, fun _ => rfl, W6, W7, W8, W9, W10, W11, W12, W13, W14, W15, WM⟩
    · obtain ⟨e3, g3⟩ := @dat 3 71 ⟨⟨3, .data⟩, by simp, rfl, rfl⟩ (by decide)
      obtain ⟨e5, g5⟩ := @dat 5 73 ⟨⟨5, .data⟩, by simp, rfl, rfl⟩ (by decide)
      refine step_val rfl _ (run_add rfl (e3.trans (W3 g3)) (e5.trans (W5 g5)) rfl (by omega) (by omega)) ⟨_, rfl, W0, W1, W2, W3, W4, W5, fun _ => rfl, W7, W8, W9, W10, W11, W12, W13, W14, W15, WM⟩
    · refine step_val rfl _ (run_move rfl ((far 11 (by decide)).trans x11)) ⟨_, rfl, W0, W1, W2, W3, W4, W5, W6, fun _ => rfl, W8, W9, W10, W11, W12, W13, W14, W15, WM⟩
    · obtain ⟨e7, g7⟩ := @dat 7 75 ⟨⟨7, .data⟩, by simp, rfl, rfl⟩ (by decide)
      have h14 := n14 ⟨8, by omega, hD⟩
      have wm := WM h14
      have h11 : D 11 = false := by
        cases h : D 11 with
        | false => rfl
        | true => rw [(c11 h).1] at hD; cases hD
      refine step_run rfl _ _ (run_build34 rfl (e7.trans (W7 g7))) ⟨_, rfl, W0, W1, W2, W3, W4, W5, W6, W7, fun _ => ⟨w'.heap.size, rfl, wm.size, fun _ => World.alloc_heap_new _ _⟩, W9, W10, fun h => absurd ((show D 11 = true from h).symm.trans h11) (by decide), W12, fun h => absurd ((c12 (c13 h)).2.symm.trans h11) (by decide), fun h => absurd ((show D 14 = true from h).symm.trans h14) (by decide), W15, fun h => (WM h).alloc _⟩
    · refine step_val rfl _ (run_field97 1 (by omega) rfl ((far 14 (by decide)).trans x14)) ⟨_, rfl, W0, W1, W2, W3, W4, W5, W6, W7, W8, fun _ => rfl, W10, W11, W12, W13, W14, W15, WM⟩
    · obtain ⟨e9, g9⟩ := @dat 9 77 ⟨⟨9, .data⟩, by simp, rfl, rfl⟩ (by decide)
      have wm := WM (n14 ⟨10, by omega, hD⟩)
      refine step_val rfl (.slice so L.length cp) (run_load34 rfl (e9.trans (W9 g9)) (cellsAt (wm.at hpb id) 1)) ⟨_, rfl, W0, W1, W2, W3, W4, W5, W6, W7, W8, W9, fun _ => rfl, W11, W12, W13, W14, W15, WM⟩
    · obtain ⟨e8, g8⟩ := @dat 8 76 ⟨⟨8, .data⟩, by simp, rfl, rfl⟩ (by decide)
      obtain ⟨e10, g10⟩ := @dat 10 78 ⟨⟨10, .data⟩, by simp, rfl, rfl⟩ (by decide)
      have h14 := n14 ⟨11, by omega, hD⟩
      have wm := WM h14
      obtain ⟨g, hg1, hg2, hg3⟩ := W8 g8
      have hg := hg3 hD
      have hOwn : w'.ownsRow w.heap.size 3 1 (.slice (some ⟨g, 0, none⟩) 1 1) 1 [.int .i64 set] := ⟨rfl, .inr ⟨g, 1, _, rfl, hg2, hg, Nat.le_refl _, by unfold maxLen; omega, rfl, rfl⟩⟩
      have hli' := hli.mod wm
      have n12 : D 12 = false := by
        cases h : D 12 with
        | false => rfl
        | true => rw [(c12 h).2] at hD; cases hD
      have fin : ∀ v' w2, w2.ownsRow w.heap.size 3 1 v' (1 + L.length) ([.int .i64 set] ++ (L.map Int.ofNat).map (Value.int .i64)) → Mod (fun j => (Value.slice (some ⟨g, 0, none⟩) 1 1).ownBlock = some j) w' w2 →
          ∃ v, ρ.put rc11.dst v' = ρ.put rc11.dst v ∧ RcW pb set base na (mtV ao nn acap d oo oc r) vA (priceR d set) c1 so L.length cp L xs w (fun j => j == 11 || D j) (fun j => if j = 11 then v else vs j) w2 := fun v' w2 ho2 hm2 => by
        refine ⟨v', rfl, W0, W1, W2, W3, W4, W5, W6, W7, fun h => ?_, W9, W10, fun _ => ?_, fun h => absurd ((show D 12 = true from h).symm.trans n12) (by decide), fun h => absurd ((c13 h).symm.trans n12) (by decide), fun h => absurd ((show D 14 = true from h).symm.trans h14) (by decide), W15, fun _ => wm.then hm2 (fun i h1 h2 => ?_)⟩
        · obtain ⟨g, h1, h2, _⟩ := W8 h
          exact ⟨g, h1, h2, fun h => absurd h (by simp)⟩
        · have : w2.ownsRow w.heap.size 3 1 v' (L.length + 1) (((set :: L).map Int.ofNat).map (Value.int .i64)) := by
            rw [Nat.add_comm]; exact ho2
          exact this
        · have hgi : some g = some i := h2
          cases hgi
          omega
      cases hso : so with
      | none =>
        have hL0 : L = [] := by
          cases hL' : L with
          | nil => rfl
          | cons x L' =>
            obtain ⟨b, off, e, _⟩ := hli'.lies (by rw [hL']; simp)
            rw [hso] at e; cases e
        have hcp := hln hso
        refine wpList_append_own_none rfl (.tmp 76) (.tmp 78) 34 rfl w.heap.size 3 i0 1 Tryd.underlying34 hi _ 1 _ (e8.trans hg1) hOwn (by rw [e10.trans (W10 g10), hso, hL0, hcp]; rfl) (wpList_nil ⟨rfl, ?_⟩)
        have hh := fin _ w' (by rw [hL0]; exact hOwn) (Mod.refl _ _)
        rw [hso] at hh
        exact hh
      | some ad =>
        have hh := fin
        rw [hso] at hh
        refine wpList_append_own_at _ rfl (.tmp 76) (.tmp 78) 34 rfl w.heap.size 3 i0 (.int .i64 0) 1 8 Tryd.underlying34 hi hz0 hz1 hz2 rfl (by decide) _ 1 _ (e8.trans hg1) hOwn ad L.length cp ((L.map Int.ofNat).map (Value.int .i64)) (by rw [e10.trans (W10 g10), hso]) (by simp) ?_ ?_ (by unfold maxLen; omega) (by omega) wm.size ?_
        · intro j u hj
          have hjl : j < L.length := by
            have := (List.getElem?_eq_some_iff.1 hj).1
            simpa using this
          obtain ⟨b, off, e, hb, hcell⟩ := hli'.lies (by intro e; simp at e; rw [e] at hjl; simp at hjl)
          rw [hso] at e
          cases e
          rw [Addr.add_mid, hcell j (by simpa using hjl)]
          rw [List.getElem?_map] at hj
          cases hq : (L.map Int.ofNat)[j]? with
          | none => rw [hq] at hj; cases hj
          | some z => rw [hq] at hj; cases hj; rfl
        · intro u hu
          obtain ⟨z, _, rfl⟩ := List.mem_map.1 hu
          rfl
        · intro v' w2 ho2 hgr _ _
          refine wpList_nil ⟨rfl, hh v' w2 ho2 (Mod.of_grownBy hgr (fun r hr _ => hr))⟩
    · obtain ⟨e6, g6⟩ := @dat 6 74 ⟨⟨6, .data⟩, by simp, rfl, rfl⟩ (by decide)
      obtain ⟨e11, g11⟩ := @dat 11 79 ⟨⟨11, .data⟩, by simp, rfl, rfl⟩ (by decide)
      obtain ⟨a11, k11, e11'⟩ := own_form (W11 g11)
      refine step_val rfl (.agg #[.int .i64 (priceR d set + c1), vs 11]) (by rw [e11']; exact run_build97 rfl (e6.trans (W6 g6)) (e11.trans e11')) ⟨_, rfl, W0, W1, W2, W3, W4, W5, W6, W7, W8, W9, W10, W11, fun _ => rfl, W13, W14, W15, WM⟩
    · obtain ⟨e12, g12⟩ := @dat 12 80 ⟨⟨12, .data⟩, by simp, rfl, rfl⟩ (by decide)
      have g11 := (c12 g12).2
      have h14 := n14 ⟨13, by omega, hD⟩
      have wm := WM h14
      obtain ⟨a11, k11, e11'⟩ := own_form (W11 g11)
      have hb : (execOp ρ.eval rc13).run Tryd.prog w' = .ok (.value (.slice (some ⟨w'.heap.size, 0, none⟩) 1 1)) (w'.alloc (.cells #[.int .i64 (priceR d set + c1), vs 11] 97)) := by
        rw [e11']; exact run_build118 rfl ((e12.trans (W12 g12)).trans (by rw [e11']))
      refine step_run rfl _ _ hb ⟨_, rfl, W0, W1, W2, W3, W4, W5, W6, W7, fun h => ?_, W9, W10, fun h => ?_, W12, fun _ => ⟨w'.heap.size, rfl, wm.size, fun _ => World.alloc_heap_new _ _⟩, fun h => absurd ((show D 14 = true from h).symm.trans h14) (by decide), W15, fun h => (WM h).alloc _⟩
      · obtain ⟨g, h1, h2, _⟩ := W8 h
        exact ⟨g, h1, h2, fun h => absurd ((show D 11 = false from h).symm.trans g11) (by decide)⟩
      · refine own_same (W11 h) (fun q hq => ((Mod.refl noB w').alloc _).block q ?_ id)
        obtain ⟨_, cur, hc⟩ := own_block (W11 h) hq
        exact at_ltS hc
    · obtain ⟨e0, g0⟩ := @dat 0 68 ⟨⟨0, .data⟩, by simp, rfl, rfl⟩ (by decide)
      obtain ⟨e13, g13⟩ := @dat 13 81 ⟨⟨13, .data⟩, by simp, rfl, rfl⟩ (by decide)
      have wm := WM hD
      have g11 := (c12 (c13 g13)).2
      obtain ⟨g, hg1, hg2, hg3⟩ := W13 g13
      have hg := hg3 hD
      have hown' : w'.ownsRow base 97 2 vA na xs := own_same hown (fun q hq => wm.block q (by
        obtain ⟨_, cur, hc⟩ := own_block hown hq
        exact at_ltS hc) id)
      obtain ⟨a11, k11, e11'⟩ := own_form (W11 g11)
      refine wpList_append_own_at _ rfl (.tmp 68) (.tmp 81) 118 rfl base 97 j0 (.agg #[.int .i64 0, .slice none 0 0]) 2 32 Tryd.underlying118 hj hy0 hy1 hy2 rfl (by decide) vA na xs (e0.trans (W0 g0)) hown' ⟨g, 0, none⟩ 1 1 [.int .i64 (priceR d set + c1), vs 11] (e13.trans hg1) rfl ?_ ?_ (by unfold maxLen; omega) (by omega) (by have := wm.size; omega) ?_
      · intro j u hj
        have ea : Addr.add ⟨g, 0, none⟩ j = ⟨g, j, none⟩ := by simp [Addr.add]; omega
        rw [ea, cellsAt hg, ← Array.getElem?_toList]
        exact hj
      · intro u hu
        simp only [List.mem_cons, List.not_mem_nil, or_false] at hu
        rcases hu with rfl | rfl
        · rfl
        · rw [e11']; rfl
      · intro v' w2 ho2 hgr _ _
        have hm2 : Mod (fun j => vA.ownBlock = some j) w' w2 := Mod.of_grownBy hgr (fun r hr _ => hr)
        refine wpList_nil ⟨rfl, v', rfl, W0, W1, W2, W3, W4, W5, W6, W7, fun h => ?_, W9, W10, fun h => ?_, W12, fun h => ?_, fun _ => ⟨ho2, (wm.wider (fun _ _ h => h.elim)).trans hm2⟩, fun h => ?_, fun h => absurd h (by simp)⟩
        · obtain ⟨g, h1, h2, _⟩ := W8 h
          exact ⟨g, h1, h2, fun h => absurd ((show D 11 = false from h).symm.trans g11) (by decide)⟩
        · refine own_same (W11 h) (fun q hq => ?_)
          obtain ⟨_, cur, hc⟩ := own_block (W11 h) hq
          refine hm2.block q (at_ltS hc) (fun he => ?_)
          obtain ⟨_, cur2, hc2⟩ := own_block hown' he
          rw [hc] at hc2; cases hc2
        · obtain ⟨g, h1, h2, _⟩ := W13 h
          exact ⟨g, h1, h2, fun h => absurd h (by simp)⟩
        · exact absurd ((c15 h).symm.trans hD) (by decide)
    · obtain ⟨e14, g14⟩ := @dat 14 82 ⟨⟨14, .data⟩, by simp, rfl, rfl⟩ (by decide)
      refine step_val rfl _ (run_assign rfl e14) ⟨_, rfl, W0, W1, W2, W3, W4, W5, W6, W7, W8, W9, W10, W11, W12, W13, W14, fun _ => rfl, WM⟩
  · intro vs D w' hall hW
    obtain ⟨h1, h2⟩ := hW.d14 (hall 14 (by decide))
    have h11 := hW.d11 (hall 11 (by decide))
    refine hend vs w' (vs 11) (by rw [hW.d15 (hall 15 (by decide))]; exact h1) ?_ h2
    obtain ⟨ao1, cap1, e1, hi1, _⟩ := ints_of_owns h11 (by simp) (by simp; omega)
    refine ⟨ao1, cap1, by rw [e1]; rfl, hi1, fun b off x e => ?_, fun e => ?_⟩
    · obtain ⟨_, cur, hc⟩ := own_block h11 (r := b) (by rw [e1, e]; rfl)
      exact ⟨cur, hc⟩
    · obtain ⟨b, off, e2, _⟩ := hi1.lies (by simp)
      rw [e] at e2; cases e2
end Go.Proofs.YtdncppempgpooaaDoor

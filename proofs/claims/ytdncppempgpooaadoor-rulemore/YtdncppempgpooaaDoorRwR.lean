/- A plan, by remainders (sets): its region. -/
import Derived.Test.YtdncppempgpooaaDoorRvA
import Derived.Test.YtdncppempgpooaaDoorRwF
set_option linter.unusedSimpArgs false
set_option linter.unusedVariables false
namespace Go.Proofs.YtdncppempgpooaaDoor
open Go.RowKit Go.Shelf Go.Maps Go.WideMaps

@[reducible] def st0 : Oper := { dst := some 15, op := Op.move (Operand.tmp 7), type := 34, pos := "outright.go:102", after := #[], guard := none }
@[reducible] def st1 : Oper := { dst := some 16, op := Op.move (Operand.tmp 2), type := 62, pos := "outright.go:102", after := #[], guard := none }
@[reducible] def st2 : Oper := { dst := some 17, op := Op.move (Operand.tmp 8), type := 3, pos := "outright.go:102", after := #[], guard := none }
@[reducible] def st3 : Oper := { dst := some 18, op := Op.move (Operand.tmp 2), type := 62, pos := "outright.go:102", after := #[], guard := none }
@[reducible] def st4 : Oper := { dst := some 19, op := Op.call { callee := Callee.builtin Builtin.len, args := #[Operand.tmp 18], argTypes := #[62] }, type := 3, pos := "outright.go:102", after := #[{ on := 3, ground := Ground.data }], guard := none }
@[reducible] def st5 : Oper := { dst := some 20, op := Op.binOp BinOp.rem 3 (Operand.tmp 17) (Operand.tmp 19) 3, type := 3, pos := "outright.go:102", after := #[{ on := 2, ground := Ground.data }, { on := 4, ground := Ground.data }], guard := none }
@[reducible] def st6 : Oper := { dst := some 21, op := Op.indexAddr 62 (Operand.tmp 16) (Operand.tmp 20), type := 0, pos := "outright.go:102", after := #[{ on := 1, ground := Ground.data }, { on := 5, ground := Ground.data }], guard := none }
@[reducible] def st7 : Oper := { dst := some 22, op := Op.load 5 (Operand.tmp 21), type := 5, pos := "outright.go:102", after := #[{ on := 6, ground := Ground.data }], guard := none }
@[reducible] def st8 : Oper := { dst := some 23, op := Op.convert 5 3 (Operand.tmp 22), type := 3, pos := "outright.go:102", after := #[{ on := 7, ground := Ground.data }], guard := none }
@[reducible] def st9 : Oper := { dst := some 24, op := Op.fieldAddr 24 (Operand.tmp 3) 0, type := 0, pos := "outright.go:102", after := #[], guard := none }
@[reducible] def st10 : Oper := { dst := some 25, op := Op.load 22 (Operand.tmp 24), type := 22, pos := "outright.go:102", after := #[{ on := 9, ground := Ground.data }], guard := none }
@[reducible] def st11 : Oper := { dst := some 26, op := Op.call { callee := Callee.builtin Builtin.len, args := #[Operand.tmp 25], argTypes := #[22] }, type := 3, pos := "outright.go:102", after := #[{ on := 10, ground := Ground.data }], guard := none }
@[reducible] def st12 : Oper := { dst := some 27, op := Op.binOp BinOp.shl 3 (Operand.const (Value.int IntKind.i64 1)) (Operand.tmp 26) 3, type := 3, pos := "outright.go:102", after := #[{ on := 11, ground := Ground.data }], guard := none }
@[reducible] def st13 : Oper := { dst := some 28, op := Op.binOp BinOp.rem 3 (Operand.tmp 23) (Operand.tmp 27) 3, type := 3, pos := "outright.go:102", after := #[{ on := 8, ground := Ground.data }, { on := 12, ground := Ground.data }], guard := none }
@[reducible] def st14 : Oper := { dst := some 29, op := Op.buildSlice 34 1 #[(0, Operand.tmp 28)], type := 34, pos := "outright.go:102", after := #[{ on := 13, ground := Ground.data }], guard := none }
@[reducible] def st15 : Oper := { dst := some 30, op := Op.call { callee := Callee.builtin Builtin.append, args := #[Operand.tmp 15, Operand.tmp 29], argTypes := #[34, 34] }, type := 34, pos := "outright.go:102", after := #[{ on := 0, ground := Ground.data }, { on := 14, ground := Ground.data }], guard := none }
@[reducible] def st16 : Oper := { dst := some 7, op := Op.assign (Operand.tmp 30), type := 34, pos := "outright.go:102", after := #[{ on := 15, ground := Ground.data }, { on := 15, ground := Ground.chain }, { on := 0, ground := Ground.phase }, { on := 1, ground := Ground.phase }, { on := 2, ground := Ground.phase }, { on := 3, ground := Ground.phase }, { on := 4, ground := Ground.phase }, { on := 5, ground := Ground.phase }, { on := 6, ground := Ground.phase }, { on := 7, ground := Ground.phase }, { on := 8, ground := Ground.phase }, { on := 9, ground := Ground.phase }, { on := 10, ground := Ground.phase }, { on := 11, ground := Ground.phase }, { on := 12, ground := Ground.phase }, { on := 13, ground := Ground.phase }, { on := 14, ground := Ground.phase }, { on := 15, ground := Ground.phase }], guard := none }
@[reducible] def stOps : List Oper := [st0, st1, st2, st3, st4, st5, st6, st7, st8, st9, st10, st11, st12, st13, st14, st15, st16]
@[reducible] def stDs : List (Nat × Nat) := [(0, 15), (1, 16), (2, 17), (3, 18), (4, 19), (5, 20), (6, 21), (7, 22), (8, 23), (9, 24), (10, 25), (11, 26), (12, 27), (13, 28), (14, 29), (15, 30), (16, 7)]
theorem stB : lowB stOps = true := by kernel_rfl
theorem stOk : okB stOps stDs 32 = true := by decide +kernel

section
variable {o : Oper} {a : Act} {w : World} {x y z : Operand}
theorem run_len62 {s : Nat} (hop : o.op = .call { callee := Callee.builtin Builtin.len, args := #[.tmp s], argTypes := #[62] }) {ao : Option Addr} {n cap : Nat} (hx : a.eval (.tmp s) = .slice ao n cap) : (execOp a.eval o).run Tryd.prog w = .ok (.value (.int .i64 n)) w := by
  have hx' : a.tmps[s]?.getD undef = .slice ao n cap := by simpa [Act.eval] using hx
  simp only [execOp, hop]
  go_simp
  done
theorem run_len22 {s : Nat} (hop : o.op = .call { callee := Callee.builtin Builtin.len, args := #[.tmp s], argTypes := #[22] }) {ao : Option Addr} {n cap : Nat} (hx : a.eval (.tmp s) = .slice ao n cap) : (execOp a.eval o).run Tryd.prog w = .ok (.value (.int .i64 n)) w := by
  have hx' : a.tmps[s]?.getD undef = .slice ao n cap := by simpa [Act.eval] using hx
  simp only [execOp, hop]
  go_simp
  done
theorem run_rem (hop : o.op = .binOp .rem 3 x y 3) {A B : Nat} (hx : a.eval x = .int .i64 A) (hy : a.eval y = .int .i64 B) (hB : 0 < B) (hA : A < 1000000) : (execOp a.eval o).run Tryd.prog w = .ok (.value (.int .i64 (A % B : Nat))) w := by
  have h0 : ((B : Int) == 0) = false := by simp; omega
  have e : IntKind.i64.wrap (Int.tmod A B) = ((A % B : Nat) : Int) := by
    rw [Int.tmod_eq_emod_of_nonneg (by omega), ← Int.natCast_emod]
    exact IntWalk.i64_in _ (by have := Nat.mod_le A B; omega)
  simp only [execOp, hop, hx, hy]
  go_simp
  rw [if_neg (by omega), Int.tmod_eq_emod_of_nonneg (by omega)]
theorem run_index62 (hop : o.op = .indexAddr 62 x y) {b off n cap i : Nat} (hx : a.eval x = .slice (some ⟨b, off, none⟩) n cap) (hy : a.eval y = .int .i64 i) (hi : i < n) : (execOp a.eval o).run Tryd.prog w = .ok (.value (.pointer (some ⟨b, off + i, none⟩))) w := by
  have h1 : (i : Int) < n := by omega
  have h0 : (0 : Int) ≤ i := by omega
  simp only [execOp, hop, hx, hy]
  go_simp
  done
theorem run_load5 (hop : o.op = .load 5 x) {b k : Nat} (hx : a.eval x = .pointer (some ⟨b, k, none⟩)) {v : Value} (hc : w.cell? ⟨b, k, none⟩ = some v) : (execOp a.eval o).run Tryd.prog w = .ok (.value v) w := by
  simp only [execOp, hop, hx]
  go_simp
  done
theorem run_conv5 (hop : o.op = .convert 5 3 x) {u : Nat} (hx : a.eval x = .int .u8 u) (hu : u ≤ 255) : (execOp a.eval o).run Tryd.prog w = .ok (.value (.int .i64 u)) w := by
  have e : IntKind.i64.wrap (u : Int) = u := IntWalk.i64_in _ (by omega)
  simp only [execOp, hop, hx]
  go_simp
  done
theorem run_field24 (hop : o.op = .fieldAddr 24 x 0) {b : Nat} (hx : a.eval x = .pointer (some ⟨b, 0, none⟩)) : (execOp a.eval o).run Tryd.prog w = .ok (.value (.pointer (some ⟨b, 0, none⟩))) w := by
  simp only [execOp, hop, hx]
  go_simp
  done
theorem run_load22 (hop : o.op = .load 22 x) {b k : Nat} (hx : a.eval x = .pointer (some ⟨b, k, none⟩)) {v : Value} (hc : w.cell? ⟨b, k, none⟩ = some v) : (execOp a.eval o).run Tryd.prog w = .ok (.value v) w := by
  simp only [execOp, hop, hx]
  go_simp
  done
theorem run_shl1 (hop : o.op = .binOp .shl 3 (.const (.int .i64 1)) y 3) {n : Nat} (hy : a.eval y = .int .i64 n) (hn : n ≤ 5) : (execOp a.eval o).run Tryd.prog w = .ok (.value (.int .i64 (2 ^ n : Nat))) w := by
  simp only [execOp, hop, hy]
  rcases (by omega : n = 0 ∨ n = 1 ∨ n = 2 ∨ n = 3 ∨ n = 4 ∨ n = 5) with rfl | rfl | rfl | rfl | rfl | rfl <;> kernel_rfl
end


/-- What the operations yield that only read. -/
def stC (vA : Value) (bo : Option Addr) (bb boff bn bcap i u db : Nat) (ao : Option Addr) (n cap : Nat) : Nat → Value
  | 0 => vA
  | 1 => .slice bo bn bcap
  | 2 => .int .i64 i
  | 3 => .slice bo bn bcap
  | 4 => .int .i64 bn
  | 5 => .int .i64 (i % bn : Nat)
  | 6 => .pointer (some ⟨bb, boff + i % bn, none⟩)
  | 7 => .int .u8 u
  | 8 => .int .i64 u
  | 9 => .pointer (some ⟨db, 0, none⟩)
  | 10 => .slice ao n cap
  | 11 => .int .i64 n
  | 12 => .int .i64 (2 ^ n : Nat)
  | _ => .int .i64 (u % 2 ^ n : Nat)
structure StW (C : Nat → Value) (x : Int) (base k : Nat) (vA : Value) (xs : List Value) (w : World) (D : Nat → Bool) (vs : Nat → Value) (w' : World) : Prop where
  c : ∀ j, j < 14 → D j = true → vs j = C j
  d : D 14 = true → D 15 = false → ∃ b, vs 14 = .slice (some ⟨b, 0, none⟩) 1 1 ∧ w'.heap[b]? = some (.cells #[.int .i64 x] 3)
  e : D 15 = false → Mod noB w w'
  f : D 15 = true → ∃ W, Mod noB w W ∧ W.grownBy w' vA.ownBlock ∧ w'.ownsRow base 3 1 (vs 15) (k + 1) (xs ++ [.int .i64 x])
  g : D 16 = true → vs 16 = vs 15
theorem StW.read {C : Nat → Value} {x : Int} {base k : Nat} {vA : Value} {xs : List Value} {w : World} {D : Nat → Bool} {vs : Nat → Value} {w' : World} (h : StW C x base k vA xs w D vs w') {i : Nat} (hi : i < 14) : StW C x base k vA xs w (fun j => j == i || D j) (fun j => if j = i then C i else vs j) w' := by
  have n14 : (14 == i) = false := by simp; omega
  have n15 : (15 == i) = false := by simp; omega
  have n16 : (16 == i) = false := by simp; omega
  refine ⟨fun j hj hd => ?_, fun h1 h2 => ?_, fun h1 => ?_, fun h1 => ?_, fun h1 => ?_⟩
  · by_cases e : j = i
    · subst e; simp
    · simp only [e, if_false]
      have e2 : (j == i) = false := by simpa using e
      simp only [e2, Bool.false_or] at hd
      exact h.c j hj hd
  · simp only [n14, n15, Bool.false_or] at h1 h2
    have := h.d h1 h2
    rw [if_neg (by omega)]; exact this
  · simp only [n15, Bool.false_or] at h1; exact h.e h1
  · simp only [n15, Bool.false_or] at h1
    rw [if_neg (by omega)]; exact h.f h1
  · simp only [n16, Bool.false_or] at h1
    rw [if_neg (by omega), if_neg (by omega)]; exact h.g h1

set_option maxRecDepth 100000 in
set_option maxHeartbeats 4000000 in
theorem region_sets {rid : Nat} {Q : Exit → Act → World → Prop} {a0 : Act} {w : World} {vA : Value} {bo : Option Addr} {bb boff bn bcap i u db : Nat} {ao : Option Addr} {n cap base k : Nat} {xs : List Value} (hsz : a0.tmps.size = 32)
    (x7 : a0.eval (.tmp 7) = vA) (x2 : a0.eval (.tmp 2) = .slice bo bn bcap) (x8 : a0.eval (.tmp 8) = .int .i64 i) (x3 : a0.eval (.tmp 3) = .pointer (some ⟨db, 0, none⟩)) (hbo : bo = some ⟨bb, boff, none⟩) (hbn : 0 < bn) (hi : i < 1000000) (hu : u ≤ 255) (hn : n ≤ 5)
    (hcell : w.cell? ⟨bb, boff + i % bn, none⟩ = some (.int .u8 u)) (hdie : w.cell? ⟨db, 0, none⟩ = some (.slice ao n cap)) (hown : w.ownsRow base 3 1 vA k xs) (hk : k ≤ 100) (hbase : base ≤ w.heap.size)
    (hend : ∀ (vs : Nat → Value) w' W, Mod noB w W → W.grownBy w' vA.ownBlock → w'.ownsRow base 3 1 (vs 16) (k + 1) (xs ++ [.int .i64 (u % 2 ^ n : Nat)]) → Q .normal (stDs.foldl (fun a x => a.put (some x.2) (vs x.1)) a0) w') : (Code.region rid stOps.toArray true).wp Tryd.prog Q a0 w := by
  have hbl := World.block_lt_of_cell? _ _ hcell
  have hdl := World.block_lt_of_cell? _ _ hdie
  obtain ⟨j0, hj, hy0, hy1, hy2⟩ := info_parts info3
  have hpw := pow_bd hn
  refine region_word2 stB stDs 32 hsz stOk (StW (stC vA bo bb boff bn bcap i u db ao n cap) (u % 2 ^ n : Nat) base k vA xs w) ?_ ?_ ?_
  · exact ⟨fun _ _ h => absurd h (by decide), fun h => absurd h (by decide), fun _ => (Mod.refl _ _).drew, fun h => absurd h (by decide), fun h => absurd h (by decide)⟩
  · intro D vs i' o ρ w' hlt hcl ho hD hdep EV EO hW
    have far : ∀ s, s ∉ stDs.map Prod.snd → ρ.eval (.tmp s) = a0.eval (.tmp s) := fun s hs => EO s fun x hx e => absurd (e ▸ List.mem_map.2 ⟨x, hx, rfl⟩ : s ∈ stDs.map Prod.snd) hs
    have kn : ∀ j s, j < 14 → (∃ e ∈ o.after, Region.binds .any e = true ∧ e.on = j) → (j, s) ∈ stDs → ρ.eval (.tmp s) = stC vA bo bb boff bn bcap i u db ao n cap j := fun j s hj ⟨e, he, hb, hje⟩ hm => (EV _ _ hm (hje ▸ hdep e he hb)).trans (hW.c j hj (hje ▸ hdep e he hb))
    have c14 : D 14 = true → ∀ j, j < 14 → j ≠ 0 → j ≠ 0 → True := fun _ _ _ _ _ => trivial
    have c15 : D 15 = true → D 14 = true ∧ D 0 = true := fun h => ⟨hcl 15 st15 rfl h ⟨14, .data⟩ (by simp) rfl, hcl 15 st15 rfl h ⟨0, .data⟩ (by simp) rfl⟩
    have wm : ∀ j, i' = j → j < 15 → (D j = false) → (∀ (h : D 15 = true), D j = true) → Mod noB w w' := fun j e hj hd hx => by
      refine hW.e ?_
      cases h15 : D 15 with
      | false => rfl
      | true => rw [hx h15] at hd; cases hd
    have hlt' : i' < 17 := hlt
    rcases (by omega : i' = 0 ∨ i' = 1 ∨ i' = 2 ∨ i' = 3 ∨ i' = 4 ∨ i' = 5 ∨ i' = 6 ∨ i' = 7 ∨ i' = 8 ∨ i' = 9 ∨ i' = 10 ∨ i' = 11 ∨ i' = 12 ∨ i' = 13 ∨ i' = 14 ∨ i' = 15 ∨ i' = 16) with rfl | rfl | rfl | rfl | rfl | rfl | rfl | rfl | rfl | rfl | rfl | rfl | rfl | rfl | rfl | rfl | rfl
    all_goals (obtain rfl := Option.some.inj ho)
    · exact step_run rfl _ _ (run_move rfl ((EO 7 (fun x hx e => by
        have h16 : D 16 = false := by
          cases h : D 16 with
          | false => rfl
          | true => have := hcl 16 st16 rfl h ⟨0, .phase⟩ (by simp) rfl; rw [hD] at this; cases this
        simp only [stDs, List.mem_cons, List.not_mem_nil, or_false] at hx
        rcases hx with rfl | rfl | rfl | rfl | rfl | rfl | rfl | rfl | rfl | rfl | rfl | rfl | rfl | rfl | rfl | rfl | rfl
        all_goals first | exact h16 | (cases e))).trans x7)) ⟨_, rfl, hW.read (by omega)⟩
    · exact step_run rfl _ _ (run_move rfl ((far 2 (by decide)).trans x2)) ⟨_, rfl, hW.read (by omega)⟩
    · exact step_run rfl _ _ (run_move rfl ((far 8 (by decide)).trans x8)) ⟨_, rfl, hW.read (by omega)⟩
    · exact step_run rfl _ _ (run_move rfl ((far 2 (by decide)).trans x2)) ⟨_, rfl, hW.read (by omega)⟩
    · exact step_run rfl _ _ (run_len62 rfl (kn 3 18 (by omega) ⟨⟨3, .data⟩, by simp, rfl, rfl⟩ (by decide))) ⟨_, rfl, hW.read (by omega)⟩
    · exact step_run rfl _ _ (run_rem rfl (kn 2 17 (by omega) ⟨⟨2, .data⟩, by simp, rfl, rfl⟩ (by decide)) (kn 4 19 (by omega) ⟨⟨4, .data⟩, by simp, rfl, rfl⟩ (by decide)) hbn hi) ⟨_, rfl, hW.read (by omega)⟩
    · exact step_run rfl _ _ (run_index62 rfl ((kn 1 16 (by omega) ⟨⟨1, .data⟩, by simp, rfl, rfl⟩ (by decide)).trans (by rw [hbo]; rfl)) (kn 5 20 (by omega) ⟨⟨5, .data⟩, by simp, rfl, rfl⟩ (by decide)) (Nat.mod_lt _ hbn)) ⟨_, rfl, hW.read (by omega)⟩
    · have hM := wm 7 rfl (by omega) hD (fun h => by
        have h14 := (c15 h).1
        have h13 := hcl 14 st14 rfl h14 ⟨13, .data⟩ (by simp) rfl
        have h8 := hcl 13 st13 rfl h13 ⟨8, .data⟩ (by simp) rfl
        exact hcl 8 st8 rfl h8 ⟨7, .data⟩ (by simp) rfl)
      exact step_run rfl _ _ (run_load5 rfl (kn 6 21 (by omega) ⟨⟨6, .data⟩, by simp, rfl, rfl⟩ (by decide)) ((cell_same (hM.block bb hbl id) _).trans hcell)) ⟨_, rfl, hW.read (by omega)⟩
    · exact step_run rfl _ _ (run_conv5 rfl (kn 7 22 (by omega) ⟨⟨7, .data⟩, by simp, rfl, rfl⟩ (by decide)) hu) ⟨_, rfl, hW.read (by omega)⟩
    · exact step_run rfl _ _ (run_field24 rfl ((far 3 (by decide)).trans x3)) ⟨_, rfl, hW.read (by omega)⟩
    · have hM := wm 10 rfl (by omega) hD (fun h => by
        have h14 := (c15 h).1
        have h13 := hcl 14 st14 rfl h14 ⟨13, .data⟩ (by simp) rfl
        have h12 := hcl 13 st13 rfl h13 ⟨12, .data⟩ (by simp) rfl
        have h11 := hcl 12 st12 rfl h12 ⟨11, .data⟩ (by simp) rfl
        exact hcl 11 st11 rfl h11 ⟨10, .data⟩ (by simp) rfl)
      exact step_run rfl _ _ (run_load22 rfl (kn 9 24 (by omega) ⟨⟨9, .data⟩, by simp, rfl, rfl⟩ (by decide)) ((cell_same (hM.block db hdl id) _).trans hdie)) ⟨_, rfl, hW.read (by omega)⟩
    · exact step_run rfl _ _ (run_len22 rfl (kn 10 25 (by omega) ⟨⟨10, .data⟩, by simp, rfl, rfl⟩ (by decide))) ⟨_, rfl, hW.read (by omega)⟩
    · exact step_run rfl _ _ (run_shl1 rfl (kn 11 26 (by omega) ⟨⟨11, .data⟩, by simp, rfl, rfl⟩ (by decide)) hn) ⟨_, rfl, hW.read (by omega)⟩
    · exact step_run rfl _ _ (run_rem rfl (kn 8 23 (by omega) ⟨⟨8, .data⟩, by simp, rfl, rfl⟩ (by decide)) (kn 12 27 (by omega) ⟨⟨12, .data⟩, by simp, rfl, rfl⟩ (by decide)) (by omega) (by omega)) ⟨_, rfl, hW.read (by omega)⟩
    · have hM := wm 14 rfl (by omega) hD (fun h => (c15 h).1)
      have h15 : D 15 = false := by
        cases h : D 15 with
        | false => rfl
        | true => rw [(c15 h).1] at hD; cases hD
      refine step_run rfl _ _ (run_build34 rfl (kn 13 28 (by omega) ⟨⟨13, .data⟩, by simp, rfl, rfl⟩ (by decide))) ⟨_, rfl, fun j hj hd => ?_, fun _ _ => ⟨_, rfl, World.alloc_heap_new _ _⟩, fun _ => hM.alloc _, fun h => absurd ((show D 15 = true from h).symm.trans h15) (by decide), fun h => ?_⟩
      · have e : j ≠ 14 := by omega
        have e2 : (j == 14) = false := by simpa using e
        simp only [e2, Bool.false_or] at hd
        simp only [e, if_false]
        exact hW.c j hj hd
      · have h16 : D 16 = true := h
        have := hcl 16 st16 rfl h16 ⟨15, .data⟩ (by simp) rfl
        rw [h15] at this; cases this
    · have hM := hW.e hD
      have e0 := kn 0 15 (by omega) ⟨⟨0, .data⟩, by simp, rfl, rfl⟩ (by decide)
      have g14 : D 14 = true := hdep ⟨14, .data⟩ (by simp) rfl
      obtain ⟨b, hb1, hb2⟩ := hW.d g14 hD
      have e14 : ρ.eval (.tmp 29) = .slice (some ⟨b, 0, none⟩) 1 1 := (EV 14 29 (by decide) g14).trans hb1
      have hown' : w'.ownsRow base 3 1 vA k xs := own_same hown (fun r hr => by obtain ⟨_, cur, hc⟩ := own_block hown hr; exact hM.block r (at_ltS hc) id)
      refine wpList_append_own_at _ rfl (.tmp 15) (.tmp 29) 34 rfl base 3 j0 (.int .i64 0) 1 8 Tryd.underlying34 hj hy0 hy1 hy2 rfl (by decide) vA k xs e0 hown' ⟨b, 0, none⟩ 1 1 [.int .i64 (u % 2 ^ n : Nat)] e14 rfl ?_ (by intro u hu; simp only [List.mem_cons, List.not_mem_nil, or_false] at hu; subst hu; rfl) (by unfold maxLen; omega) (by omega) (by have := hM.size; omega) ?_
      · intro j v hjv
        have ea : Addr.add ⟨b, 0, none⟩ j = ⟨b, j, none⟩ := by simp [Addr.add]; omega
        rw [ea, cellsAt hb2]
        rcases j with _ | j
        · simpa using hjv
        · simp at hjv
      intro v w2 hown2 hgr _ _
      refine wpList_nil ⟨rfl, v, rfl, fun j hj hd => ?_, fun _ h => absurd h (by simp), fun h => absurd h (by simp), fun _ => ⟨w', hM, hgr, hown2⟩, fun h => ?_⟩
      · have e : j ≠ 15 := by omega
        have e2 : (j == 15) = false := by simpa using e
        simp only [e2, Bool.false_or] at hd
        simp only [e, if_false]
        exact hW.c j hj hd
      · have h16 : D 16 = true := h
        have := hcl 16 st16 rfl h16 ⟨15, .data⟩ (by simp) rfl
        rw [hD] at this; cases this
    · have g15 : D 15 = true := hdep ⟨15, .data⟩ (by simp) rfl
      have e15 := EV 15 30 (by decide) g15
      refine step_run rfl _ _ (run_assign rfl e15) ⟨_, rfl, fun j hj hd => ?_, fun _ h => absurd ((show D 15 = false from h).symm.trans g15) (by decide), fun h => absurd ((show D 15 = false from h).symm.trans g15) (by decide), fun _ => hW.f g15, fun _ => rfl⟩
      have e : j ≠ 16 := by omega
      have e2 : (j == 16) = false := by simpa using e
      simp only [e2, Bool.false_or] at hd
      simp only [e, if_false]
      exact hW.c j hj hd
  · intro vs D w' hall hW
    obtain ⟨W, h1, h2, h3⟩ := hW.f (hall 15 (by decide))
    exact hend vs w' W h1 h2 (by rw [hW.g (hall 16 (by decide))]; exact h3)

end Go.Proofs.YtdncppempgpooaaDoor

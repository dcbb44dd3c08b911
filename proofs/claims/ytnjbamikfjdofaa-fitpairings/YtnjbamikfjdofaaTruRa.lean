/- FitTrue: the drawn region of the document's truth: six numbers drawn one after the other, three differences. -/
import Derived.Test.YtnjbamikfjdofaaInvP
import Derived.Test.YtnjbamikfjdofaaTruA
import Derived.Test.YtnjbamikfjdofaaTruM
set_option linter.unusedSimpArgs false
set_option linter.unusedVariables false
namespace Go.Proofs.Ytnjbamikfjdofaa
open Go.RowKit Go.Shelf

@[reducible] def t0 : Oper := { dst := some 17, op := Op.move (Operand.tmp 3), type := 58, pos := "outright.go:78", after := #[], guard := none }
@[reducible] def t1 : Oper := { dst := some 18, op := Op.fieldAddr 27 (Operand.tmp 5) 1, type := 0, pos := "outright.go:78", after := #[], guard := none }
@[reducible] def t2 : Oper := { dst := some 19, op := Op.load 23 (Operand.tmp 18), type := 23, pos := "outright.go:78", after := #[{ on := 1, ground := Ground.data }], guard := none }
@[reducible] def t3 : Oper := { dst := some 20, op := Op.call { callee := Callee.value (Operand.func 39), args := #[Operand.tmp 17, Operand.tmp 19], argTypes := #[58, 23] }, type := 3, pos := "outright.go:78", after := #[{ on := 0, ground := Ground.data }, { on := 2, ground := Ground.data }], guard := none }
@[reducible] def t4 : Oper := { dst := some 21, op := Op.move (Operand.tmp 3), type := 58, pos := "outright.go:78", after := #[], guard := none }
@[reducible] def t5 : Oper := { dst := some 22, op := Op.fieldAddr 27 (Operand.tmp 6) 1, type := 0, pos := "outright.go:78", after := #[], guard := none }
@[reducible] def t6 : Oper := { dst := some 23, op := Op.load 23 (Operand.tmp 22), type := 23, pos := "outright.go:78", after := #[{ on := 5, ground := Ground.data }], guard := none }
@[reducible] def t7 : Oper := { dst := some 24, op := Op.call { callee := Callee.value (Operand.func 39), args := #[Operand.tmp 21, Operand.tmp 23], argTypes := #[58, 23] }, type := 3, pos := "outright.go:78", after := #[{ on := 4, ground := Ground.data }, { on := 6, ground := Ground.data }, { on := 3, ground := Ground.chain }], guard := none }
@[reducible] def t8 : Oper := { dst := some 25, op := Op.binOp BinOp.add 3 (Operand.tmp 20) (Operand.tmp 24) 3, type := 3, pos := "outright.go:78", after := #[{ on := 3, ground := Ground.data }, { on := 7, ground := Ground.data }], guard := none }
@[reducible] def t9 : Oper := { dst := some 26, op := Op.fieldAddr 25 (Operand.tmp 4) 0, type := 0, pos := "outright.go:78", after := #[], guard := none }
@[reducible] def t10 : Oper := { dst := some 27, op := Op.load 3 (Operand.tmp 26), type := 3, pos := "outright.go:78", after := #[{ on := 9, ground := Ground.data }], guard := none }
@[reducible] def t11 : Oper := { dst := some 28, op := Op.binOp BinOp.sub 3 (Operand.tmp 25) (Operand.tmp 27) 3, type := 3, pos := "outright.go:78", after := #[{ on := 8, ground := Ground.data }, { on := 10, ground := Ground.data }], guard := none }
@[reducible] def t12 : Oper := { dst := some 29, op := Op.move (Operand.tmp 10), type := 3, pos := "outright.go:78", after := #[], guard := none }
@[reducible] def t13 : Oper := { dst := some 30, op := Op.binOp BinOp.mul 3 (Operand.tmp 28) (Operand.tmp 29) 3, type := 3, pos := "outright.go:78", after := #[{ on := 11, ground := Ground.data }, { on := 12, ground := Ground.data }], guard := none }
@[reducible] def t14 : Oper := { dst := some 31, op := Op.move (Operand.tmp 3), type := 58, pos := "outright.go:78", after := #[], guard := none }
@[reducible] def t15 : Oper := { dst := some 32, op := Op.fieldAddr 27 (Operand.tmp 6) 2, type := 0, pos := "outright.go:78", after := #[], guard := none }
@[reducible] def t16 : Oper := { dst := some 33, op := Op.load 23 (Operand.tmp 32), type := 23, pos := "outright.go:78", after := #[{ on := 15, ground := Ground.data }], guard := none }
@[reducible] def t17 : Oper := { dst := some 34, op := Op.call { callee := Callee.value (Operand.func 39), args := #[Operand.tmp 31, Operand.tmp 33], argTypes := #[58, 23] }, type := 3, pos := "outright.go:78", after := #[{ on := 14, ground := Ground.data }, { on := 16, ground := Ground.data }, { on := 7, ground := Ground.chain }], guard := none }
@[reducible] def t18 : Oper := { dst := some 35, op := Op.move (Operand.tmp 3), type := 58, pos := "outright.go:78", after := #[], guard := none }
@[reducible] def t19 : Oper := { dst := some 36, op := Op.fieldAddr 27 (Operand.tmp 5) 2, type := 0, pos := "outright.go:78", after := #[], guard := none }
@[reducible] def t20 : Oper := { dst := some 37, op := Op.load 23 (Operand.tmp 36), type := 23, pos := "outright.go:78", after := #[{ on := 19, ground := Ground.data }], guard := none }
@[reducible] def t21 : Oper := { dst := some 38, op := Op.call { callee := Callee.value (Operand.func 39), args := #[Operand.tmp 35, Operand.tmp 37], argTypes := #[58, 23] }, type := 3, pos := "outright.go:78", after := #[{ on := 18, ground := Ground.data }, { on := 20, ground := Ground.data }, { on := 17, ground := Ground.chain }], guard := none }
@[reducible] def t22 : Oper := { dst := some 39, op := Op.binOp BinOp.sub 3 (Operand.tmp 34) (Operand.tmp 38) 3, type := 3, pos := "outright.go:78", after := #[{ on := 17, ground := Ground.data }, { on := 21, ground := Ground.data }], guard := none }
@[reducible] def t23 : Oper := { dst := some 40, op := Op.move (Operand.tmp 10), type := 3, pos := "outright.go:78", after := #[], guard := none }
@[reducible] def t24 : Oper := { dst := some 41, op := Op.binOp BinOp.mul 3 (Operand.tmp 39) (Operand.tmp 40) 3, type := 3, pos := "outright.go:78", after := #[{ on := 22, ground := Ground.data }, { on := 23, ground := Ground.data }], guard := none }
@[reducible] def t25 : Oper := { dst := some 42, op := Op.move (Operand.tmp 3), type := 58, pos := "outright.go:78", after := #[], guard := none }
@[reducible] def t26 : Oper := { dst := some 43, op := Op.fieldAddr 27 (Operand.tmp 6) 3, type := 0, pos := "outright.go:78", after := #[], guard := none }
@[reducible] def t27 : Oper := { dst := some 44, op := Op.load 23 (Operand.tmp 43), type := 23, pos := "outright.go:78", after := #[{ on := 26, ground := Ground.data }], guard := none }
@[reducible] def t28 : Oper := { dst := some 45, op := Op.call { callee := Callee.value (Operand.func 39), args := #[Operand.tmp 42, Operand.tmp 44], argTypes := #[58, 23] }, type := 3, pos := "outright.go:78", after := #[{ on := 25, ground := Ground.data }, { on := 27, ground := Ground.data }, { on := 21, ground := Ground.chain }], guard := none }
@[reducible] def t29 : Oper := { dst := some 46, op := Op.move (Operand.tmp 3), type := 58, pos := "outright.go:78", after := #[], guard := none }
@[reducible] def t30 : Oper := { dst := some 47, op := Op.fieldAddr 27 (Operand.tmp 5) 3, type := 0, pos := "outright.go:78", after := #[], guard := none }
@[reducible] def t31 : Oper := { dst := some 48, op := Op.load 23 (Operand.tmp 47), type := 23, pos := "outright.go:78", after := #[{ on := 30, ground := Ground.data }], guard := none }
@[reducible] def t32 : Oper := { dst := some 49, op := Op.call { callee := Callee.value (Operand.func 39), args := #[Operand.tmp 46, Operand.tmp 48], argTypes := #[58, 23] }, type := 3, pos := "outright.go:78", after := #[{ on := 29, ground := Ground.data }, { on := 31, ground := Ground.data }, { on := 28, ground := Ground.chain }], guard := none }
@[reducible] def t33 : Oper := { dst := some 50, op := Op.binOp BinOp.sub 3 (Operand.tmp 45) (Operand.tmp 49) 3, type := 3, pos := "outright.go:78", after := #[{ on := 28, ground := Ground.data }, { on := 32, ground := Ground.data }], guard := none }
@[reducible] def t34 : Oper := { dst := some 51, op := Op.move (Operand.tmp 10), type := 3, pos := "outright.go:78", after := #[], guard := none }
@[reducible] def t35 : Oper := { dst := some 52, op := Op.binOp BinOp.mul 3 (Operand.tmp 50) (Operand.tmp 51) 3, type := 3, pos := "outright.go:78", after := #[{ on := 33, ground := Ground.data }, { on := 34, ground := Ground.data }], guard := none }
@[reducible] def t36 : Oper := { dst := some 53, op := Op.build 61 #[(0, Operand.tmp 30), (1, Operand.tmp 41), (2, Operand.tmp 52)], type := 61, pos := "outright.go:78", after := #[{ on := 13, ground := Ground.data }, { on := 24, ground := Ground.data }, { on := 35, ground := Ground.data }], guard := none }
@[reducible] def t37 : Oper := { dst := none, op := Op.store 61 (Operand.tmp 8) (Operand.tmp 53), type := 0, pos := "outright.go:78", after := #[{ on := 36, ground := Ground.data }, { on := 32, ground := Ground.chain }, { on := 0, ground := Ground.phase }, { on := 1, ground := Ground.phase }, { on := 2, ground := Ground.phase }, { on := 3, ground := Ground.phase }, { on := 4, ground := Ground.phase }, { on := 5, ground := Ground.phase }, { on := 6, ground := Ground.phase }, { on := 7, ground := Ground.phase }, { on := 8, ground := Ground.phase }, { on := 9, ground := Ground.phase }, { on := 10, ground := Ground.phase }, { on := 11, ground := Ground.phase }, { on := 12, ground := Ground.phase }, { on := 13, ground := Ground.phase }, { on := 14, ground := Ground.phase }, { on := 15, ground := Ground.phase }, { on := 16, ground := Ground.phase }, { on := 17, ground := Ground.phase }, { on := 18, ground := Ground.phase }, { on := 19, ground := Ground.phase }, { on := 20, ground := Ground.phase }, { on := 21, ground := Ground.phase }, { on := 22, ground := Ground.phase }, { on := 23, ground := Ground.phase }, { on := 24, ground := Ground.phase }, { on := 25, ground := Ground.phase }, { on := 26, ground := Ground.phase }, { on := 27, ground := Ground.phase }, { on := 28, ground := Ground.phase }, { on := 29, ground := Ground.phase }, { on := 30, ground := Ground.phase }, { on := 31, ground := Ground.phase }, { on := 32, ground := Ground.phase }, { on := 33, ground := Ground.phase }, { on := 34, ground := Ground.phase }, { on := 35, ground := Ground.phase }, { on := 36, ground := Ground.phase }], guard := none }
@[reducible] def opsT : List Oper := [t0, t1, t2, t3, t4, t5, t6, t7, t8, t9, t10, t11, t12, t13, t14, t15, t16, t17, t18, t19, t20, t21, t22, t23, t24, t25, t26, t27, t28, t29, t30, t31, t32, t33, t34, t35, t36, t37]
@[reducible] def dsT : List (Nat × Nat) := [(0, 17), (1, 18), (2, 19), (3, 20), (4, 21), (5, 22), (6, 23), (7, 24), (8, 25), (9, 26), (10, 27), (11, 28), (12, 29), (13, 30), (14, 31), (15, 32), (16, 33), (17, 34), (18, 35), (19, 36), (20, 37), (21, 38), (22, 39), (23, 40), (24, 41), (25, 42), (26, 43), (27, 44), (28, 45), (29, 46), (30, 47), (31, 48), (32, 49), (33, 50), (34, 51), (35, 52), (36, 53)]

section
variable {ops : Array Oper} {o : Oper} {a : Act} {w : World} {K : Act → World → Prop} {x y z : Operand}
theorem step_val (hg : o.guard = none) (v : Value) (hrun : (execOp a.eval o).run Try.prog w = .ok (.value v) w) (h : K (a.put o.dst v) w) : wpList Try.prog ops (only K) [o] a w := step_run hg v w hrun h
theorem run_field27_1 (hop : o.op = .fieldAddr 27 x 1) {b : Nat} (hx : a.eval x = .pointer (some ⟨b, 0, none⟩)) : (execOp a.eval o).run Try.prog w = .ok (.value (.pointer (some ⟨b, 1, none⟩))) w := by
  simp only [execOp, hop, hx]; kernel_rfl
theorem run_field27_2 (hop : o.op = .fieldAddr 27 x 2) {b : Nat} (hx : a.eval x = .pointer (some ⟨b, 0, none⟩)) : (execOp a.eval o).run Try.prog w = .ok (.value (.pointer (some ⟨b, 3, none⟩))) w := by
  simp only [execOp, hop, hx]; kernel_rfl
theorem run_field27_3 (hop : o.op = .fieldAddr 27 x 3) {b : Nat} (hx : a.eval x = .pointer (some ⟨b, 0, none⟩)) : (execOp a.eval o).run Try.prog w = .ok (.value (.pointer (some ⟨b, 5, none⟩))) w := by
  simp only [execOp, hop, hx]; kernel_rfl
theorem run_field25_0 (hop : o.op = .fieldAddr 25 x 0) {b : Nat} (hx : a.eval x = .pointer (some ⟨b, 0, none⟩)) : (execOp a.eval o).run Try.prog w = .ok (.value (.pointer (some ⟨b, 0, none⟩))) w := by
  simp only [execOp, hop, hx]; kernel_rfl
theorem run_add (hop : o.op = .binOp .add 3 x y 3) {A B C : Int} (hx : a.eval x = .int .i64 A) (hy : a.eval y = .int .i64 B) (hC : A + B = C) (h1 : -9000000000000000000 ≤ C) (h2 : C ≤ 9000000000000000000) : (execOp a.eval o).run Try.prog w = .ok (.value (.int .i64 C)) w := by
  have e : IntKind.i64.wrap (A + B) = C := by rw [hC]; exact IntWalk.i64_in _ (by omega)
  simp only [execOp, hop, hx, hy]
  rw [← e]; rfl
theorem run_sub (hop : o.op = .binOp .sub 3 x y 3) {A B C : Int} (hx : a.eval x = .int .i64 A) (hy : a.eval y = .int .i64 B) (hC : A - B = C) (h1 : -9000000000000000000 ≤ C) (h2 : C ≤ 9000000000000000000) : (execOp a.eval o).run Try.prog w = .ok (.value (.int .i64 C)) w := by
  have e : IntKind.i64.wrap (A - B) = C := by rw [hC]; exact IntWalk.i64_in _ (by omega)
  simp only [execOp, hop, hx, hy]
  rw [← e]; rfl
theorem run_mul (hop : o.op = .binOp .mul 3 x y 3) {A B C : Int} (hx : a.eval x = .int .i64 A) (hy : a.eval y = .int .i64 B) (hC : A * B = C) (h1 : -9000000000000000000 ≤ C) (h2 : C ≤ 9000000000000000000) : (execOp a.eval o).run Try.prog w = .ok (.value (.int .i64 C)) w := by
  have e : IntKind.i64.wrap (A * B) = C := by rw [hC]; exact IntWalk.i64_in _ (by omega)
  simp only [execOp, hop, hx, hy]
  rw [← e]; rfl
theorem run_load3 (hop : o.op = .load 3 x) {b k : Nat} (hx : a.eval x = .pointer (some ⟨b, k, none⟩)) {v : Value} (hc : w.cell? ⟨b, k, none⟩ = some v) : (execOp a.eval o).run Try.prog w = .ok (.value v) w := by
  simp only [execOp, hop, hx]
  go_simp
  done
theorem run_build61 (hop : o.op = .build 61 #[(0, x), (1, y), (2, z)]) {A B C : Int} (hx : a.eval x = .int .i64 A) (hy : a.eval y = .int .i64 B) (hz : a.eval z = .int .i64 C) : (execOp a.eval o).run Try.prog w = .ok (.value (.agg #[.int .i64 A, .int .i64 B, .int .i64 C])) w := by
  simp only [execOp, hop]
  have e : (#[(0, x), (1, y), (2, z)] : Array (Nat × Operand)).map (fun (i, x) => (i, a.eval x)) = #[(0, .int .i64 A), (1, .int .i64 B), (2, .int .i64 C)] := by simp [hx, hy, hz]
  rw [e]; show _ = _; kernel_rfl
end

def InR (s : Int × Int) (v : Value) : Prop := ∃ r : Int, s.1 ≤ r ∧ r ≤ s.2 ∧ v = .int .i64 r
def InX (s : Int × Int) (E : Int) (v : Value) : Prop := ∃ r : Int, s.1 ≤ r ∧ r ≤ s.2 ∧ v = .int .i64 (r * E)
def InA (p : Ply) (t u : Edg) (E : Int) (cs : Array Value) : Prop :=
  ∃ a b c : Int, (offR t u p.len).1 ≤ a ∧ a ≤ (offR t u p.len).2 ∧ (wideR t u).1 ≤ b ∧ b ≤ (wideR t u).2 ∧ (deepR t u).1 ≤ c ∧ c ≤ (deepR t u).2 ∧ cs = #[.int .i64 (a * E), .int .i64 (b * E), .int .i64 (c * E)]
/-- What each operation yields. -/
def PT (p : Ply) (t u : Edg) (db b4 b5 b6 : Nat) (E : Int) : Nat → Value → Prop
  | 0 => fun v => v = .pointer (some ⟨db, 0, none⟩)
  | 1 => fun v => v = .pointer (some ⟨b5, 1, none⟩)
  | 2 => fun v => v = spV t.a
  | 3 => fun v => InR t.a v
  | 4 => fun v => v = .pointer (some ⟨db, 0, none⟩)
  | 5 => fun v => v = .pointer (some ⟨b6, 1, none⟩)
  | 6 => fun v => v = spV u.a
  | 7 => fun v => InR u.a v
  | 8 => fun v => InR (plusR t.a u.a) v
  | 9 => fun v => v = .pointer (some ⟨b4, 0, none⟩)
  | 10 => fun v => v = .int .i64 p.len
  | 11 => fun v => InR (offR t u p.len) v
  | 12 => fun v => v = .int .i64 E
  | 13 => fun v => InX (offR t u p.len) E v
  | 14 => fun v => v = .pointer (some ⟨db, 0, none⟩)
  | 15 => fun v => v = .pointer (some ⟨b6, 3, none⟩)
  | 16 => fun v => v = spV u.w
  | 17 => fun v => InR u.w v
  | 18 => fun v => v = .pointer (some ⟨db, 0, none⟩)
  | 19 => fun v => v = .pointer (some ⟨b5, 3, none⟩)
  | 20 => fun v => v = spV t.w
  | 21 => fun v => InR t.w v
  | 22 => fun v => InR (wideR t u) v
  | 23 => fun v => v = .int .i64 E
  | 24 => fun v => InX (wideR t u) E v
  | 25 => fun v => v = .pointer (some ⟨db, 0, none⟩)
  | 26 => fun v => v = .pointer (some ⟨b6, 5, none⟩)
  | 27 => fun v => v = spV u.d
  | 28 => fun v => InR u.d v
  | 29 => fun v => v = .pointer (some ⟨db, 0, none⟩)
  | 30 => fun v => v = .pointer (some ⟨b5, 5, none⟩)
  | 31 => fun v => v = spV t.d
  | 32 => fun v => InR t.d v
  | 33 => fun v => InR (deepR t u) v
  | 34 => fun v => v = .int .i64 E
  | 35 => fun v => InX (deepR t u) E v
  | 36 => fun v => ∃ cs, v = .agg cs ∧ InA p t u E cs
  | _ => fun _ => True

/-- How many numbers have been drawn. -/
def cntT (D : Nat → Bool) : Nat := (D 3).toNat + (D 7).toNat + (D 17).toNat + (D 21).toNat + (D 28).toNat + (D 32).toNat
theorem cntT_le (D : Nat → Bool) : cntT D ≤ 6 := by
  unfold cntT
  have h := fun i => Bool.toNat_le (D i)
  have := h 3; have := h 7; have := h 17; have := h 21; have := h 28; have := h 32
  omega
/-- The world, however far the region has come. -/
structure WT (p : Ply) (t u : Edg) (db b8 : Nat) (T8 : TypeId) (E : Int) (ao : Option Addr) (n c k0 : Nat) (w : World) (D : Nat → Bool) (w' : World) : Prop where
  m : Mod (fun b => b = db ∨ b = b8) w w'
  d : ∃ k, k ≤ k0 + cntT D ∧ DrawAt w' db ao n c k
  z : D 37 = false → ∃ old : Array Value, old.size = 3 ∧ w'.heap[b8]? = some (.cells old T8)
  x : D 37 = true → ∃ cs, InA p t u E cs ∧ w'.heap[b8]? = some (.cells cs T8)

variable {p : Ply} {t u : Edg} {db b4 b5 b6 b8 : Nat} {T8 : TypeId} {E : Int} {ao : Option Addr} {n c k0 : Nat} {w w' : World} {D : Nat → Bool}
theorem WT.same (h : WT p t u db b8 T8 E ao n c k0 w D w') {i : Nat} (hi : i ≠ 3 ∧ i ≠ 7 ∧ i ≠ 17 ∧ i ≠ 21 ∧ i ≠ 28 ∧ i ≠ 32 ∧ i ≠ 37) : WT p t u db b8 T8 E ao n c k0 w (fun j => j == i || D j) w' := by
  obtain ⟨i1, i2, i3, i4, i5, i6, i7⟩ := hi
  have e : ∀ j, j ≠ i → (j == i || D j) = D j := fun j hj => by simp [hj]
  refine ⟨h.m, ?_, fun hz => h.z (by rw [← e 37 (Ne.symm i7)]; exact hz), fun hz => h.x (by rw [← e 37 (Ne.symm i7)]; exact hz)⟩
  have : cntT (fun j => j == i || D j) = cntT D := by
    unfold cntT
    simp only [e 3 (Ne.symm i1), e 7 (Ne.symm i2), e 17 (Ne.symm i3), e 21 (Ne.symm i4), e 28 (Ne.symm i5), e 32 (Ne.symm i6)]
  rw [this]; exact h.d
theorem WT.call (h : WT p t u db b8 T8 E ao n c k0 w D w') {i k : Nat} {w2 : World} (hi : i = 3 ∨ i = 7 ∨ i = 17 ∨ i = 21 ∨ i = 28 ∨ i = 32) (hD : D i = false) (hne : b8 ≠ db) (hk : k ≤ k0 + cntT D) (hm : Mod (fun b => b = db) w' w2) (hd : DrawAt w2 db ao n c (k + 1)) : WT p t u db b8 T8 E ao n c k0 w (fun j => j == i || D j) w2 := by
  have e7 : (37 == i || D 37) = D 37 := by rcases hi with rfl | rfl | rfl | rfl | rfl | rfl <;> rfl
  refine ⟨h.m.trans (hm.wider fun _ _ e => .inl e), ⟨k + 1, ?_, hd⟩, fun hz => ?_, fun hz => ?_⟩
  · have : cntT (fun j => j == i || D j) = cntT D + 1 := by
      unfold cntT
      rcases hi with rfl | rfl | rfl | rfl | rfl | rfl <;> simp [hD] <;> omega
    omega
  · obtain ⟨old, h1, h2⟩ := h.z (by rw [← e7]; exact hz)
    exact ⟨old, h1, hm.at h2 hne⟩
  · obtain ⟨cs, h1, h2⟩ := h.x (by rw [← e7]; exact hz)
    exact ⟨cs, h1, hm.at h2 hne⟩
theorem WT.store (h : WT p t u db b8 T8 E ao n c k0 w D w') {cs : Array Value} (hD : D 37 = false) (hne : b8 ≠ db) (hx : InA p t u E cs) : WT p t u db b8 T8 E ao n c k0 w (fun j => j == 37 || D j) (w'.setRow b8 cs) := by
  obtain ⟨old, h1, h2⟩ := h.z hD
  obtain ⟨k, hk, hd⟩ := h.d
  have hlt := (Array.getElem?_eq_some_iff.1 h2).1
  have hm : Mod (fun b => b = b8) w' (w'.setRow b8 cs) := ⟨rfl, rfl, rfl, by simp, fun i hi hn => setRow_other _ _ _ _ hn⟩
  refine ⟨h.m.trans (hm.wider fun _ _ e => .inr e), ⟨k, ?_, ?_⟩, (fun hz => by simp at hz), fun _ => ⟨cs, hx, setRow_heap _ _ _ _ _ _ h2⟩⟩
  · have : cntT (fun j => j == 37 || D j) = cntT D := rfl
    rw [this]; exact hk
  · exact hm.at hd (fun e => hne e.symm)

theorem range2 {b k : Nat} {cs : Array Value} {T : TypeId} {x y : Value} (h : w.heap[b]? = some (.cells cs T)) (h1 : cs[k]? = some x) (h2 : cs[k + 1]? = some y) : w.rangeAt b k [x, y] := by
  intro j v hj
  rw [cellsAt h]
  match j, hj with
  | 0, hj => rw [← hj]; exact h1
  | 1, hj => rw [← hj]; exact h2
  | j + 2, hj => simp at hj


set_option maxRecDepth 100000 in
set_option maxHeartbeats 8000000 in
theorem step_truth0 {a0 : Act} {w0 : World} (x3 : a0.eval (.tmp 3) = .pointer (some ⟨db, 0, none⟩)) (x4 : a0.eval (.tmp 4) = .pointer (some ⟨b4, 0, none⟩)) (x5 : a0.eval (.tmp 5) = .pointer (some ⟨b5, 0, none⟩)) (x6 : a0.eval (.tmp 6) = .pointer (some ⟨b6, 0, none⟩)) (x8 : a0.eval (.tmp 8) = .pointer (some ⟨b8, 0, none⟩)) (x10 : a0.eval (.tmp 10) = .int .i64 E)
    (h4 : w.heap[b4]? = some (.cells (plC p) 25)) (h5 : w.heap[b5]? = some (.cells (edC t) 27)) (h6 : w.heap[b6]? = some (.cells (edC u) 27))
    (n4 : b4 ≠ db ∧ b4 ≠ b8) (n5 : b5 ≠ db ∧ b5 ≠ b8) (n6 : b6 ≠ db ∧ b6 ≠ b8) (n8 : b8 ≠ db)
    (hR : RawAt w0 ao n) (hw0 : Mod noB w0 w) (hd0 : w0.heap.size ≤ db) (h80 : w0.heap.size ≤ b8) (hk : k0 ≤ 900)
    (ot : Ordered t) (ou : Ordered u) (st : ESmall 20000 t) (su : ESmall 20000 u) (hp : 0 ≤ p.len ∧ p.len ≤ 10000) (hE : 0 ≤ E ∧ E ≤ 2000) : ∀ (D : Nat → Bool) (i : Nat) (o : Oper) (ρ : Act) (w' : World), opsT[i]? = some o → D i = false → (∀ e ∈ o.after, Region.binds .any e = true → D e.on = true) →
      (∀ j s, (j, s) ∈ dsT → D j = true → PT p t u db b4 b5 b6 E j (ρ.eval (.tmp s))) → (∀ s, (∀ x ∈ dsT, x.2 = s → D x.1 = false) → ρ.eval (.tmp s) = a0.eval (.tmp s)) → WT p t u db b8 T8 E ao n c k0 w D w' →
      0 ≤ i → i < 13 → wpList Try.prog opsT.toArray (only fun a' w2 => (∃ v, a' = ρ.put o.dst v ∧ (o.dst ≠ none → PT p t u db b4 b5 b6 E i v)) ∧ WT p t u db b8 T8 E ao n c k0 w (fun j => j == i || D j) w2) [o] ρ w' := by
  obtain ⟨⟨ta1, ta2⟩, ⟨tw1, tw2⟩, ⟨td1, td2⟩⟩ := st
  obtain ⟨⟨ua1, ua2⟩, ⟨uw1, uw2⟩, ⟨ud1, ud2⟩⟩ := su
  intro D i o ρ w' ho hD hdep EV EO hW hlo hlt
  have g4 : w'.heap[b4]? = some (.cells (plC p) 25) := hW.m.at h4 (fun e => by rcases e with e | e; exact n4.1 e; exact n4.2 e)
  have g5 : w'.heap[b5]? = some (.cells (edC t) 27) := hW.m.at h5 (fun e => by rcases e with e | e; exact n5.1 e; exact n5.2 e)
  have g6 : w'.heap[b6]? = some (.cells (edC u) 27) := hW.m.at h6 (fun e => by rcases e with e | e; exact n6.1 e; exact n6.2 e)
  have e3 : ρ.eval (.tmp 3) = .pointer (some ⟨db, 0, none⟩) := (EO 3 (fun x hx e => absurd (e ▸ List.mem_map.2 ⟨x, hx, rfl⟩ : 3 ∈ dsT.map Prod.snd) (by decide))).trans x3
  have e4 : ρ.eval (.tmp 4) = .pointer (some ⟨b4, 0, none⟩) := (EO 4 (fun x hx e => absurd (e ▸ List.mem_map.2 ⟨x, hx, rfl⟩ : 4 ∈ dsT.map Prod.snd) (by decide))).trans x4
  have e5 : ρ.eval (.tmp 5) = .pointer (some ⟨b5, 0, none⟩) := (EO 5 (fun x hx e => absurd (e ▸ List.mem_map.2 ⟨x, hx, rfl⟩ : 5 ∈ dsT.map Prod.snd) (by decide))).trans x5
  have e6 : ρ.eval (.tmp 6) = .pointer (some ⟨b6, 0, none⟩) := (EO 6 (fun x hx e => absurd (e ▸ List.mem_map.2 ⟨x, hx, rfl⟩ : 6 ∈ dsT.map Prod.snd) (by decide))).trans x6
  have e8 : ρ.eval (.tmp 8) = .pointer (some ⟨b8, 0, none⟩) := (EO 8 (fun x hx e => absurd (e ▸ List.mem_map.2 ⟨x, hx, rfl⟩ : 8 ∈ dsT.map Prod.snd) (by decide))).trans x8
  have e10 : ρ.eval (.tmp 10) = .int .i64 E := (EO 10 (fun x hx e => absurd (e ▸ List.mem_map.2 ⟨x, hx, rfl⟩ : 10 ∈ dsT.map Prod.snd) (by decide))).trans x10
  have hof : ∀ s : Int × Int, s.1 ≤ s.2 → Small 1000000 s → D i = false → i = 3 ∨ i = 7 ∨ i = 17 ∨ i = 21 ∨ i = 28 ∨ i = 32 → Calls Try.prog 39 #[.pointer (some ⟨db, 0, none⟩), spV s] w' fun e w2 => ∃ v, e = .returned v ∧ InR s v ∧ WT p t u db b8 T8 E ao n c k0 w (fun j => j == i || D j) w2 := by
    intro s hs hsm hDi hi
    obtain ⟨k, hk1, hk2⟩ := hW.d
    have := cntT_le D
    refine (of_any w0 w' db ao n c k s hR (hw0.then hW.m fun i hi e => by rcases e with e | e <;> omega) hd0 hk2 (by omega) hs hsm).mono ?_
    rintro e w2 ⟨r, r1, r2, rfl, hm, hd2⟩
    exact ⟨_, rfl, ⟨r, r1, r2, rfl⟩, hW.call hi hDi n8 hk1 hm hd2⟩
  clear EO x3 x4 x5 x6 x8 x10 h4 h5 h6 hw0 hR
  rcases (by omega : i = 0 ∨ i = 1 ∨ i = 2 ∨ i = 3 ∨ i = 4 ∨ i = 5 ∨ i = 6 ∨ i = 7 ∨ i = 8 ∨ i = 9 ∨ i = 10 ∨ i = 11 ∨ i = 12) with rfl | rfl | rfl | rfl | rfl | rfl | rfl | rfl | rfl | rfl | rfl | rfl | rfl
  all_goals (obtain rfl := Option.some.inj ho)
  · exact step_move rfl (.tmp 3) rfl ⟨⟨_, rfl, fun _ => e3⟩, hW.same (by omega)⟩
  · exact step_val rfl _ (run_field27_1 rfl e5) ⟨⟨_, rfl, fun _ => rfl⟩, hW.same (by omega)⟩
  · have v1 := EV 1 18 (by simp) (hdep ⟨1, .data⟩ (by simp) rfl); change _ = _ at v1
    exact wpList_load_mid rfl 23 (.tmp 18) rfl b5 1 v1 [.int .i64 t.a.1, .int .i64 t.a.2] _ (range2 g5 rfl rfl) Try.underlying23 rfl (by kernel_rfl) ⟨rfl, ⟨⟨_, rfl, fun _ => rfl⟩, hW.same (by omega)⟩⟩
  · have v0 := EV 0 17 (by simp) (hdep ⟨0, .data⟩ (by simp) rfl); change _ = _ at v0; have v2 := EV 2 19 (by simp) (hdep ⟨2, .data⟩ (by simp) rfl); change _ = _ at v2
    refine step_call rfl 39 _ _ rfl (fun _ _ => by kernel_rfl) ?_
    have hargs : (#[Operand.tmp 17, Operand.tmp 19] : Array Operand).map ρ.eval = #[.pointer (some ⟨db, 0, none⟩), spV t.a] := by
      simp only [List.map_toArray, List.map_cons, List.map_nil, v0, v2]
    rw [hargs]
    refine (hof t.a ot.a ⟨⟨by omega, by omega⟩, by omega, by omega⟩ hD (by omega)).mono fun e w2 hh => ?_
    obtain ⟨v, rfl, hv, hW2⟩ := hh
    exact ⟨v, rfl, ⟨_, rfl, fun _ => hv⟩, hW2⟩
  · exact step_move rfl (.tmp 3) rfl ⟨⟨_, rfl, fun _ => e3⟩, hW.same (by omega)⟩
  · exact step_val rfl _ (run_field27_1 rfl e6) ⟨⟨_, rfl, fun _ => rfl⟩, hW.same (by omega)⟩
  · have v5 := EV 5 22 (by simp) (hdep ⟨5, .data⟩ (by simp) rfl); change _ = _ at v5
    exact wpList_load_mid rfl 23 (.tmp 22) rfl b6 1 v5 [.int .i64 u.a.1, .int .i64 u.a.2] _ (range2 g6 rfl rfl) Try.underlying23 rfl (by kernel_rfl) ⟨rfl, ⟨⟨_, rfl, fun _ => rfl⟩, hW.same (by omega)⟩⟩
  · have v4 := EV 4 21 (by simp) (hdep ⟨4, .data⟩ (by simp) rfl); change _ = _ at v4; have v6 := EV 6 23 (by simp) (hdep ⟨6, .data⟩ (by simp) rfl); change _ = _ at v6
    refine step_call rfl 39 _ _ rfl (fun _ _ => by kernel_rfl) ?_
    have hargs : (#[Operand.tmp 21, Operand.tmp 23] : Array Operand).map ρ.eval = #[.pointer (some ⟨db, 0, none⟩), spV u.a] := by
      simp only [List.map_toArray, List.map_cons, List.map_nil, v4, v6]
    rw [hargs]
    refine (hof u.a ou.a ⟨⟨by omega, by omega⟩, by omega, by omega⟩ hD (by omega)).mono fun e w2 hh => ?_
    obtain ⟨v, rfl, hv, hW2⟩ := hh
    exact ⟨v, rfl, ⟨_, rfl, fun _ => hv⟩, hW2⟩
  · have v3 := EV 3 20 (by simp) (hdep ⟨3, .data⟩ (by simp) rfl); have v7 := EV 7 24 (by simp) (hdep ⟨7, .data⟩ (by simp) rfl)
    obtain ⟨r, r1, r2, v3⟩ := v3
    obtain ⟨q, q1, q2, v7⟩ := v7
    exact step_val rfl _ (run_add rfl v3 v7 rfl (by simp only [offR, wideR, deepR, lessR, plusR] at *; omega) (by simp only [offR, wideR, deepR, lessR, plusR] at *; omega)) ⟨⟨_, rfl, fun _ => ⟨r + q, by simp only [offR, wideR, deepR, lessR, plusR] at *; omega, by simp only [offR, wideR, deepR, lessR, plusR] at *; omega, rfl⟩⟩, hW.same (by omega)⟩
  · exact step_val rfl _ (run_field25_0 rfl e4) ⟨⟨_, rfl, fun _ => rfl⟩, hW.same (by omega)⟩
  · have v9 := EV 9 26 (by simp) (hdep ⟨9, .data⟩ (by simp) rfl); change _ = _ at v9
    exact step_val rfl _ (run_load3 rfl v9 (cellsAt g4 0)) ⟨⟨_, rfl, fun _ => rfl⟩, hW.same (by omega)⟩
  · have v8 := EV 8 25 (by simp) (hdep ⟨8, .data⟩ (by simp) rfl); have v10 := EV 10 27 (by simp) (hdep ⟨10, .data⟩ (by simp) rfl)
    obtain ⟨r, r1, r2, v8⟩ := v8
    change _ = _ at v10
    exact step_val rfl _ (run_sub rfl v8 v10 rfl (by simp only [offR, wideR, deepR, lessR, plusR] at *; omega) (by simp only [offR, wideR, deepR, lessR, plusR] at *; omega)) ⟨⟨_, rfl, fun _ => ⟨r - p.len, by simp only [offR, wideR, deepR, lessR, plusR] at *; omega, by simp only [offR, wideR, deepR, lessR, plusR] at *; omega, rfl⟩⟩, hW.same (by omega)⟩
  · exact step_move rfl (.tmp 10) rfl ⟨⟨_, rfl, fun _ => e10⟩, hW.same (by omega)⟩
set_option maxRecDepth 100000 in
set_option maxHeartbeats 8000000 in
theorem step_truth1 {a0 : Act} {w0 : World} (x3 : a0.eval (.tmp 3) = .pointer (some ⟨db, 0, none⟩)) (x4 : a0.eval (.tmp 4) = .pointer (some ⟨b4, 0, none⟩)) (x5 : a0.eval (.tmp 5) = .pointer (some ⟨b5, 0, none⟩)) (x6 : a0.eval (.tmp 6) = .pointer (some ⟨b6, 0, none⟩)) (x8 : a0.eval (.tmp 8) = .pointer (some ⟨b8, 0, none⟩)) (x10 : a0.eval (.tmp 10) = .int .i64 E)
    (h4 : w.heap[b4]? = some (.cells (plC p) 25)) (h5 : w.heap[b5]? = some (.cells (edC t) 27)) (h6 : w.heap[b6]? = some (.cells (edC u) 27))
    (n4 : b4 ≠ db ∧ b4 ≠ b8) (n5 : b5 ≠ db ∧ b5 ≠ b8) (n6 : b6 ≠ db ∧ b6 ≠ b8) (n8 : b8 ≠ db)
    (hR : RawAt w0 ao n) (hw0 : Mod noB w0 w) (hd0 : w0.heap.size ≤ db) (h80 : w0.heap.size ≤ b8) (hk : k0 ≤ 900)
    (ot : Ordered t) (ou : Ordered u) (st : ESmall 20000 t) (su : ESmall 20000 u) (hp : 0 ≤ p.len ∧ p.len ≤ 10000) (hE : 0 ≤ E ∧ E ≤ 2000) : ∀ (D : Nat → Bool) (i : Nat) (o : Oper) (ρ : Act) (w' : World), opsT[i]? = some o → D i = false → (∀ e ∈ o.after, Region.binds .any e = true → D e.on = true) →
      (∀ j s, (j, s) ∈ dsT → D j = true → PT p t u db b4 b5 b6 E j (ρ.eval (.tmp s))) → (∀ s, (∀ x ∈ dsT, x.2 = s → D x.1 = false) → ρ.eval (.tmp s) = a0.eval (.tmp s)) → WT p t u db b8 T8 E ao n c k0 w D w' →
      13 ≤ i → i < 26 → wpList Try.prog opsT.toArray (only fun a' w2 => (∃ v, a' = ρ.put o.dst v ∧ (o.dst ≠ none → PT p t u db b4 b5 b6 E i v)) ∧ WT p t u db b8 T8 E ao n c k0 w (fun j => j == i || D j) w2) [o] ρ w' := by
  obtain ⟨⟨ta1, ta2⟩, ⟨tw1, tw2⟩, ⟨td1, td2⟩⟩ := st
  obtain ⟨⟨ua1, ua2⟩, ⟨uw1, uw2⟩, ⟨ud1, ud2⟩⟩ := su
  intro D i o ρ w' ho hD hdep EV EO hW hlo hlt
  have g4 : w'.heap[b4]? = some (.cells (plC p) 25) := hW.m.at h4 (fun e => by rcases e with e | e; exact n4.1 e; exact n4.2 e)
  have g5 : w'.heap[b5]? = some (.cells (edC t) 27) := hW.m.at h5 (fun e => by rcases e with e | e; exact n5.1 e; exact n5.2 e)
  have g6 : w'.heap[b6]? = some (.cells (edC u) 27) := hW.m.at h6 (fun e => by rcases e with e | e; exact n6.1 e; exact n6.2 e)
  have e3 : ρ.eval (.tmp 3) = .pointer (some ⟨db, 0, none⟩) := (EO 3 (fun x hx e => absurd (e ▸ List.mem_map.2 ⟨x, hx, rfl⟩ : 3 ∈ dsT.map Prod.snd) (by decide))).trans x3
  have e4 : ρ.eval (.tmp 4) = .pointer (some ⟨b4, 0, none⟩) := (EO 4 (fun x hx e => absurd (e ▸ List.mem_map.2 ⟨x, hx, rfl⟩ : 4 ∈ dsT.map Prod.snd) (by decide))).trans x4
  have e5 : ρ.eval (.tmp 5) = .pointer (some ⟨b5, 0, none⟩) := (EO 5 (fun x hx e => absurd (e ▸ List.mem_map.2 ⟨x, hx, rfl⟩ : 5 ∈ dsT.map Prod.snd) (by decide))).trans x5
  have e6 : ρ.eval (.tmp 6) = .pointer (some ⟨b6, 0, none⟩) := (EO 6 (fun x hx e => absurd (e ▸ List.mem_map.2 ⟨x, hx, rfl⟩ : 6 ∈ dsT.map Prod.snd) (by decide))).trans x6
  have e8 : ρ.eval (.tmp 8) = .pointer (some ⟨b8, 0, none⟩) := (EO 8 (fun x hx e => absurd (e ▸ List.mem_map.2 ⟨x, hx, rfl⟩ : 8 ∈ dsT.map Prod.snd) (by decide))).trans x8
  have e10 : ρ.eval (.tmp 10) = .int .i64 E := (EO 10 (fun x hx e => absurd (e ▸ List.mem_map.2 ⟨x, hx, rfl⟩ : 10 ∈ dsT.map Prod.snd) (by decide))).trans x10
  have hof : ∀ s : Int × Int, s.1 ≤ s.2 → Small 1000000 s → D i = false → i = 3 ∨ i = 7 ∨ i = 17 ∨ i = 21 ∨ i = 28 ∨ i = 32 → Calls Try.prog 39 #[.pointer (some ⟨db, 0, none⟩), spV s] w' fun e w2 => ∃ v, e = .returned v ∧ InR s v ∧ WT p t u db b8 T8 E ao n c k0 w (fun j => j == i || D j) w2 := by
    intro s hs hsm hDi hi
    obtain ⟨k, hk1, hk2⟩ := hW.d
    have := cntT_le D
    refine (of_any w0 w' db ao n c k s hR (hw0.then hW.m fun i hi e => by rcases e with e | e <;> omega) hd0 hk2 (by omega) hs hsm).mono ?_
    rintro e w2 ⟨r, r1, r2, rfl, hm, hd2⟩
    exact ⟨_, rfl, ⟨r, r1, r2, rfl⟩, hW.call hi hDi n8 hk1 hm hd2⟩
  clear EO x3 x4 x5 x6 x8 x10 h4 h5 h6 hw0 hR
  rcases (by omega : i = 13 ∨ i = 14 ∨ i = 15 ∨ i = 16 ∨ i = 17 ∨ i = 18 ∨ i = 19 ∨ i = 20 ∨ i = 21 ∨ i = 22 ∨ i = 23 ∨ i = 24 ∨ i = 25) with rfl | rfl | rfl | rfl | rfl | rfl | rfl | rfl | rfl | rfl | rfl | rfl | rfl
  all_goals (obtain rfl := Option.some.inj ho)
  · have v11 := EV 11 28 (by simp) (hdep ⟨11, .data⟩ (by simp) rfl); have v12 := EV 12 29 (by simp) (hdep ⟨12, .data⟩ (by simp) rfl)
    obtain ⟨r, r1, r2, v11⟩ := v11
    change _ = _ at v12
    obtain ⟨m1, m2⟩ := mul_bd (a := r) (b := E) (m := 100000) (k := 2000) ⟨by simp only [offR, wideR, deepR, lessR, plusR] at r1 r2; omega, by simp only [offR, wideR, deepR, lessR, plusR] at r1 r2; omega⟩ ⟨by omega, by omega⟩
    exact step_val rfl _ (run_mul rfl v11 v12 rfl (by omega) (by omega)) ⟨⟨_, rfl, fun _ => ⟨r, r1, r2, rfl⟩⟩, hW.same (by omega)⟩
  · exact step_move rfl (.tmp 3) rfl ⟨⟨_, rfl, fun _ => e3⟩, hW.same (by omega)⟩
  · exact step_val rfl _ (run_field27_2 rfl e6) ⟨⟨_, rfl, fun _ => rfl⟩, hW.same (by omega)⟩
  · have v15 := EV 15 32 (by simp) (hdep ⟨15, .data⟩ (by simp) rfl); change _ = _ at v15
    exact wpList_load_mid rfl 23 (.tmp 32) rfl b6 3 v15 [.int .i64 u.w.1, .int .i64 u.w.2] _ (range2 g6 rfl rfl) Try.underlying23 rfl (by kernel_rfl) ⟨rfl, ⟨⟨_, rfl, fun _ => rfl⟩, hW.same (by omega)⟩⟩
  · have v14 := EV 14 31 (by simp) (hdep ⟨14, .data⟩ (by simp) rfl); change _ = _ at v14; have v16 := EV 16 33 (by simp) (hdep ⟨16, .data⟩ (by simp) rfl); change _ = _ at v16
    refine step_call rfl 39 _ _ rfl (fun _ _ => by kernel_rfl) ?_
    have hargs : (#[Operand.tmp 31, Operand.tmp 33] : Array Operand).map ρ.eval = #[.pointer (some ⟨db, 0, none⟩), spV u.w] := by
      simp only [List.map_toArray, List.map_cons, List.map_nil, v14, v16]
    rw [hargs]
    refine (hof u.w ou.w ⟨⟨by omega, by omega⟩, by omega, by omega⟩ hD (by omega)).mono fun e w2 hh => ?_
    obtain ⟨v, rfl, hv, hW2⟩ := hh
    exact ⟨v, rfl, ⟨_, rfl, fun _ => hv⟩, hW2⟩
  · exact step_move rfl (.tmp 3) rfl ⟨⟨_, rfl, fun _ => e3⟩, hW.same (by omega)⟩
  · exact step_val rfl _ (run_field27_2 rfl e5) ⟨⟨_, rfl, fun _ => rfl⟩, hW.same (by omega)⟩
  · have v19 := EV 19 36 (by simp) (hdep ⟨19, .data⟩ (by simp) rfl); change _ = _ at v19
    exact wpList_load_mid rfl 23 (.tmp 36) rfl b5 3 v19 [.int .i64 t.w.1, .int .i64 t.w.2] _ (range2 g5 rfl rfl) Try.underlying23 rfl (by kernel_rfl) ⟨rfl, ⟨⟨_, rfl, fun _ => rfl⟩, hW.same (by omega)⟩⟩
  · have v18 := EV 18 35 (by simp) (hdep ⟨18, .data⟩ (by simp) rfl); change _ = _ at v18; have v20 := EV 20 37 (by simp) (hdep ⟨20, .data⟩ (by simp) rfl); change _ = _ at v20
    refine step_call rfl 39 _ _ rfl (fun _ _ => by kernel_rfl) ?_
    have hargs : (#[Operand.tmp 35, Operand.tmp 37] : Array Operand).map ρ.eval = #[.pointer (some ⟨db, 0, none⟩), spV t.w] := by
      simp only [List.map_toArray, List.map_cons, List.map_nil, v18, v20]
    rw [hargs]
    refine (hof t.w ot.w ⟨⟨by omega, by omega⟩, by omega, by omega⟩ hD (by omega)).mono fun e w2 hh => ?_
    obtain ⟨v, rfl, hv, hW2⟩ := hh
    exact ⟨v, rfl, ⟨_, rfl, fun _ => hv⟩, hW2⟩
  · have v17 := EV 17 34 (by simp) (hdep ⟨17, .data⟩ (by simp) rfl); have v21 := EV 21 38 (by simp) (hdep ⟨21, .data⟩ (by simp) rfl)
    obtain ⟨r, r1, r2, v17⟩ := v17
    obtain ⟨q, q1, q2, v21⟩ := v21
    exact step_val rfl _ (run_sub rfl v17 v21 rfl (by simp only [offR, wideR, deepR, lessR, plusR] at *; omega) (by simp only [offR, wideR, deepR, lessR, plusR] at *; omega)) ⟨⟨_, rfl, fun _ => ⟨r - q, by simp only [offR, wideR, deepR, lessR, plusR] at *; omega, by simp only [offR, wideR, deepR, lessR, plusR] at *; omega, rfl⟩⟩, hW.same (by omega)⟩
  · exact step_move rfl (.tmp 10) rfl ⟨⟨_, rfl, fun _ => e10⟩, hW.same (by omega)⟩
  · have v22 := EV 22 39 (by simp) (hdep ⟨22, .data⟩ (by simp) rfl); have v23 := EV 23 40 (by simp) (hdep ⟨23, .data⟩ (by simp) rfl)
    obtain ⟨r, r1, r2, v22⟩ := v22
    change _ = _ at v23
    obtain ⟨m1, m2⟩ := mul_bd (a := r) (b := E) (m := 100000) (k := 2000) ⟨by simp only [offR, wideR, deepR, lessR, plusR] at r1 r2; omega, by simp only [offR, wideR, deepR, lessR, plusR] at r1 r2; omega⟩ ⟨by omega, by omega⟩
    exact step_val rfl _ (run_mul rfl v22 v23 rfl (by omega) (by omega)) ⟨⟨_, rfl, fun _ => ⟨r, r1, r2, rfl⟩⟩, hW.same (by omega)⟩
  · exact step_move rfl (.tmp 3) rfl ⟨⟨_, rfl, fun _ => e3⟩, hW.same (by omega)⟩
set_option maxRecDepth 100000 in
set_option maxHeartbeats 8000000 in
theorem step_truth2 {a0 : Act} {w0 : World} (x3 : a0.eval (.tmp 3) = .pointer (some ⟨db, 0, none⟩)) (x4 : a0.eval (.tmp 4) = .pointer (some ⟨b4, 0, none⟩)) (x5 : a0.eval (.tmp 5) = .pointer (some ⟨b5, 0, none⟩)) (x6 : a0.eval (.tmp 6) = .pointer (some ⟨b6, 0, none⟩)) (x8 : a0.eval (.tmp 8) = .pointer (some ⟨b8, 0, none⟩)) (x10 : a0.eval (.tmp 10) = .int .i64 E)
    (h4 : w.heap[b4]? = some (.cells (plC p) 25)) (h5 : w.heap[b5]? = some (.cells (edC t) 27)) (h6 : w.heap[b6]? = some (.cells (edC u) 27))
    (n4 : b4 ≠ db ∧ b4 ≠ b8) (n5 : b5 ≠ db ∧ b5 ≠ b8) (n6 : b6 ≠ db ∧ b6 ≠ b8) (n8 : b8 ≠ db)
    (hR : RawAt w0 ao n) (hw0 : Mod noB w0 w) (hd0 : w0.heap.size ≤ db) (h80 : w0.heap.size ≤ b8) (hk : k0 ≤ 900)
    (ot : Ordered t) (ou : Ordered u) (st : ESmall 20000 t) (su : ESmall 20000 u) (hp : 0 ≤ p.len ∧ p.len ≤ 10000) (hE : 0 ≤ E ∧ E ≤ 2000) : ∀ (D : Nat → Bool) (i : Nat) (o : Oper) (ρ : Act) (w' : World), opsT[i]? = some o → D i = false → (∀ e ∈ o.after, Region.binds .any e = true → D e.on = true) →
      (∀ j s, (j, s) ∈ dsT → D j = true → PT p t u db b4 b5 b6 E j (ρ.eval (.tmp s))) → (∀ s, (∀ x ∈ dsT, x.2 = s → D x.1 = false) → ρ.eval (.tmp s) = a0.eval (.tmp s)) → WT p t u db b8 T8 E ao n c k0 w D w' →
      26 ≤ i → i < 38 → wpList Try.prog opsT.toArray (only fun a' w2 => (∃ v, a' = ρ.put o.dst v ∧ (o.dst ≠ none → PT p t u db b4 b5 b6 E i v)) ∧ WT p t u db b8 T8 E ao n c k0 w (fun j => j == i || D j) w2) [o] ρ w' := by
  obtain ⟨⟨ta1, ta2⟩, ⟨tw1, tw2⟩, ⟨td1, td2⟩⟩ := st
  obtain ⟨⟨ua1, ua2⟩, ⟨uw1, uw2⟩, ⟨ud1, ud2⟩⟩ := su
  intro D i o ρ w' ho hD hdep EV EO hW hlo hlt
  have g4 : w'.heap[b4]? = some (.cells (plC p) 25) := hW.m.at h4 (fun e => by rcases e with e | e; exact n4.1 e; exact n4.2 e)
  have g5 : w'.heap[b5]? = some (.cells (edC t) 27) := hW.m.at h5 (fun e => by rcases e with e | e; exact n5.1 e; exact n5.2 e)
  have g6 : w'.heap[b6]? = some (.cells (edC u) 27) := hW.m.at h6 (fun e => by rcases e with e | e; exact n6.1 e; exact n6.2 e)
  have e3 : ρ.eval (.tmp 3) = .pointer (some ⟨db, 0, none⟩) := (EO 3 (fun x hx e => absurd (e ▸ List.mem_map.2 ⟨x, hx, rfl⟩ : 3 ∈ dsT.map Prod.snd) (by decide))).trans x3
  have e4 : ρ.eval (.tmp 4) = .pointer (some ⟨b4, 0, none⟩) := (EO 4 (fun x hx e => absurd (e ▸ List.mem_map.2 ⟨x, hx, rfl⟩ : 4 ∈ dsT.map Prod.snd) (by decide))).trans x4
  have e5 : ρ.eval (.tmp 5) = .pointer (some ⟨b5, 0, none⟩) := (EO 5 (fun x hx e => absurd (e ▸ List.mem_map.2 ⟨x, hx, rfl⟩ : 5 ∈ dsT.map Prod.snd) (by decide))).trans x5
  have e6 : ρ.eval (.tmp 6) = .pointer (some ⟨b6, 0, none⟩) := (EO 6 (fun x hx e => absurd (e ▸ List.mem_map.2 ⟨x, hx, rfl⟩ : 6 ∈ dsT.map Prod.snd) (by decide))).trans x6
  have e8 : ρ.eval (.tmp 8) = .pointer (some ⟨b8, 0, none⟩) := (EO 8 (fun x hx e => absurd (e ▸ List.mem_map.2 ⟨x, hx, rfl⟩ : 8 ∈ dsT.map Prod.snd) (by decide))).trans x8
  have e10 : ρ.eval (.tmp 10) = .int .i64 E := (EO 10 (fun x hx e => absurd (e ▸ List.mem_map.2 ⟨x, hx, rfl⟩ : 10 ∈ dsT.map Prod.snd) (by decide))).trans x10
  have hof : ∀ s : Int × Int, s.1 ≤ s.2 → Small 1000000 s → D i = false → i = 3 ∨ i = 7 ∨ i = 17 ∨ i = 21 ∨ i = 28 ∨ i = 32 → Calls Try.prog 39 #[.pointer (some ⟨db, 0, none⟩), spV s] w' fun e w2 => ∃ v, e = .returned v ∧ InR s v ∧ WT p t u db b8 T8 E ao n c k0 w (fun j => j == i || D j) w2 := by
    intro s hs hsm hDi hi
    obtain ⟨k, hk1, hk2⟩ := hW.d
    have := cntT_le D
    refine (of_any w0 w' db ao n c k s hR (hw0.then hW.m fun i hi e => by rcases e with e | e <;> omega) hd0 hk2 (by omega) hs hsm).mono ?_
    rintro e w2 ⟨r, r1, r2, rfl, hm, hd2⟩
    exact ⟨_, rfl, ⟨r, r1, r2, rfl⟩, hW.call hi hDi n8 hk1 hm hd2⟩
  clear EO x3 x4 x5 x6 x8 x10 h4 h5 h6 hw0 hR
  rcases (by omega : i = 26 ∨ i = 27 ∨ i = 28 ∨ i = 29 ∨ i = 30 ∨ i = 31 ∨ i = 32 ∨ i = 33 ∨ i = 34 ∨ i = 35 ∨ i = 36 ∨ i = 37) with rfl | rfl | rfl | rfl | rfl | rfl | rfl | rfl | rfl | rfl | rfl | rfl
  all_goals (obtain rfl := Option.some.inj ho)
  · exact step_val rfl _ (run_field27_3 rfl e6) ⟨⟨_, rfl, fun _ => rfl⟩, hW.same (by omega)⟩
  · have v26 := EV 26 43 (by simp) (hdep ⟨26, .data⟩ (by simp) rfl); change _ = _ at v26
    exact wpList_load_mid rfl 23 (.tmp 43) rfl b6 5 v26 [.int .i64 u.d.1, .int .i64 u.d.2] _ (range2 g6 rfl rfl) Try.underlying23 rfl (by kernel_rfl) ⟨rfl, ⟨⟨_, rfl, fun _ => rfl⟩, hW.same (by omega)⟩⟩
  · have v25 := EV 25 42 (by simp) (hdep ⟨25, .data⟩ (by simp) rfl); change _ = _ at v25; have v27 := EV 27 44 (by simp) (hdep ⟨27, .data⟩ (by simp) rfl); change _ = _ at v27
    refine step_call rfl 39 _ _ rfl (fun _ _ => by kernel_rfl) ?_
    have hargs : (#[Operand.tmp 42, Operand.tmp 44] : Array Operand).map ρ.eval = #[.pointer (some ⟨db, 0, none⟩), spV u.d] := by
      simp only [List.map_toArray, List.map_cons, List.map_nil, v25, v27]
    rw [hargs]
    refine (hof u.d ou.d ⟨⟨by omega, by omega⟩, by omega, by omega⟩ hD (by omega)).mono fun e w2 hh => ?_
    obtain ⟨v, rfl, hv, hW2⟩ := hh
    exact ⟨v, rfl, ⟨_, rfl, fun _ => hv⟩, hW2⟩
  · exact step_move rfl (.tmp 3) rfl ⟨⟨_, rfl, fun _ => e3⟩, hW.same (by omega)⟩
  · exact step_val rfl _ (run_field27_3 rfl e5) ⟨⟨_, rfl, fun _ => rfl⟩, hW.same (by omega)⟩
  · have v30 := EV 30 47 (by simp) (hdep ⟨30, .data⟩ (by simp) rfl); change _ = _ at v30
    exact wpList_load_mid rfl 23 (.tmp 47) rfl b5 5 v30 [.int .i64 t.d.1, .int .i64 t.d.2] _ (range2 g5 rfl rfl) Try.underlying23 rfl (by kernel_rfl) ⟨rfl, ⟨⟨_, rfl, fun _ => rfl⟩, hW.same (by omega)⟩⟩
  · have v29 := EV 29 46 (by simp) (hdep ⟨29, .data⟩ (by simp) rfl); change _ = _ at v29; have v31 := EV 31 48 (by simp) (hdep ⟨31, .data⟩ (by simp) rfl); change _ = _ at v31
    refine step_call rfl 39 _ _ rfl (fun _ _ => by kernel_rfl) ?_
    have hargs : (#[Operand.tmp 46, Operand.tmp 48] : Array Operand).map ρ.eval = #[.pointer (some ⟨db, 0, none⟩), spV t.d] := by
      simp only [List.map_toArray, List.map_cons, List.map_nil, v29, v31]
    rw [hargs]
    refine (hof t.d ot.d ⟨⟨by omega, by omega⟩, by omega, by omega⟩ hD (by omega)).mono fun e w2 hh => ?_
    obtain ⟨v, rfl, hv, hW2⟩ := hh
    exact ⟨v, rfl, ⟨_, rfl, fun _ => hv⟩, hW2⟩
  · have v28 := EV 28 45 (by simp) (hdep ⟨28, .data⟩ (by simp) rfl); have v32 := EV 32 49 (by simp) (hdep ⟨32, .data⟩ (by simp) rfl)
    obtain ⟨r, r1, r2, v28⟩ := v28
    obtain ⟨q, q1, q2, v32⟩ := v32
    exact step_val rfl _ (run_sub rfl v28 v32 rfl (by simp only [offR, wideR, deepR, lessR, plusR] at *; omega) (by simp only [offR, wideR, deepR, lessR, plusR] at *; omega)) ⟨⟨_, rfl, fun _ => ⟨r - q, by simp only [offR, wideR, deepR, lessR, plusR] at *; omega, by simp only [offR, wideR, deepR, lessR, plusR] at *; omega, rfl⟩⟩, hW.same (by omega)⟩
  · exact step_move rfl (.tmp 10) rfl ⟨⟨_, rfl, fun _ => e10⟩, hW.same (by omega)⟩
  · have v33 := EV 33 50 (by simp) (hdep ⟨33, .data⟩ (by simp) rfl); have v34 := EV 34 51 (by simp) (hdep ⟨34, .data⟩ (by simp) rfl)
    obtain ⟨r, r1, r2, v33⟩ := v33
    change _ = _ at v34
    obtain ⟨m1, m2⟩ := mul_bd (a := r) (b := E) (m := 100000) (k := 2000) ⟨by simp only [offR, wideR, deepR, lessR, plusR] at r1 r2; omega, by simp only [offR, wideR, deepR, lessR, plusR] at r1 r2; omega⟩ ⟨by omega, by omega⟩
    exact step_val rfl _ (run_mul rfl v33 v34 rfl (by omega) (by omega)) ⟨⟨_, rfl, fun _ => ⟨r, r1, r2, rfl⟩⟩, hW.same (by omega)⟩
  · have v13 := EV 13 30 (by simp) (hdep ⟨13, .data⟩ (by simp) rfl); have v24 := EV 24 41 (by simp) (hdep ⟨24, .data⟩ (by simp) rfl); have v35 := EV 35 52 (by simp) (hdep ⟨35, .data⟩ (by simp) rfl)
    obtain ⟨a, a1, a2, v13⟩ := v13; obtain ⟨b, b1, b2, v24⟩ := v24; obtain ⟨d, d1, d2, v35⟩ := v35
    exact step_val rfl _ (run_build61 rfl v13 v24 v35) ⟨⟨_, rfl, fun _ => ⟨_, rfl, a, b, d, a1, a2, b1, b2, d1, d2, rfl⟩⟩, hW.same (by omega)⟩
  · have v36 := EV 36 53 (by simp) (hdep ⟨36, .data⟩ (by simp) rfl)
    obtain ⟨cs, v36, hA⟩ := v36
    obtain ⟨old, z1, z2⟩ := hW.z hD
    have hA2 := hA
    obtain ⟨a, b, d, -, -, -, -, -, -, rfl⟩ := hA2
    exact wpList_store_row rfl 61 (.tmp 8) (.tmp 53) rfl b8 _ e8 v36 _ old z2 (by kernel_rfl) (by rw [z1]; rfl) (by simp [Value.oneCell']) ⟨rfl, ⟨undef, rfl, fun h => absurd rfl h⟩, hW.store hD n8 hA⟩
end Go.Proofs.Ytnjbamikfjdofaa

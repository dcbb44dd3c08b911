/- The document's pairings: the drawn region that lays a longer beginning and goes on with it. -/
import Derived.Test.YtnjbamikfjdofaaRefP
set_option linter.unusedSimpArgs false
set_option linter.unusedVariables false
namespace Go.Proofs.Ytnjbamikfjdofaa
open Go.RowKit Go.Shelf

@[reducible] def o0 : Oper := { dst := some 45, op := Op.load 25 (Operand.tmp 5), type := 25, pos := "ref.go:233", after := #[], guard := none }
@[reducible] def o1 : Oper := { dst := some 46, op := Op.move (Operand.tmp 1), type := 42, pos := "ref.go:233", after := #[], guard := none }
@[reducible] def o2 : Oper := { dst := some 47, op := Op.move (Operand.tmp 2), type := 42, pos := "ref.go:233", after := #[], guard := none }
@[reducible] def o3 : Oper := { dst := some 48, op := Op.buildSlice 43 0 #[], type := 43, pos := "ref.go:233", after := #[], guard := none }
@[reducible] def o4 : Oper := { dst := some 49, op := Op.move (Operand.tmp 3), type := 43, pos := "ref.go:233", after := #[], guard := none }
@[reducible] def o5 : Oper := { dst := some 50, op := Op.call { callee := Callee.builtin Builtin.append, args := #[Operand.tmp 48, Operand.tmp 49], argTypes := #[43, 43] }, type := 43, pos := "ref.go:233", after := #[{ on := 3, ground := Ground.data }, { on := 4, ground := Ground.data }], guard := none }
@[reducible] def o6 : Oper := { dst := some 51, op := Op.move (Operand.tmp 11), type := 3, pos := "ref.go:233", after := #[], guard := none }
@[reducible] def o7 : Oper := { dst := some 52, op := Op.buildSlice 43 1 #[(0, Operand.tmp 51)], type := 43, pos := "ref.go:233", after := #[{ on := 6, ground := Ground.data }], guard := none }
@[reducible] def o8 : Oper := { dst := some 53, op := Op.call { callee := Callee.builtin Builtin.append, args := #[Operand.tmp 50, Operand.tmp 52], argTypes := #[43, 43] }, type := 43, pos := "ref.go:233", after := #[{ on := 5, ground := Ground.data }, { on := 7, ground := Ground.data }, { on := 5, ground := Ground.chain }], guard := none }
@[reducible] def o9 : Oper := { dst := some 54, op := Op.move (Operand.tmp 4), type := 82, pos := "ref.go:233", after := #[], guard := none }
@[reducible] def o10 : Oper := { dst := some 55, op := Op.call { callee := Callee.value (Operand.func 67), args := #[Operand.tmp 45, Operand.tmp 46, Operand.tmp 47, Operand.tmp 53, Operand.tmp 54], argTypes := #[25, 42, 42, 43, 82] }, type := 82, pos := "ref.go:233", after := #[{ on := 0, ground := Ground.data }, { on := 1, ground := Ground.data }, { on := 2, ground := Ground.data }, { on := 8, ground := Ground.data }, { on := 9, ground := Ground.data }, { on := 8, ground := Ground.chain }], guard := none }
@[reducible] def o11 : Oper := { dst := some 4, op := Op.assign (Operand.tmp 55), type := 82, pos := "ref.go:233", after := #[{ on := 10, ground := Ground.data }, { on := 10, ground := Ground.chain }, { on := 0, ground := Ground.phase }, { on := 1, ground := Ground.phase }, { on := 2, ground := Ground.phase }, { on := 3, ground := Ground.phase }, { on := 4, ground := Ground.phase }, { on := 5, ground := Ground.phase }, { on := 6, ground := Ground.phase }, { on := 7, ground := Ground.phase }, { on := 8, ground := Ground.phase }, { on := 9, ground := Ground.phase }, { on := 10, ground := Ground.phase }], guard := none }
@[reducible] def ops7 : List Oper := [o0, o1, o2, o3, o4, o5, o6, o7, o8, o9, o10, o11]
@[reducible] def ds7 : List (Nat × Nat) := [(0, 45), (1, 46), (2, 47), (3, 48), (4, 49), (5, 50), (6, 51), (7, 52), (8, 53), (9, 54), (10, 55), (11, 4)]

/-- What has been done of the region, and what it has yielded. -/
structure R7 (p : Ply) (T H u v : Value) (k : Int) (pre : List Int) (w : World) (Po : Value → World → Prop) (D : Nat → Bool) (vs : Nat → Value) (w' : World) : Prop where
  r0 : D 0 = true → vs 0 = plV p
  r1 : D 1 = true → vs 1 = T
  r2 : D 2 = true → vs 2 = H
  r3 : D 3 = true → D 5 = false → ∃ b, vs 3 = .slice (some ⟨b, 0, none⟩) 0 0 ∧ w.heap.size ≤ b ∧ w'.heap[b]? = some (.cells #[] 3) ∧ (D 7 = true → vs 7 ≠ .slice (some ⟨b, 0, none⟩) 1 1)
  r4 : D 4 = true → vs 4 = u
  r5 : D 5 = true → D 8 = false → w'.ownsRow w.heap.size 3 1 (vs 5) pre.length (pre.map (Value.int .i64))
  r6 : D 6 = true → vs 6 = .int .i64 k
  r7 : D 7 = true → D 8 = false → ∃ b, vs 7 = .slice (some ⟨b, 0, none⟩) 1 1 ∧ w.heap.size ≤ b ∧ w'.heap[b]? = some (.cells #[.int .i64 k] 3)
  r8 : D 8 = true → D 10 = false → IntV w' (vs 8) (pre ++ [k])
  r9 : D 9 = true → vs 9 = v
  r10 : D 10 = true → Po (vs 10) w'
  r11 : D 11 = true → vs 11 = vs 10
  m : D 10 = false → Mod noB w w'

variable {p : Ply} {T H u v : Value} {k : Int} {pre : List Int} {w : World} {Po : Value → World → Prop} {D : Nat → Bool} {vs : Nat → Value} {w' : World}
def D1 (D : Nat → Bool) (i : Nat) : Nat → Bool := fun j => j == i || D j
def V1 (vs : Nat → Value) (i : Nat) (x : Value) : Nat → Value := fun j => if j = i then x else vs j
theorem D1_ne {i j : Nat} (h : j ≠ i) : D1 D i j = D j := by unfold D1; simp [h]
theorem V1_ne {i j : Nat} {x : Value} (h : j ≠ i) : V1 vs i x j = vs j := by unfold V1; simp [h]
theorem D1_eq (i : Nat) : D1 D i i = true := by unfold D1; simp
theorem V1_eq (i : Nat) (x : Value) : V1 vs i x i = x := by unfold V1; simp

theorem R7.nothing (h : Mod noB w w') : R7 p T H u v k pre w Po (fun _ => false) vs w' := by
  refine ⟨?_, ?_, ?_, ?_, ?_, ?_, ?_, ?_, ?_, ?_, ?_, ?_, fun _ => h⟩ <;> intro h <;> cases h
/-- Another world, in which nothing that was there has turned. -/
theorem R7.later {w2 : World} (h : R7 p T H u v k pre w Po D vs w') (hm : Mod noB w' w2) (hD : D 10 = false) : R7 p T H u v k pre w Po D vs w2 :=
  ⟨h.r0, h.r1, h.r2, fun a b => by obtain ⟨x, e1, e2, e3, e4⟩ := h.r3 a b; exact ⟨x, e1, e2, hm.at e3 id, e4⟩, h.r4, fun a b => own_mod (h.r5 a b) hm, h.r6, fun a b => by obtain ⟨x, e1, e2, e3⟩ := h.r7 a b; exact ⟨x, e1, e2, hm.at e3 id⟩, fun a b => (h.r8 a b).mod hm, h.r9, fun a => by rw [hD] at a; (cases a), h.r11, fun a => (h.m a).trans hm⟩
theorem R7.set0 (h : R7 p T H u v k pre w Po D vs w') : R7 p T H u v k pre w Po (D1 D 0) (V1 vs 0 (plV p)) w' :=
  ⟨fun _ => V1_eq _ _,
   fun a => by rw [D1_ne (by omega)] at a; rw [V1_ne (by omega)]; exact h.r1 a,
   fun a => by rw [D1_ne (by omega)] at a; rw [V1_ne (by omega)]; exact h.r2 a,
   fun a b => by rw [D1_ne (by omega)] at a b; rw [V1_ne (by omega), V1_ne (by omega), D1_ne (by omega)]; exact h.r3 a b,
   fun a => by rw [D1_ne (by omega)] at a; rw [V1_ne (by omega)]; exact h.r4 a,
   fun a b => by rw [D1_ne (by omega)] at a b; rw [V1_ne (by omega)]; exact h.r5 a b,
   fun a => by rw [D1_ne (by omega)] at a; rw [V1_ne (by omega)]; exact h.r6 a,
   fun a b => by rw [D1_ne (by omega)] at a b; rw [V1_ne (by omega)]; exact h.r7 a b,
   fun a b => by rw [D1_ne (by omega)] at a b; rw [V1_ne (by omega)]; exact h.r8 a b,
   fun a => by rw [D1_ne (by omega)] at a; rw [V1_ne (by omega)]; exact h.r9 a,
   fun a => by rw [D1_ne (by omega)] at a; rw [V1_ne (by omega)]; exact h.r10 a,
   fun a => by rw [D1_ne (by omega)] at a; rw [V1_ne (by omega), V1_ne (by omega)]; exact h.r11 a,
   fun a => by rw [D1_ne (by omega)] at a; exact h.m a⟩
theorem R7.set1 (h : R7 p T H u v k pre w Po D vs w') : R7 p T H u v k pre w Po (D1 D 1) (V1 vs 1 (T)) w' :=
  ⟨fun a => by rw [D1_ne (by omega)] at a; rw [V1_ne (by omega)]; exact h.r0 a,
   fun _ => V1_eq _ _,
   fun a => by rw [D1_ne (by omega)] at a; rw [V1_ne (by omega)]; exact h.r2 a,
   fun a b => by rw [D1_ne (by omega)] at a b; rw [V1_ne (by omega), V1_ne (by omega), D1_ne (by omega)]; exact h.r3 a b,
   fun a => by rw [D1_ne (by omega)] at a; rw [V1_ne (by omega)]; exact h.r4 a,
   fun a b => by rw [D1_ne (by omega)] at a b; rw [V1_ne (by omega)]; exact h.r5 a b,
   fun a => by rw [D1_ne (by omega)] at a; rw [V1_ne (by omega)]; exact h.r6 a,
   fun a b => by rw [D1_ne (by omega)] at a b; rw [V1_ne (by omega)]; exact h.r7 a b,
   fun a b => by rw [D1_ne (by omega)] at a b; rw [V1_ne (by omega)]; exact h.r8 a b,
   fun a => by rw [D1_ne (by omega)] at a; rw [V1_ne (by omega)]; exact h.r9 a,
   fun a => by rw [D1_ne (by omega)] at a; rw [V1_ne (by omega)]; exact h.r10 a,
   fun a => by rw [D1_ne (by omega)] at a; rw [V1_ne (by omega), V1_ne (by omega)]; exact h.r11 a,
   fun a => by rw [D1_ne (by omega)] at a; exact h.m a⟩
theorem R7.set2 (h : R7 p T H u v k pre w Po D vs w') : R7 p T H u v k pre w Po (D1 D 2) (V1 vs 2 (H)) w' :=
  ⟨fun a => by rw [D1_ne (by omega)] at a; rw [V1_ne (by omega)]; exact h.r0 a,
   fun a => by rw [D1_ne (by omega)] at a; rw [V1_ne (by omega)]; exact h.r1 a,
   fun _ => V1_eq _ _,
   fun a b => by rw [D1_ne (by omega)] at a b; rw [V1_ne (by omega), V1_ne (by omega), D1_ne (by omega)]; exact h.r3 a b,
   fun a => by rw [D1_ne (by omega)] at a; rw [V1_ne (by omega)]; exact h.r4 a,
   fun a b => by rw [D1_ne (by omega)] at a b; rw [V1_ne (by omega)]; exact h.r5 a b,
   fun a => by rw [D1_ne (by omega)] at a; rw [V1_ne (by omega)]; exact h.r6 a,
   fun a b => by rw [D1_ne (by omega)] at a b; rw [V1_ne (by omega)]; exact h.r7 a b,
   fun a b => by rw [D1_ne (by omega)] at a b; rw [V1_ne (by omega)]; exact h.r8 a b,
   fun a => by rw [D1_ne (by omega)] at a; rw [V1_ne (by omega)]; exact h.r9 a,
   fun a => by rw [D1_ne (by omega)] at a; rw [V1_ne (by omega)]; exact h.r10 a,
   fun a => by rw [D1_ne (by omega)] at a; rw [V1_ne (by omega), V1_ne (by omega)]; exact h.r11 a,
   fun a => by rw [D1_ne (by omega)] at a; exact h.m a⟩
theorem R7.set4 (h : R7 p T H u v k pre w Po D vs w') : R7 p T H u v k pre w Po (D1 D 4) (V1 vs 4 (u)) w' :=
  ⟨fun a => by rw [D1_ne (by omega)] at a; rw [V1_ne (by omega)]; exact h.r0 a,
   fun a => by rw [D1_ne (by omega)] at a; rw [V1_ne (by omega)]; exact h.r1 a,
   fun a => by rw [D1_ne (by omega)] at a; rw [V1_ne (by omega)]; exact h.r2 a,
   fun a b => by rw [D1_ne (by omega)] at a b; rw [V1_ne (by omega), V1_ne (by omega), D1_ne (by omega)]; exact h.r3 a b,
   fun _ => V1_eq _ _,
   fun a b => by rw [D1_ne (by omega)] at a b; rw [V1_ne (by omega)]; exact h.r5 a b,
   fun a => by rw [D1_ne (by omega)] at a; rw [V1_ne (by omega)]; exact h.r6 a,
   fun a b => by rw [D1_ne (by omega)] at a b; rw [V1_ne (by omega)]; exact h.r7 a b,
   fun a b => by rw [D1_ne (by omega)] at a b; rw [V1_ne (by omega)]; exact h.r8 a b,
   fun a => by rw [D1_ne (by omega)] at a; rw [V1_ne (by omega)]; exact h.r9 a,
   fun a => by rw [D1_ne (by omega)] at a; rw [V1_ne (by omega)]; exact h.r10 a,
   fun a => by rw [D1_ne (by omega)] at a; rw [V1_ne (by omega), V1_ne (by omega)]; exact h.r11 a,
   fun a => by rw [D1_ne (by omega)] at a; exact h.m a⟩
theorem R7.set6 (h : R7 p T H u v k pre w Po D vs w') : R7 p T H u v k pre w Po (D1 D 6) (V1 vs 6 (.int .i64 k)) w' :=
  ⟨fun a => by rw [D1_ne (by omega)] at a; rw [V1_ne (by omega)]; exact h.r0 a,
   fun a => by rw [D1_ne (by omega)] at a; rw [V1_ne (by omega)]; exact h.r1 a,
   fun a => by rw [D1_ne (by omega)] at a; rw [V1_ne (by omega)]; exact h.r2 a,
   fun a b => by rw [D1_ne (by omega)] at a b; rw [V1_ne (by omega), V1_ne (by omega), D1_ne (by omega)]; exact h.r3 a b,
   fun a => by rw [D1_ne (by omega)] at a; rw [V1_ne (by omega)]; exact h.r4 a,
   fun a b => by rw [D1_ne (by omega)] at a b; rw [V1_ne (by omega)]; exact h.r5 a b,
   fun _ => V1_eq _ _,
   fun a b => by rw [D1_ne (by omega)] at a b; rw [V1_ne (by omega)]; exact h.r7 a b,
   fun a b => by rw [D1_ne (by omega)] at a b; rw [V1_ne (by omega)]; exact h.r8 a b,
   fun a => by rw [D1_ne (by omega)] at a; rw [V1_ne (by omega)]; exact h.r9 a,
   fun a => by rw [D1_ne (by omega)] at a; rw [V1_ne (by omega)]; exact h.r10 a,
   fun a => by rw [D1_ne (by omega)] at a; rw [V1_ne (by omega), V1_ne (by omega)]; exact h.r11 a,
   fun a => by rw [D1_ne (by omega)] at a; exact h.m a⟩
theorem R7.set9 (h : R7 p T H u v k pre w Po D vs w') : R7 p T H u v k pre w Po (D1 D 9) (V1 vs 9 (v)) w' :=
  ⟨fun a => by rw [D1_ne (by omega)] at a; rw [V1_ne (by omega)]; exact h.r0 a,
   fun a => by rw [D1_ne (by omega)] at a; rw [V1_ne (by omega)]; exact h.r1 a,
   fun a => by rw [D1_ne (by omega)] at a; rw [V1_ne (by omega)]; exact h.r2 a,
   fun a b => by rw [D1_ne (by omega)] at a b; rw [V1_ne (by omega), V1_ne (by omega), D1_ne (by omega)]; exact h.r3 a b,
   fun a => by rw [D1_ne (by omega)] at a; rw [V1_ne (by omega)]; exact h.r4 a,
   fun a b => by rw [D1_ne (by omega)] at a b; rw [V1_ne (by omega)]; exact h.r5 a b,
   fun a => by rw [D1_ne (by omega)] at a; rw [V1_ne (by omega)]; exact h.r6 a,
   fun a b => by rw [D1_ne (by omega)] at a b; rw [V1_ne (by omega)]; exact h.r7 a b,
   fun a b => by rw [D1_ne (by omega)] at a b; rw [V1_ne (by omega)]; exact h.r8 a b,
   fun _ => V1_eq _ _,
   fun a => by rw [D1_ne (by omega)] at a; rw [V1_ne (by omega)]; exact h.r10 a,
   fun a => by rw [D1_ne (by omega)] at a; rw [V1_ne (by omega), V1_ne (by omega)]; exact h.r11 a,
   fun a => by rw [D1_ne (by omega)] at a; exact h.m a⟩
theorem R7.set3 (h : R7 p T H u v k pre w Po D vs w') (hD : D 10 = false) (hD8 : D 8 = false) (hz : w.heap.size ≤ w'.heap.size) : R7 p T H u v k pre w Po (D1 D 3) (V1 vs 3 (.slice (some ⟨w'.heap.size, 0, none⟩) 0 0)) (w'.alloc (.cells #[] 3)) := by
  have g := h.later ((Mod.refl noB w').alloc (.cells #[] 3)) hD
  exact ⟨fun a => by rw [D1_ne (by omega)] at a; rw [V1_ne (by omega)]; exact g.r0 a,
   fun a => by rw [D1_ne (by omega)] at a; rw [V1_ne (by omega)]; exact g.r1 a,
   fun a => by rw [D1_ne (by omega)] at a; rw [V1_ne (by omega)]; exact g.r2 a,
   fun _ b => ⟨_, V1_eq _ _, hz, World.alloc_heap_new w' _, fun hd e => by rw [D1_ne (by omega)] at hd; rw [V1_ne (by omega)] at e; obtain ⟨x, e1, _, e3⟩ := h.r7 hd hD8; rw [e1] at e; injection e with e; injection e with e; injection e with e; have := (Array.getElem?_eq_some_iff.1 e3).1; omega⟩,
   fun a => by rw [D1_ne (by omega)] at a; rw [V1_ne (by omega)]; exact g.r4 a,
   fun a b => by rw [D1_ne (by omega)] at a b; rw [V1_ne (by omega)]; exact g.r5 a b,
   fun a => by rw [D1_ne (by omega)] at a; rw [V1_ne (by omega)]; exact g.r6 a,
   fun a b => by rw [D1_ne (by omega)] at a b; rw [V1_ne (by omega)]; exact g.r7 a b,
   fun a b => by rw [D1_ne (by omega)] at a b; rw [V1_ne (by omega)]; exact g.r8 a b,
   fun a => by rw [D1_ne (by omega)] at a; rw [V1_ne (by omega)]; exact g.r9 a,
   fun a => by rw [D1_ne (by omega)] at a; rw [V1_ne (by omega)]; exact g.r10 a,
   fun a => by rw [D1_ne (by omega)] at a; rw [V1_ne (by omega), V1_ne (by omega)]; exact g.r11 a,
   fun a => by rw [D1_ne (by omega)] at a; exact g.m a⟩
theorem R7.set7 (h : R7 p T H u v k pre w Po D vs w') (hD : D 10 = false) (hz : w.heap.size ≤ w'.heap.size) : R7 p T H u v k pre w Po (D1 D 7) (V1 vs 7 (.slice (some ⟨w'.heap.size, 0, none⟩) 1 1)) (w'.alloc (.cells #[.int .i64 k] 3)) := by
  have g := h.later ((Mod.refl noB w').alloc (.cells #[.int .i64 k] 3)) hD
  exact ⟨fun a => by rw [D1_ne (by omega)] at a; rw [V1_ne (by omega)]; exact g.r0 a,
   fun a => by rw [D1_ne (by omega)] at a; rw [V1_ne (by omega)]; exact g.r1 a,
   fun a => by rw [D1_ne (by omega)] at a; rw [V1_ne (by omega)]; exact g.r2 a,
   fun a b => by rw [D1_ne (by omega)] at a b; obtain ⟨x, e1, e2, e3, e4⟩ := h.r3 a b; exact ⟨x, by rw [V1_ne (by omega)]; exact e1, e2, ((Mod.refl noB w').alloc _).at e3 id, fun _ e => by rw [V1_eq] at e; injection e with e; injection e with e; injection e with e; have := (Array.getElem?_eq_some_iff.1 e3).1; omega⟩,
   fun a => by rw [D1_ne (by omega)] at a; rw [V1_ne (by omega)]; exact g.r4 a,
   fun a b => by rw [D1_ne (by omega)] at a b; rw [V1_ne (by omega)]; exact g.r5 a b,
   fun a => by rw [D1_ne (by omega)] at a; rw [V1_ne (by omega)]; exact g.r6 a,
   fun _ b => ⟨_, V1_eq _ _, hz, World.alloc_heap_new w' _⟩,
   fun a b => by rw [D1_ne (by omega)] at a b; rw [V1_ne (by omega)]; exact g.r8 a b,
   fun a => by rw [D1_ne (by omega)] at a; rw [V1_ne (by omega)]; exact g.r9 a,
   fun a => by rw [D1_ne (by omega)] at a; rw [V1_ne (by omega)]; exact g.r10 a,
   fun a => by rw [D1_ne (by omega)] at a; rw [V1_ne (by omega), V1_ne (by omega)]; exact g.r11 a,
   fun a => by rw [D1_ne (by omega)] at a; exact g.m a⟩
theorem R7.set5 {w2 : World} {x : Value} {b : Nat} (h : R7 p T H u v k pre w Po D vs w') (hD5 : D 5 = false) (hD8 : D 8 = false) (hD10 : D 10 = false) (hb : vs 3 = .slice (some ⟨b, 0, none⟩) 0 0) (hD3 : D 3 = true)
    (hx : w2.ownsRow w.heap.size 3 1 x pre.length (pre.map (Value.int .i64))) (hm : Mod (fun i => i = b) w' w2) : R7 p T H u v k pre w Po (D1 D 5) (V1 vs 5 x) w2 := by
  obtain ⟨b', e1, e2, e3, e4⟩ := h.r3 hD3 hD5
  rw [hb] at e1; injection e1 with e1; injection e1 with e1; injection e1 with e1; subst e1
  exact ⟨fun a => by rw [D1_ne (by omega)] at a; rw [V1_ne (by omega)]; exact h.r0 a,
   fun a => by rw [D1_ne (by omega)] at a; rw [V1_ne (by omega)]; exact h.r1 a,
   fun a => by rw [D1_ne (by omega)] at a; rw [V1_ne (by omega)]; exact h.r2 a,
   fun _ c => by rw [D1_eq] at c; (cases c),
   fun a => by rw [D1_ne (by omega)] at a; rw [V1_ne (by omega)]; exact h.r4 a,
   fun _ _ => by rw [V1_eq]; exact hx,
   fun a => by rw [D1_ne (by omega)] at a; rw [V1_ne (by omega)]; exact h.r6 a,
   fun a c => by
     rw [D1_ne (by omega)] at a c; rw [V1_ne (by omega)]
     obtain ⟨y, f1, f2, f3⟩ := h.r7 a c
     exact ⟨y, f1, f2, hm.at f3 fun e => e4 a (by rw [f1, e])⟩,
   fun a _ => by rw [D1_ne (by omega), hD8] at a; (cases a),
   fun a => by rw [D1_ne (by omega)] at a; rw [V1_ne (by omega)]; exact h.r9 a,
   fun a => by rw [D1_ne (by omega), hD10] at a; (cases a),
   fun a => by rw [D1_ne (by omega)] at a; rw [V1_ne (by omega), V1_ne (by omega)]; exact h.r11 a,
   fun _ => (h.m hD10).then hm fun i hi e => by omega⟩
theorem R7.set8 {w2 : World} {x : Value} (h : R7 p T H u v k pre w Po D vs w') (hD5 : D 5 = true) (hD8 : D 8 = false) (hD10 : D 10 = false)
    (hx : IntV w2 x (pre ++ [k])) (hm : Mod (fun i => (vs 5).ownBlock = some i) w' w2) : R7 p T H u v k pre w Po (D1 D 8) (V1 vs 8 x) w2 :=
  ⟨fun a => by rw [D1_ne (by omega)] at a; rw [V1_ne (by omega)]; exact h.r0 a,
   fun a => by rw [D1_ne (by omega)] at a; rw [V1_ne (by omega)]; exact h.r1 a,
   fun a => by rw [D1_ne (by omega)] at a; rw [V1_ne (by omega)]; exact h.r2 a,
   fun _ c => by rw [D1_ne (by omega), hD5] at c; (cases c),
   fun a => by rw [D1_ne (by omega)] at a; rw [V1_ne (by omega)]; exact h.r4 a,
   fun _ c => by rw [D1_eq] at c; (cases c),
   fun a => by rw [D1_ne (by omega)] at a; rw [V1_ne (by omega)]; exact h.r6 a,
   fun _ c => by rw [D1_eq] at c; (cases c),
   fun _ _ => by rw [V1_eq]; exact hx,
   fun a => by rw [D1_ne (by omega)] at a; rw [V1_ne (by omega)]; exact h.r9 a,
   fun a => by rw [D1_ne (by omega), hD10] at a; (cases a),
   fun a => by rw [D1_ne (by omega)] at a; rw [V1_ne (by omega), V1_ne (by omega)]; exact h.r11 a,
   fun _ => (h.m hD10).then hm fun i hi e => by have := own_ge (h.r5 hD5 hD8) e; omega⟩
theorem R7.set10 {w2 : World} {x : Value} (h : R7 p T H u v k pre w Po D vs w') (hD5 : D 5 = true) (hD8 : D 8 = true) (hD11 : D 11 = false) (hx : Po x w2) : R7 p T H u v k pre w Po (D1 D 10) (V1 vs 10 x) w2 :=
  ⟨fun a => by rw [D1_ne (by omega)] at a; rw [V1_ne (by omega)]; exact h.r0 a,
   fun a => by rw [D1_ne (by omega)] at a; rw [V1_ne (by omega)]; exact h.r1 a,
   fun a => by rw [D1_ne (by omega)] at a; rw [V1_ne (by omega)]; exact h.r2 a,
   fun _ c => by rw [D1_ne (by omega), hD5] at c; (cases c),
   fun a => by rw [D1_ne (by omega)] at a; rw [V1_ne (by omega)]; exact h.r4 a,
   fun _ c => by rw [D1_ne (by omega), hD8] at c; (cases c),
   fun a => by rw [D1_ne (by omega)] at a; rw [V1_ne (by omega)]; exact h.r6 a,
   fun _ c => by rw [D1_ne (by omega), hD8] at c; (cases c),
   fun _ c => by rw [D1_eq] at c; (cases c),
   fun a => by rw [D1_ne (by omega)] at a; rw [V1_ne (by omega)]; exact h.r9 a,
   fun _ => by rw [V1_eq]; exact hx,
   fun a => by rw [D1_ne (by omega), hD11] at a; (cases a),
   fun c => by rw [D1_eq] at c; (cases c)⟩
theorem R7.set11 (h : R7 p T H u v k pre w Po D vs w') (hD10 : D 10 = true) : R7 p T H u v k pre w Po (D1 D 11) (V1 vs 11 (vs 10)) w' :=
  ⟨fun a => by rw [D1_ne (by omega)] at a; rw [V1_ne (by omega)]; exact h.r0 a,
   fun a => by rw [D1_ne (by omega)] at a; rw [V1_ne (by omega)]; exact h.r1 a,
   fun a => by rw [D1_ne (by omega)] at a; rw [V1_ne (by omega)]; exact h.r2 a,
   fun a b => by rw [D1_ne (by omega)] at a b; rw [V1_ne (by omega), V1_ne (by omega), D1_ne (by omega)]; exact h.r3 a b,
   fun a => by rw [D1_ne (by omega)] at a; rw [V1_ne (by omega)]; exact h.r4 a,
   fun a b => by rw [D1_ne (by omega)] at a b; rw [V1_ne (by omega)]; exact h.r5 a b,
   fun a => by rw [D1_ne (by omega)] at a; rw [V1_ne (by omega)]; exact h.r6 a,
   fun a b => by rw [D1_ne (by omega)] at a b; rw [V1_ne (by omega)]; exact h.r7 a b,
   fun a b => by rw [D1_ne (by omega)] at a b; rw [V1_ne (by omega)]; exact h.r8 a b,
   fun a => by rw [D1_ne (by omega)] at a; rw [V1_ne (by omega)]; exact h.r9 a,
   fun a => by rw [D1_ne (by omega)] at a; rw [V1_ne (by omega)]; exact h.r10 a,
   fun _ => by rw [V1_eq, V1_ne (by omega)],
   fun a => by rw [D1_ne (by omega)] at a; exact h.m a⟩

theorem putD_wait {ds : List (Nat × Nat)} {D : Nat → Bool} {vs : Nat → Value} {s : Nat} : ∀ a0 : Act, (∀ x ∈ ds, x.2 = s → D x.1 = false) → (putD ds D vs a0).eval (.tmp s) = a0.eval (.tmp s) := by
  induction ds with
  | nil => intro a0 _; rfl
  | cons x ds ih =>
    intro a0 hs
    rw [putD_cons, ih _ fun y hy => hs y (by simp [hy])]
    split
    · rename_i hd
      exact eval_put_ne _ (fun e => by rw [hs x (by simp) e] at hd; cases hd) _
    · rfl

set_option maxRecDepth 100000 in
set_option maxHeartbeats 4000000 in
theorem region7 {rid : Nat} {Q : Exit → Act → World → Prop} {a0 : Act} {w : World} (hsz : a0.tmps.size = 57) (x1 : a0.eval (.tmp 1) = T) (x2 : a0.eval (.tmp 2) = H) (x3 : a0.eval (.tmp 3) = u) (x4 : a0.eval (.tmp 4) = v) (P : Nat) (x5 : a0.eval (.tmp 5) = .pointer (some ⟨P, 0, none⟩))
    (x11 : a0.eval (.tmp 11) = .int .i64 k) (hP : w.heap[P]? = some (.cells (plC p) 25)) (hu : IntV w u pre) (hpre : pre.length ≤ 1000)
    (hcall : ∀ u' w', IntV w' u' (pre ++ [k]) → Mod noB w w' → Calls Try.prog 67 #[plV p, T, H, u', v] w' fun e w2 => ∃ v', e = .returned v' ∧ Po v' w2)
    (hend : ∀ (vs : Nat → Value) w2, Po (vs 10) w2 → vs 11 = vs 10 → Q .normal (ds7.foldl (fun a x => a.put (some x.2) (vs x.1)) a0) w2) : (Code.region rid ops7.toArray true).wp Try.prog Q a0 w := by
  obtain ⟨i3, hi3, hz30, hz31, hz32⟩ := info_parts info3
  refine region_inv (by kernel_rfl) (fun D a w' => ∃ vs, a = putD ds7 D vs a0 ∧ R7 p T H u v k pre w Po D vs w') ⟨fun _ => undef, (putD_none _ _ _).symm, R7.nothing ((Mod.refl noB w).drew)⟩ ?_ ?_
  · rintro D a w' i o hcl ho hD hdep ⟨vs, rfl, hR⟩
    have c5 : D 5 = true → D 3 = true ∧ D 4 = true := fun hd => ⟨hcl 5 o5 rfl hd ⟨3, .data⟩ (by simp) rfl, hcl 5 o5 rfl hd ⟨4, .data⟩ (by simp) rfl⟩
    have c7 : D 7 = true → D 6 = true := fun hd => hcl 7 o7 rfl hd ⟨6, .data⟩ (by simp) rfl
    have c8 : D 8 = true → D 5 = true ∧ D 7 = true := fun hd => ⟨hcl 8 o8 rfl hd ⟨5, .data⟩ (by simp) rfl, hcl 8 o8 rfl hd ⟨7, .data⟩ (by simp) rfl⟩
    have c10 : D 10 = true → D 0 = true ∧ D 1 = true ∧ D 2 = true ∧ D 8 = true ∧ D 9 = true := fun hd => ⟨hcl 10 o10 rfl hd ⟨0, .data⟩ (by simp) rfl, hcl 10 o10 rfl hd ⟨1, .data⟩ (by simp) rfl, hcl 10 o10 rfl hd ⟨2, .data⟩ (by simp) rfl, hcl 10 o10 rfl hd ⟨8, .data⟩ (by simp) rfl, hcl 10 o10 rfl hd ⟨9, .data⟩ (by simp) rfl⟩
    have c11 : D 11 = true → D 10 = true := fun hd => hcl 11 o11 rfl hd ⟨10, .data⟩ (by simp) rfl
    have NF : ds7.map Prod.fst |>.Nodup := by decide
    have NS : ds7.map Prod.snd |>.Nodup := by decide
    have EV : ∀ j s, (j, s) ∈ ds7 → D j = true → (putD ds7 D vs a0).eval (.tmp s) = vs j := fun j s hm hd => putD_new a0 hm NS hd (by
      rw [hsz]
      simp only [ds7, List.mem_cons, List.not_mem_nil, or_false, Prod.mk.injEq] at hm
      omega)
    have EO : ∀ s, s ∉ ds7.map Prod.snd → (putD ds7 D vs a0).eval (.tmp s) = a0.eval (.tmp s) := fun s hs => putD_old a0 hs
    have PUT : ∀ i s x, (i, s) ∈ ds7 → D i = false → (putD ds7 D vs a0).put (some s) x = putD ds7 (D1 D i) (V1 vs i x) a0 := fun i s x hm hd => putD_put x a0 hm NF NS hd
    have e10 : D 10 = true → D 3 = true ∧ D 4 = true ∧ D 5 = true ∧ D 6 = true ∧ D 7 = true ∧ D 8 = true := fun hd => by
      have h8 := (c10 hd).2.2.2.1
      have h57 := c8 h8
      have h34 := c5 h57.1
      exact ⟨h34.1, h34.2, h57.1, c7 h57.2, h57.2, h8⟩
    have hlt : i < 12 := (List.getElem?_eq_some_iff.1 ho).1
    have no10 : i ≠ 10 → i ≠ 11 → D 10 = false := fun h1 h2 => by
      cases hd : D 10 with
      | false => rfl
      | true =>
        exfalso
        have f1 := c10 hd
        have f2 := e10 hd
        have : D i = true := by
          rcases (by omega : i = 0 ∨ i = 1 ∨ i = 2 ∨ i = 3 ∨ i = 4 ∨ i = 5 ∨ i = 6 ∨ i = 7 ∨ i = 8 ∨ i = 9) with rfl | rfl | rfl | rfl | rfl | rfl | rfl | rfl | rfl | rfl
          · exact f1.1
          · exact f1.2.1
          · exact f1.2.2.1
          · exact f2.1
          · exact f2.2.1
          · exact f2.2.2.1
          · exact f2.2.2.2.1
          · exact f2.2.2.2.2.1
          · exact f2.2.2.2.2.2
          · exact f1.2.2.2.2
        rw [hD] at this; cases this
    rcases (by omega : i = 0 ∨ i = 1 ∨ i = 2 ∨ i = 3 ∨ i = 4 ∨ i = 5 ∨ i = 6 ∨ i = 7 ∨ i = 8 ∨ i = 9 ∨ i = 10 ∨ i = 11) with rfl | rfl | rfl | rfl | rfl | rfl | rfl | rfl | rfl | rfl | rfl | rfl
    all_goals (obtain rfl := Option.some.inj ho)
    · have n10 := no10 (by omega) (by omega)
      have hx : (putD ds7 D vs a0).eval (.tmp 5) = .pointer (some ⟨P, 0, none⟩) := by rw [EO 5 (by decide), x5]
      exact wpList_load_row rfl 25 (.tmp 5) rfl P hx 25 (plC p) (0, 0) _ ((hR.m n10).at hP id) Try.underlying25 rfl (by kernel_rfl) ⟨rfl, V1 vs 0 (plV p), PUT 0 45 _ (by simp) hD, hR.set0⟩
    · exact step_move rfl (.tmp 1) rfl ⟨V1 vs 1 T, by rw [EO 1 (by decide), x1]; exact PUT 1 46 _ (by simp) hD, hR.set1⟩
    · exact step_move rfl (.tmp 2) rfl ⟨V1 vs 2 H, by rw [EO 2 (by decide), x2]; exact PUT 2 47 _ (by simp) hD, hR.set2⟩
    · have n10 := no10 (by omega) (by omega)
      have n8 : D 8 = false := by cases hd : D 8 with
        | false => rfl
        | true => rw [(c5 (c8 hd).1).1] at hD; cases hD
      refine step_run rfl (.slice (some ⟨w'.heap.size, 0, none⟩) 0 0) (w'.alloc (.cells #[] 3)) ?_ ⟨_, PUT 3 48 _ (by simp) hD, hR.set3 n10 n8 (hR.m n10).size⟩
      kernel_rfl
    · exact step_move rfl (.tmp 3) rfl ⟨V1 vs 4 u, by rw [EO 3 (by decide), x3]; exact PUT 4 49 _ (by simp) hD, hR.set4⟩
    · have n10 := no10 (by omega) (by omega)
      have n8 : D 8 = false := by cases hd : D 8 with
        | false => rfl
        | true => rw [(c8 hd).1] at hD; cases hD
      have d3 := hdep ⟨3, .data⟩ (by simp) rfl
      have d4 := hdep ⟨4, .data⟩ (by simp) rfl
      obtain ⟨b, f1, f2, f3, f4⟩ := hR.r3 d3 hD
      have hs : (putD ds7 D vs a0).eval (.tmp 48) = .slice (some ⟨b, 0, none⟩) 0 0 := by rw [EV 3 48 (by simp) d3, f1]
      have hx0 : (putD ds7 D vs a0).eval (.tmp 49) = u := by rw [EV 4 49 (by simp) d4, hR.r4 d4]
      have hown : w'.ownsRow w.heap.size 3 1 (.slice (some ⟨b, 0, none⟩) 0 0) 0 [] := ⟨by rfl, .inr ⟨b, 0, #[], rfl, f2, f3, Nat.le_refl _, Nat.zero_le _, rfl, rfl⟩⟩
      have hu' := hu.mod (hR.m n10)
      obtain ⟨hl, ⟨rfl, h0⟩ | ⟨g, cap, cur, rfl, hgb, hg2, h1, hcm, h2, h3⟩⟩ := hu'
      · have hp0 : pre = [] := List.length_eq_zero_iff.1 h0
        refine wpList_append_own_none rfl (.tmp 48) (.tmp 49) 43 rfl w.heap.size 3 i3 1 Try.underlying43 hi3 _ 0 [] hs hown hx0 ⟨rfl, _, PUT 5 50 _ (by simp) hD, hR.set5 (b := b) hD n8 n10 f1 d3 (by rw [hp0]; exact hown) (Mod.refl _ _)⟩
      · have hc : ∀ j y, (pre.map (Value.int .i64))[j]? = some y → w'.cell? (Addr.add ⟨g, 0, none⟩ j) = some y := fun j y hj => by
          have hlt : j < pre.length := by have := (List.getElem?_eq_some_iff.1 hj).1; simpa using this
          rw [add_off, Nat.zero_add, cellsAt hg2]
          rw [← h3, List.getElem?_take_of_lt (by omega)] at hj
          simpa using hj
        refine wpList_append_own w' rfl (.tmp 48) (.tmp 49) 43 rfl w.heap.size 3 i3 (.int .i64 0) 1 8 Try.underlying43 hi3 hz30 hz31 hz32 rfl (by decide) _ 0 [] hs hown ⟨g, 0, none⟩ pre.length cap (pre.map (Value.int .i64)) hx0 (by simp) hc (ints_one pre) (by unfold maxLen; omega) (by omega) (hR.m n10).size ?_
        intro v' w2 hown' hgr _
        rw [List.nil_append, Nat.zero_add] at hown'
        exact ⟨rfl, _, PUT 5 50 _ (by simp) hD, hR.set5 (b := b) hD n8 n10 f1 d3 hown' (Mod.of_grownBy hgr (fun r hr _ => by have h : some b = some r := hr; simpa using h.symm))⟩
    · exact step_move rfl (.tmp 11) rfl ⟨V1 vs 6 (.int .i64 k), by rw [EO 11 (by decide), x11]; exact PUT 6 51 _ (by simp) hD, hR.set6⟩
    · have n10 := no10 (by omega) (by omega)
      have d6 := hdep ⟨6, .data⟩ (by simp) rfl
      have hx6 : (putD ds7 D vs a0).eval (.tmp 51) = .int .i64 k := by rw [EV 6 51 (by simp) d6, hR.r6 d6]
      refine step_run rfl (.slice (some ⟨w'.heap.size, 0, none⟩) 1 1) (w'.alloc (.cells #[.int .i64 k] 3)) ?_ ⟨_, PUT 7 52 _ (by simp) hD, hR.set7 n10 (hR.m n10).size⟩
      have e : execOp (putD ds7 D vs a0).eval o7 = execOp (fun _ => .int .i64 k) o7 := by
        unfold execOp
        simp only [List.map_toArray, List.map_cons, List.map_nil, hx6]
      have e2 : (execOp (fun _ => .int .i64 k) o7).run Try.prog w' = .ok (.value (.slice (some ⟨w'.heap.size, 0, none⟩) 1 1)) (w'.alloc (.cells #[.int .i64 k] 3)) := by kernel_rfl
      rw [e]
      exact e2
    · have n10 := no10 (by omega) (by omega)
      have d5 := hdep ⟨5, .data⟩ (by simp) rfl
      have d7 := hdep ⟨7, .data⟩ (by simp) rfl
      obtain ⟨b, f1, f2, f3⟩ := hR.r7 d7 hD
      have hs : (putD ds7 D vs a0).eval (.tmp 50) = vs 5 := EV 5 50 (by simp) d5
      have hx0 : (putD ds7 D vs a0).eval (.tmp 52) = .slice (some ⟨b, 0, none⟩) 1 1 := by rw [EV 7 52 (by simp) d7, f1]
      have hc : ∀ j y, [Value.int .i64 k][j]? = some y → w'.cell? (Addr.add ⟨b, 0, none⟩ j) = some y := fun j y hj => by
        rw [add_off, Nat.zero_add, cellsAt f3]
        simpa using hj
      refine wpList_append_own w' rfl (.tmp 50) (.tmp 52) 43 rfl w.heap.size 3 i3 (.int .i64 0) 1 8 Try.underlying43 hi3 hz30 hz31 hz32 rfl (by decide) _ pre.length _ hs (hR.r5 d5 hD) ⟨b, 0, none⟩ 1 1 [.int .i64 k] hx0 rfl hc (by simp [Value.oneCell']) (by unfold maxLen; omega) (by omega) (hR.m n10).size ?_
      intro v' w2 hown' hgr _
      have hI : IntV w2 v' (pre ++ [k]) := by
        unfold IntV
        rw [List.length_append, List.length_singleton, List.map_append]
        exact own_mono hown' (Nat.zero_le _)
      exact ⟨rfl, _, PUT 8 53 _ (by simp) hD, hR.set8 d5 hD n10 hI (Mod.of_grownBy hgr (fun r hr _ => hr))⟩
    · have n11 : D 11 = false := by cases hd : D 11 with
        | false => rfl
        | true => rw [(c10 (c11 hd)).2.2.2.2] at hD; cases hD
      refine step_move rfl (.tmp 4) rfl ⟨V1 vs 9 v, ?_, hR.set9⟩
      rw [putD_wait a0 (s := 4) (by simp only [ds7]; intro x hx; simp only [List.mem_cons, List.not_mem_nil, or_false] at hx; rcases hx with rfl | rfl | rfl | rfl | rfl | rfl | rfl | rfl | rfl | rfl | rfl | rfl <;> simp [n11]), x4]
      exact PUT 9 54 _ (by simp) hD
    · have d0 := hdep ⟨0, .data⟩ (by simp) rfl
      have d1 := hdep ⟨1, .data⟩ (by simp) rfl
      have d2 := hdep ⟨2, .data⟩ (by simp) rfl
      have d8 := hdep ⟨8, .data⟩ (by simp) rfl
      have d9 := hdep ⟨9, .data⟩ (by simp) rfl
      have n11 : D 11 = false := by cases hd : D 11 with
        | false => rfl
        | true => rw [c11 hd] at hD; cases hD
      refine step_call rfl 67 _ _ rfl (fun _ _ => by kernel_rfl) ?_
      have hargs : (#[Operand.tmp 45, Operand.tmp 46, Operand.tmp 47, Operand.tmp 53, Operand.tmp 54] : Array Operand).map (putD ds7 D vs a0).eval = #[plV p, T, H, vs 8, v] := by
        simp only [List.map_toArray, List.map_cons, List.map_nil]
        rw [EV 0 45 (by simp) d0, EV 1 46 (by simp) d1, EV 2 47 (by simp) d2, EV 8 53 (by simp) d8, EV 9 54 (by simp) d9, hR.r0 d0, hR.r1 d1, hR.r2 d2, hR.r9 d9]
      rw [hargs]
      refine (hcall _ _ (hR.r8 d8 hD) (hR.m hD)).mono fun e w2 hh => ?_
      obtain ⟨v', rfl, hpo⟩ := hh
      exact ⟨v', rfl, V1 vs 10 v', PUT 10 55 _ (by simp) hD, hR.set10 (c8 d8).1 d8 n11 hpo⟩
    · have d10 := hdep ⟨10, .data⟩ (by simp) rfl
      refine step_assign rfl (.tmp 55) rfl ⟨V1 vs 11 (vs 10), ?_, hR.set11 d10⟩
      rw [EV 10 55 (by simp) d10]
      exact PUT 11 4 _ (by simp) hD
  · rintro D a w' hall ⟨vs, rfl, hR⟩
    have e : putD ds7 D vs a0 = ds7.foldl (fun a x => a.put (some x.2) (vs x.1)) a0 := by
      have A := fun j (hj : j < 12) => hall j (by simpa using hj)
      simp only [putD, ds7, List.foldl_cons, List.foldl_nil, A 0 (by omega), A 1 (by omega), A 2 (by omega), A 3 (by omega), A 4 (by omega), A 5 (by omega), A 6 (by omega), A 7 (by omega), A 8 (by omega), A 9 (by omega), A 10 (by omega), A 11 (by omega), if_true]
    rw [e]
    exact hend vs w' (hR.r10 (hall 10 (by simp))) (hR.r11 (hall 11 (by simp)))
end Go.Proofs.Ytnjbamikfjdofaa

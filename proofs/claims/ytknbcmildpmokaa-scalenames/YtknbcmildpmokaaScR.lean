/- drawn regions: what a scale and a camera append. -/
import Derived.Test.YtknbcmildpmokaaScH
import Derived.Test.YtknbcmildpmokaaGap
set_option linter.unusedSimpArgs false
set_option linter.unusedVariables false
namespace Go.Proofs.Ytknbcmildpmokaa
open Go Go.RowKit Go.Shelf


theorem enter102 : ∀ args w, (callFunc 102 args).run Try.prog w = .ok (.enter 102 args) w := enters_of Try.func102 (by kernel_rfl) rfl
theorem enter71 : ∀ args w, (callFunc 71 args).run Try.prog w = .ok (.enter 71 args) w := enters_of Try.func71 (by kernel_rfl) rfl
@[reducible] def wg0 : Oper := { dst := some 18, op := Op.move (Operand.tmp 7), type := 124, pos := "machine.go:17", after := #[], guard := none }
@[reducible] def wg1 : Oper := { dst := some 19, op := Op.fieldAddr 74 (Operand.tmp 9) 1, type := 0, pos := "machine.go:17", after := #[], guard := none }
@[reducible] def wg2 : Oper := { dst := some 20, op := Op.load 24 (Operand.tmp 19), type := 24, pos := "machine.go:17", after := #[{ on := 1, ground := Ground.data }], guard := none }
@[reducible] def wg3 : Oper := { dst := some 21, op := Op.fieldAddr 74 (Operand.tmp 9) 0, type := 0, pos := "machine.go:17", after := #[], guard := none }
@[reducible] def wg4 : Oper := { dst := some 22, op := Op.load 3 (Operand.tmp 21), type := 3, pos := "machine.go:17", after := #[{ on := 3, ground := Ground.data }], guard := none }
@[reducible] def wg5 : Oper := { dst := some 23, op := Op.move (Operand.tmp 8), type := 3, pos := "machine.go:17", after := #[], guard := none }
@[reducible] def wg6 : Oper := { dst := some 24, op := Op.indexAddr 77 (Operand.tmp 5) (Operand.tmp 23), type := 0, pos := "machine.go:17", after := #[{ on := 5, ground := Ground.data }], guard := none }
@[reducible] def wg7 : Oper := { dst := some 25, op := Op.load 3 (Operand.tmp 24), type := 3, pos := "machine.go:17", after := #[{ on := 6, ground := Ground.data }], guard := none }
@[reducible] def wg8 : Oper := { dst := some 26, op := Op.binOp BinOp.add 3 (Operand.tmp 22) (Operand.tmp 25) 3, type := 3, pos := "machine.go:17", after := #[{ on := 4, ground := Ground.data }, { on := 7, ground := Ground.data }], guard := none }
@[reducible] def wg9 : Oper := { dst := some 27, op := Op.call { callee := Callee.value (Operand.func 102), args := #[Operand.tmp 20, Operand.tmp 26], argTypes := #[78, 3] }, type := 78, pos := "machine.go:17", after := #[{ on := 2, ground := Ground.data }, { on := 8, ground := Ground.data }], guard := none }
@[reducible] def wg10 : Oper := { dst := some 28, op := Op.buildSlice 124 1 #[(0, Operand.tmp 27)], type := 124, pos := "machine.go:17", after := #[{ on := 9, ground := Ground.data }], guard := none }
@[reducible] def wg11 : Oper := { dst := some 29, op := Op.call { callee := Callee.builtin Builtin.append, args := #[Operand.tmp 18, Operand.tmp 28], argTypes := #[124, 124] }, type := 124, pos := "machine.go:17", after := #[{ on := 0, ground := Ground.data }, { on := 10, ground := Ground.data }, { on := 9, ground := Ground.chain }], guard := none }
@[reducible] def wg12 : Oper := { dst := some 7, op := Op.assign (Operand.tmp 29), type := 124, pos := "machine.go:17", after := #[{ on := 11, ground := Ground.data }, { on := 11, ground := Ground.chain }, { on := 0, ground := Ground.phase }, { on := 1, ground := Ground.phase }, { on := 2, ground := Ground.phase }, { on := 3, ground := Ground.phase }, { on := 4, ground := Ground.phase }, { on := 5, ground := Ground.phase }, { on := 6, ground := Ground.phase }, { on := 7, ground := Ground.phase }, { on := 8, ground := Ground.phase }, { on := 9, ground := Ground.phase }, { on := 10, ground := Ground.phase }, { on := 11, ground := Ground.phase }], guard := none }
@[reducible] def wgOps : List Oper := [wg0, wg1, wg2, wg3, wg4, wg5, wg6, wg7, wg8, wg9, wg10, wg11, wg12]
@[reducible] def wgDs : List (Nat × Nat) := [(0, 18), (1, 19), (2, 20), (3, 21), (4, 22), (5, 23), (6, 24), (7, 25), (8, 26), (9, 27), (10, 28), (11, 29), (12, 7)]
theorem wgB : lowB wgOps = true := by kernel_rfl
theorem wgOk : slotsB wgOps wgDs 38 = true := by decide +kernel
@[reducible] def wgC (wb hb k n cap : Nat) (ao : Option Addr) (kk : Knd) (z : Int) : Nat → Value := fun idx => ([Value.slice ao n cap, Value.pointer (some ⟨wb, 1, none⟩), Value.agg #[.int .i64 kk.w.1, .int .i64 kk.w.2], Value.pointer (some ⟨wb, 0, none⟩), Value.int .i64 (kk.many), Value.int .i64 ((k : Int)), Value.pointer (some ⟨hb, k, none⟩), Value.int .i64 (z), Value.int .i64 (kk.many + z), Value.agg #[.int .i64 (kk.w.1 * (kk.many + z)), .int .i64 (kk.w.2 * (kk.many + z))], undef, undef, undef] : List Value).getD idx undef
set_option maxRecDepth 100000 in
set_option maxHeartbeats 4000000 in
theorem region_wg {rid : Nat} {Q : Exit → Act → World → Prop} {a0 : Act} {w : World} {wb hb k n cap : Nat} {ao : Option Addr} {kk : Knd} {z : Int} (hsz : a0.tmps.size = 38) (x5 : a0.eval (.tmp 5) = Value.pointer (some ⟨hb, 0, none⟩)) (x7 : a0.eval (.tmp 7) = Value.slice ao n cap) (x8 : a0.eval (.tmp 8) = Value.int .i64 ((k : Int))) (x9 : a0.eval (.tmp 9) = Value.pointer (some ⟨wb, 0, none⟩))
    (hk4 : (k : Int) < 4) (hws : IntKind.i64.wrap (kk.many + z) = kk.many + z) (FIN : ∀ W', Mod noB w W' → W'.cell? ⟨wb, 0, none⟩ = some (.int .i64 kk.many) ∧ W'.cell? ⟨wb, 1, none⟩ = some (.int .i64 kk.w.1) ∧ W'.cell? ⟨wb, 2, none⟩ = some (.int .i64 kk.w.2) ∧ W'.cell? ⟨hb, k, none⟩ = some (.int .i64 z)) {base : Nat} {xl : List Value} (HTM : ∀ w', Calls Try.prog 102 #[.agg #[.int .i64 kk.w.1, .int .i64 kk.w.2], .int .i64 (kk.many + z)] w' fun e w2 => e = .returned (.agg #[.int .i64 (kk.w.1 * (kk.many + z)), .int .i64 (kk.w.2 * (kk.many + z))]) ∧ Mod noB w' w2)
    (hown : ∀ w', Mod noB w w' → w'.ownsRow base 78 2 (Value.slice ao n cap) n xl) (hbase : base ≤ w.heap.size) (h63 : n ≤ 1000000000)
    (hend : ∀ g v' w1 w', Mod noB w w1 → w1.grownBy w' (Value.slice ao n cap).ownBlock → w'.ownsRow base 78 2 v' (n + 1) (xl ++ (spC (kk.w.1 * (kk.many + z), kk.w.2 * (kk.many + z))).toList) → (v'.ownBlock = (Value.slice ao n cap).ownBlock ∨ v'.ownBlock = some w1.heap.size) →
      Q .normal (wgDs.foldl (fun a x => a.put (some x.2) (valsA (wgC wb hb k n cap ao kk z) 10 11 12 (.slice (some ⟨g, 0, none⟩) 1 1) v' x.1)) a0) w') : (Code.region rid wgOps.toArray true).wp Try.prog Q a0 w := by
  obtain ⟨i0, hi, hz0, hz1, hz2⟩ := info_parts info78
  refine region_app wgB wgDs hsz wgOk (by kernel_rfl) (wgC wb hb k n cap ao kk z) 10 11 wg10 wg11 wg12 rfl rfl rfl rfl (by decide) (by decide +kernel) (by decide +kernel) 0 18 28 29 7 124 rfl rfl rfl rfl rfl (by decide +kernel) (by decide) (by decide) 1 1 (spC (kk.w.1 * (kk.many + z), kk.w.2 * (kk.many + z))) 78 ?_ ?_ (base) 78 i0 (spV (0, 0)) 2 16 Try.underlying124 hi hz0 hz1 hz2 rfl (by decide) (n) (xl) hown (by rfl) (by simp [Value.oneCell']) (by unfold maxLen; omega) (by omega) hbase hend
  · intro i o ρ w' hi hib ho hM kn far
    rcases (by omega : i = 0 ∨ i = 1 ∨ i = 2 ∨ i = 3 ∨ i = 4 ∨ i = 5 ∨ i = 6 ∨ i = 7 ∨ i = 8 ∨ i = 9) with rfl | rfl | rfl | rfl | rfl | rfl | rfl | rfl | rfl | rfl
    all_goals (obtain rfl := Option.some.inj ho)
    · have e7 : ρ.eval (.tmp 7) = Value.slice ao n cap := (far 7 (by decide +kernel)).trans x7
      exact step_run rfl _ _ (run_move rfl e7) ⟨rfl, Mod.refl _ _⟩
    · have e9 : ρ.eval (.tmp 9) = Value.pointer (some ⟨wb, 0, none⟩) := (far 9 (by decide +kernel)).trans x9
      refine step_run rfl (Value.pointer (some ⟨wb, 1, none⟩)) _ ?_ ⟨rfl, Mod.refl _ _⟩
      simp only [execOp, e9]
      go_simp
    · have e19 : ρ.eval (.tmp 19) = Value.pointer (some ⟨wb, 1, none⟩) := kn 1 19 (by decide) (by decide +kernel) (by decide +kernel)
      obtain ⟨c0, c1, c2, c3⟩ := FIN _ hM
      refine step_run rfl (Value.agg #[.int .i64 kk.w.1, .int .i64 kk.w.2]) _ ?_ ⟨rfl, Mod.refl _ _⟩
      simp only [execOp, e19]
      go_simp
    · have e9 : ρ.eval (.tmp 9) = Value.pointer (some ⟨wb, 0, none⟩) := (far 9 (by decide +kernel)).trans x9
      refine step_run rfl (Value.pointer (some ⟨wb, 0, none⟩)) _ ?_ ⟨rfl, Mod.refl _ _⟩
      simp only [execOp, e9]
      go_simp
    · have e21 : ρ.eval (.tmp 21) = Value.pointer (some ⟨wb, 0, none⟩) := kn 3 21 (by decide) (by decide +kernel) (by decide +kernel)
      obtain ⟨c0, c1, c2, c3⟩ := FIN _ hM
      refine step_run rfl (Value.int .i64 (kk.many)) _ ?_ ⟨rfl, Mod.refl _ _⟩
      simp only [execOp, e21]
      go_simp
    · have e8 : ρ.eval (.tmp 8) = Value.int .i64 ((k : Int)) := (far 8 (by decide +kernel)).trans x8
      exact step_run rfl _ _ (run_move rfl e8) ⟨rfl, Mod.refl _ _⟩
    · have e5 : ρ.eval (.tmp 5) = Value.pointer (some ⟨hb, 0, none⟩) := (far 5 (by decide +kernel)).trans x5
      have e23 : ρ.eval (.tmp 23) = Value.int .i64 ((k : Int)) := kn 5 23 (by decide) (by decide +kernel) (by decide +kernel)
      refine step_run rfl (Value.pointer (some ⟨hb, k, none⟩)) _ ?_ ⟨rfl, Mod.refl _ _⟩
      simp only [execOp, e5, e23]
      go_simp
    · have e24 : ρ.eval (.tmp 24) = Value.pointer (some ⟨hb, k, none⟩) := kn 6 24 (by decide) (by decide +kernel) (by decide +kernel)
      obtain ⟨c0, c1, c2, c3⟩ := FIN _ hM
      refine step_run rfl (Value.int .i64 (z)) _ ?_ ⟨rfl, Mod.refl _ _⟩
      simp only [execOp, e24]
      go_simp
    · have e22 : ρ.eval (.tmp 22) = Value.int .i64 (kk.many) := kn 4 22 (by decide) (by decide +kernel) (by decide +kernel)
      have e25 : ρ.eval (.tmp 25) = Value.int .i64 (z) := kn 7 25 (by decide) (by decide +kernel) (by decide +kernel)
      refine step_run rfl (Value.int .i64 (kk.many + z)) _ ?_ ⟨rfl, Mod.refl _ _⟩
      simp only [execOp, e22, e25]
      go_simp
      try rw [hws]
      try rfl
    · have e20 : ρ.eval (.tmp 20) = Value.agg #[.int .i64 kk.w.1, .int .i64 kk.w.2] := kn 2 20 (by decide) (by decide +kernel) (by decide +kernel)
      have e26 : ρ.eval (.tmp 26) = Value.int .i64 (kk.many + z) := kn 8 26 (by decide) (by decide +kernel) (by decide +kernel)
      refine step_call rfl 102 _ _ rfl enter102 ?_
      simp only [List.map_toArray, List.map_cons, List.map_nil, e20, e26]
      refine (HTM w').mono ?_
      rintro e w2 ⟨h1, h2⟩
      exact ⟨_, h1, rfl, h2⟩
  · intro ρ w' hM kn far
    have e27 : ρ.eval (.tmp 27) = Value.agg #[.int .i64 (kk.w.1 * (kk.many + z)), .int .i64 (kk.w.2 * (kk.many + z))] := kn 9 27 (by decide) (by decide +kernel) (by decide +kernel)
    have q27 : ρ.tmps[27]?.getD undef = Value.agg #[.int .i64 (kk.w.1 * (kk.many + z)), .int .i64 (kk.w.2 * (kk.many + z))] := by simpa [Act.eval] using e27
    simp only [execOp]
    go_simp
@[reducible] def ct0 : Oper := { dst := some 24, op := Op.move (Operand.tmp 7), type := 124, pos := "machine.go:32", after := #[], guard := none }
@[reducible] def ct1 : Oper := { dst := some 25, op := Op.fieldAddr 74 (Operand.tmp 9) 0, type := 0, pos := "machine.go:32", after := #[], guard := none }
@[reducible] def ct2 : Oper := { dst := some 26, op := Op.load 3 (Operand.tmp 25), type := 3, pos := "machine.go:32", after := #[{ on := 1, ground := Ground.data }], guard := none }
@[reducible] def ct3 : Oper := { dst := some 27, op := Op.move (Operand.tmp 8), type := 3, pos := "machine.go:32", after := #[], guard := none }
@[reducible] def ct4 : Oper := { dst := some 28, op := Op.indexAddr 77 (Operand.tmp 5) (Operand.tmp 27), type := 0, pos := "machine.go:32", after := #[{ on := 3, ground := Ground.data }], guard := none }
@[reducible] def ct5 : Oper := { dst := some 29, op := Op.load 3 (Operand.tmp 28), type := 3, pos := "machine.go:32", after := #[{ on := 4, ground := Ground.data }], guard := none }
@[reducible] def ct6 : Oper := { dst := some 30, op := Op.binOp BinOp.add 3 (Operand.tmp 26) (Operand.tmp 29) 3, type := 3, pos := "machine.go:32", after := #[{ on := 2, ground := Ground.data }, { on := 5, ground := Ground.data }], guard := none }
@[reducible] def ct7 : Oper := { dst := some 31, op := Op.call { callee := Callee.value (Operand.func 71), args := #[Operand.tmp 30], argTypes := #[3] }, type := 78, pos := "machine.go:32", after := #[{ on := 6, ground := Ground.data }], guard := none }
@[reducible] def ct8 : Oper := { dst := some 32, op := Op.buildSlice 124 1 #[(0, Operand.tmp 31)], type := 124, pos := "machine.go:32", after := #[{ on := 7, ground := Ground.data }], guard := none }
@[reducible] def ct9 : Oper := { dst := some 33, op := Op.call { callee := Callee.builtin Builtin.append, args := #[Operand.tmp 24, Operand.tmp 32], argTypes := #[124, 124] }, type := 124, pos := "machine.go:32", after := #[{ on := 0, ground := Ground.data }, { on := 8, ground := Ground.data }, { on := 7, ground := Ground.chain }], guard := none }
@[reducible] def ct10 : Oper := { dst := some 7, op := Op.assign (Operand.tmp 33), type := 124, pos := "machine.go:32", after := #[{ on := 9, ground := Ground.data }, { on := 9, ground := Ground.chain }, { on := 0, ground := Ground.phase }, { on := 1, ground := Ground.phase }, { on := 2, ground := Ground.phase }, { on := 3, ground := Ground.phase }, { on := 4, ground := Ground.phase }, { on := 5, ground := Ground.phase }, { on := 6, ground := Ground.phase }, { on := 7, ground := Ground.phase }, { on := 8, ground := Ground.phase }, { on := 9, ground := Ground.phase }], guard := none }
@[reducible] def ctOps : List Oper := [ct0, ct1, ct2, ct3, ct4, ct5, ct6, ct7, ct8, ct9, ct10]
@[reducible] def ctDs : List (Nat × Nat) := [(0, 24), (1, 25), (2, 26), (3, 27), (4, 28), (5, 29), (6, 30), (7, 31), (8, 32), (9, 33), (10, 7)]
theorem ctB : lowB ctOps = true := by kernel_rfl
theorem ctOk : slotsB ctOps ctDs 39 = true := by decide +kernel
@[reducible] def ctC (wb hb k n cap : Nat) (ao : Option Addr) (kk : Knd) (z : Int) : Nat → Value := fun idx => ([Value.slice ao n cap, Value.pointer (some ⟨wb, 0, none⟩), Value.int .i64 (kk.many), Value.int .i64 ((k : Int)), Value.pointer (some ⟨hb, k, none⟩), Value.int .i64 (z), Value.int .i64 (kk.many + z), Value.agg #[.int .i64 (kk.many + z), .int .i64 (kk.many + z)], undef, undef, undef] : List Value).getD idx undef
set_option maxRecDepth 100000 in
set_option maxHeartbeats 4000000 in
theorem region_ct {rid : Nat} {Q : Exit → Act → World → Prop} {a0 : Act} {w : World} {wb hb k n cap : Nat} {ao : Option Addr} {kk : Knd} {z : Int} (hsz : a0.tmps.size = 39) (x5 : a0.eval (.tmp 5) = Value.pointer (some ⟨hb, 0, none⟩)) (x7 : a0.eval (.tmp 7) = Value.slice ao n cap) (x8 : a0.eval (.tmp 8) = Value.int .i64 ((k : Int))) (x9 : a0.eval (.tmp 9) = Value.pointer (some ⟨wb, 0, none⟩))
    (hk4 : (k : Int) < 4) (hws : IntKind.i64.wrap (kk.many + z) = kk.many + z) (FIN : ∀ W', Mod noB w W' → W'.cell? ⟨wb, 0, none⟩ = some (.int .i64 kk.many) ∧ W'.cell? ⟨wb, 1, none⟩ = some (.int .i64 kk.w.1) ∧ W'.cell? ⟨wb, 2, none⟩ = some (.int .i64 kk.w.2) ∧ W'.cell? ⟨hb, k, none⟩ = some (.int .i64 z)) {base : Nat} {xl : List Value}
    (hown : ∀ w', Mod noB w w' → w'.ownsRow base 78 2 (Value.slice ao n cap) n xl) (hbase : base ≤ w.heap.size) (h63 : n ≤ 1000000000)
    (hend : ∀ g v' w1 w', Mod noB w w1 → w1.grownBy w' (Value.slice ao n cap).ownBlock → w'.ownsRow base 78 2 v' (n + 1) (xl ++ (spC (kk.many + z, kk.many + z)).toList) → (v'.ownBlock = (Value.slice ao n cap).ownBlock ∨ v'.ownBlock = some w1.heap.size) →
      Q .normal (ctDs.foldl (fun a x => a.put (some x.2) (valsA (ctC wb hb k n cap ao kk z) 8 9 10 (.slice (some ⟨g, 0, none⟩) 1 1) v' x.1)) a0) w') : (Code.region rid ctOps.toArray true).wp Try.prog Q a0 w := by
  obtain ⟨i0, hi, hz0, hz1, hz2⟩ := info_parts info78
  refine region_app ctB ctDs hsz ctOk (by kernel_rfl) (ctC wb hb k n cap ao kk z) 8 9 ct8 ct9 ct10 rfl rfl rfl rfl (by decide) (by decide +kernel) (by decide +kernel) 0 24 32 33 7 124 rfl rfl rfl rfl rfl (by decide +kernel) (by decide) (by decide) 1 1 (spC (kk.many + z, kk.many + z)) 78 ?_ ?_ (base) 78 i0 (spV (0, 0)) 2 16 Try.underlying124 hi hz0 hz1 hz2 rfl (by decide) (n) (xl) hown (by rfl) (by simp [Value.oneCell']) (by unfold maxLen; omega) (by omega) hbase hend
  · intro i o ρ w' hi hib ho hM kn far
    rcases (by omega : i = 0 ∨ i = 1 ∨ i = 2 ∨ i = 3 ∨ i = 4 ∨ i = 5 ∨ i = 6 ∨ i = 7) with rfl | rfl | rfl | rfl | rfl | rfl | rfl | rfl
    all_goals (obtain rfl := Option.some.inj ho)
    · have e7 : ρ.eval (.tmp 7) = Value.slice ao n cap := (far 7 (by decide +kernel)).trans x7
      exact step_run rfl _ _ (run_move rfl e7) ⟨rfl, Mod.refl _ _⟩
    · have e9 : ρ.eval (.tmp 9) = Value.pointer (some ⟨wb, 0, none⟩) := (far 9 (by decide +kernel)).trans x9
      refine step_run rfl (Value.pointer (some ⟨wb, 0, none⟩)) _ ?_ ⟨rfl, Mod.refl _ _⟩
      simp only [execOp, e9]
      go_simp
    · have e25 : ρ.eval (.tmp 25) = Value.pointer (some ⟨wb, 0, none⟩) := kn 1 25 (by decide) (by decide +kernel) (by decide +kernel)
      obtain ⟨c0, c1, c2, c3⟩ := FIN _ hM
      refine step_run rfl (Value.int .i64 (kk.many)) _ ?_ ⟨rfl, Mod.refl _ _⟩
      simp only [execOp, e25]
      go_simp
    · have e8 : ρ.eval (.tmp 8) = Value.int .i64 ((k : Int)) := (far 8 (by decide +kernel)).trans x8
      exact step_run rfl _ _ (run_move rfl e8) ⟨rfl, Mod.refl _ _⟩
    · have e5 : ρ.eval (.tmp 5) = Value.pointer (some ⟨hb, 0, none⟩) := (far 5 (by decide +kernel)).trans x5
      have e27 : ρ.eval (.tmp 27) = Value.int .i64 ((k : Int)) := kn 3 27 (by decide) (by decide +kernel) (by decide +kernel)
      refine step_run rfl (Value.pointer (some ⟨hb, k, none⟩)) _ ?_ ⟨rfl, Mod.refl _ _⟩
      simp only [execOp, e5, e27]
      go_simp
    · have e28 : ρ.eval (.tmp 28) = Value.pointer (some ⟨hb, k, none⟩) := kn 4 28 (by decide) (by decide +kernel) (by decide +kernel)
      obtain ⟨c0, c1, c2, c3⟩ := FIN _ hM
      refine step_run rfl (Value.int .i64 (z)) _ ?_ ⟨rfl, Mod.refl _ _⟩
      simp only [execOp, e28]
      go_simp
    · have e26 : ρ.eval (.tmp 26) = Value.int .i64 (kk.many) := kn 2 26 (by decide) (by decide +kernel) (by decide +kernel)
      have e29 : ρ.eval (.tmp 29) = Value.int .i64 (z) := kn 5 29 (by decide) (by decide +kernel) (by decide +kernel)
      refine step_run rfl (Value.int .i64 (kk.many + z)) _ ?_ ⟨rfl, Mod.refl _ _⟩
      simp only [execOp, e26, e29]
      go_simp
      try rw [hws]
      try rfl
    · have e30 : ρ.eval (.tmp 30) = Value.int .i64 (kk.many + z) := kn 6 30 (by decide) (by decide +kernel) (by decide +kernel)
      refine step_call rfl 71 _ _ rfl enter71 ?_
      simp only [List.map_toArray, List.map_cons, List.map_nil, e30]
      refine (just_any (kk.many + z) w').mono ?_
      rintro e w2 ⟨h1, h2⟩
      exact ⟨_, h1, rfl, h2⟩
  · intro ρ w' hM kn far
    have e31 : ρ.eval (.tmp 31) = Value.agg #[.int .i64 (kk.many + z), .int .i64 (kk.many + z)] := kn 7 31 (by decide) (by decide +kernel) (by decide +kernel)
    have q31 : ρ.tmps[31]?.getD undef = Value.agg #[.int .i64 (kk.many + z), .int .i64 (kk.many + z)] := by simpa [Act.eval] using e31
    simp only [execOp]
    go_simp

end Go.Proofs.Ytknbcmildpmokaa

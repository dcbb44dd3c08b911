/- Several texts in one (a claim holds at most 60 files): each has its own words ahead of it. -/
import Derived.Test.YtdncppempgpooaaDoorRxG
import Derived.ArgAppend
import Derived.Test.YtdncppempgpooaaDoorRvU
set_option linter.unusedSimpArgs false
set_option linter.unusedVariables false

/- RuleLess: the regions that ask for the best plan and for the proof of one stint less. -/
namespace Go.Proofs.YtdncppempgpooaaDoor
open Go Go.RowKit Go.Shelf Go.Maps Go.WideMaps

section
variable {o : Oper} {a : Act} {w : World} {x y z : Operand}
theorem run_slice33 (hop : o.op = .slice 33 x none (some y) none) {b f n c k : Nat} (hx : a.eval x = .slice (some ⟨b, f, none⟩) n c) (hy : a.eval y = .int .i64 k) (hk : k ≤ n) (hc : n ≤ c) (hcm : c ≤ 9223372036854775807) : (execOp a.eval o).run Tryd.prog w = .ok (.value (.slice (some ⟨b, f, none⟩) k c)) w := by
  have h1 : (k : Int) ≤ c := by omega
  have h0 : (0 : Int) ≤ k := by omega
  have h3 : k ≤ c := by omega
  simp only [execOp, hop, Option.map_some, Option.map_none, hx, hy]
  go_simp
  done
theorem run_len33 {s : Nat} (hop : o.op = .call { callee := Callee.builtin Builtin.len, args := #[.tmp s], argTypes := #[33] }) {ao : Option Addr} {n cap : Nat} (hx : a.eval (.tmp s) = .slice ao n cap) : (execOp a.eval o).run Tryd.prog w = .ok (.value (.int .i64 n)) w := by
  have hx' : a.tmps[s]?.getD undef = .slice ao n cap := by simpa [Act.eval] using hx
  simp only [execOp, hop]
  go_simp
  done
end
theorem tup3 {x y z x' y' z' : Value} (h : Value.tuple #[x, y, z] = Value.tuple #[x', y', z']) : x = x' ∧ y = y' ∧ z = z' := by simpa using h
theorem enter25 : ∀ args w, (callFunc 25 args).run Tryd.prog w = .ok (.enter 25 args) w := enters_of Tryd.func25 (by kernel_rfl) rfl
theorem enter20 : ∀ args w, (callFunc 20 args).run Tryd.prog w = .ok (.enter 20 args) w := enters_of Tryd.func20 (by kernel_rfl) rfl
def cuC (ao : Option Addr) (cap : Nat) (d : Dye) (lo : Option Addr) (n lcap : Nat) : Nat → Value
  | 0 => dyV ao d.bl.length cap d
  | 1 => .slice lo n lcap
  | 2 => .slice lo n lcap
  | 3 => .int .i64 n
  | 4 => .int .i64 (n - 1 : Nat)
  | _ => .slice lo (n - 1) lcap
/-- What the three results are, once they are there. -/
structure CuW (C : Nat → Value) (P : Value → Value → Value → World → Prop) (w : World) (D : Nat → Bool) (vs : Nat → Value) (w' : World) : Prop where
  c : ∀ j, j < 6 → D j = true → vs j = C j
  p : D 6 = true → ∃ x y z, Kept w' (P x y z) ∧ vs 6 = .tuple #[x, y, z] ∧ (D 7 = true → vs 7 = .tuple #[x, y, z]) ∧ (D 8 = true → vs 8 = x) ∧ (D 9 = true → vs 9 = y) ∧ (D 10 = true → vs 10 = z) ∧ (D 11 = true → vs 11 = x) ∧ (D 12 = true → vs 12 = y) ∧ (D 13 = true → vs 13 = z)
  m : Mod noB w w'
theorem CuW.read {C : Nat → Value} {P : Value → Value → Value → World → Prop} {w : World} {D : Nat → Bool} {vs : Nat → Value} {w' : World} (h : CuW C P w D vs w') {i : Nat} (hi : i < 6) : CuW C P w (fun j => j == i || D j) (fun j => if j = i then C i else vs j) w' := by
  have ne : ∀ k, 6 ≤ k → (k == i) = false := fun k hk => by simp; omega
  have ne2 : ∀ k, 6 ≤ k → ¬ k = i := fun k hk => by omega
  refine ⟨fun j a hd => ?_, fun h1 => ?_, h.m⟩
  · by_cases e : j = i
    · subst e; simp
    · simp only [e, if_false]
      have e2 : (j == i) = false := by simpa using e
      simp only [e2, Bool.false_or] at hd
      exact h.c j a hd
  · simp only [ne 6 (by omega), ne 7 (by omega), ne 8 (by omega), ne 9 (by omega), ne 10 (by omega), ne 11 (by omega), ne 12 (by omega), ne 13 (by omega), ne2 6 (by omega), ne2 7 (by omega), ne2 8 (by omega), ne2 9 (by omega), ne2 10 (by omega), ne2 11 (by omega), ne2 12 (by omega), ne2 13 (by omega), Bool.false_or, if_false] at h1 ⊢
    exact h.p h1
/-- One of the operations after the call: it yields what the results say. -/
theorem CuW.late {C : Nat → Value} {P : Value → Value → Value → World → Prop} {w : World} {D : Nat → Bool} {vs : Nat → Value} {w' : World} (h : CuW C P w D vs w') (h6 : D 6 = true) {i : Nat} (hi : 6 < i) (hi2 : i < 14) {v : Value} (hv : ∀ x y z, vs 6 = .tuple #[x, y, z] → v = match i with | 7 => .tuple #[x, y, z] | 8 => x | 9 => y | 10 => z | 11 => x | 12 => y | _ => z) : CuW C P w (fun j => j == i || D j) (fun j => if j = i then v else vs j) w' := by
  obtain ⟨x, y, z, hK, e6, e7, e8, e9, e10, e11, e12, e13⟩ := h.p h6
  have hv' := hv x y z e6
  refine ⟨fun j a hd => ?_, fun _ => ⟨x, y, z, hK, ?_, ?_⟩, h.m⟩
  · have e : ¬ j = i := by omega
    have e2 : (j == i) = false := by simpa using e
    simp only [e, if_false]
    simp only [e2, Bool.false_or] at hd
    exact h.c j a hd
  · have e : ¬ 6 = i := by omega
    simp only [e, if_false]; exact e6
  · rcases (by omega : i = 7 ∨ i = 8 ∨ i = 9 ∨ i = 10 ∨ i = 11 ∨ i = 12 ∨ i = 13) with rfl | rfl | rfl | rfl | rfl | rfl | rfl <;> simp_all

@[reducible] def cu0 : Oper := { dst := some 80, op := Op.load 24 (Operand.tmp 3), type := 24, pos := "outright.go:246", after := #[], guard := none }
@[reducible] def cu1 : Oper := { dst := some 81, op := Op.move (Operand.tmp 1), type := 33, pos := "outright.go:246", after := #[], guard := none }
@[reducible] def cu2 : Oper := { dst := some 82, op := Op.move (Operand.tmp 1), type := 33, pos := "outright.go:246", after := #[], guard := none }
@[reducible] def cu3 : Oper := { dst := some 83, op := Op.call { callee := Callee.builtin Builtin.len, args := #[Operand.tmp 82], argTypes := #[33] }, type := 3, pos := "outright.go:246", after := #[{ on := 2, ground := Ground.data }], guard := none }
@[reducible] def cu4 : Oper := { dst := some 84, op := Op.binOp BinOp.sub 3 (Operand.tmp 83) (Operand.const (Value.int IntKind.i64 1)) 3, type := 3, pos := "outright.go:246", after := #[{ on := 3, ground := Ground.data }], guard := none }
@[reducible] def cu5 : Oper := { dst := some 85, op := Op.slice 33 (Operand.tmp 81) none (some (Operand.tmp 84)) none, type := 33, pos := "outright.go:246", after := #[{ on := 1, ground := Ground.data }, { on := 4, ground := Ground.data }], guard := none }
@[reducible] def cu6 : Oper := { dst := some 86, op := Op.call { callee := Callee.value (Operand.func 25), args := #[Operand.tmp 80, Operand.tmp 85], argTypes := #[24, 33] }, type := 43, pos := "outright.go:246", after := #[{ on := 0, ground := Ground.data }, { on := 5, ground := Ground.data }], guard := none }
@[reducible] def cu7 : Oper := { dst := some 79, op := Op.move (Operand.tmp 86), type := 43, pos := "outright.go:246", after := #[{ on := 6, ground := Ground.data }], guard := none }
@[reducible] def cu8 : Oper := { dst := some 87, op := Op.extract (Operand.tmp 79) 0, type := 34, pos := "outright.go:246", after := #[{ on := 7, ground := Ground.data }], guard := none }
@[reducible] def cu9 : Oper := { dst := some 88, op := Op.extract (Operand.tmp 79) 1, type := 3, pos := "outright.go:246", after := #[{ on := 7, ground := Ground.data }, { on := 11, ground := Ground.gcOnly Departure.lateStores }], guard := none }
@[reducible] def cu10 : Oper := { dst := some 89, op := Op.extract (Operand.tmp 79) 2, type := 29, pos := "outright.go:246", after := #[{ on := 7, ground := Ground.data }, { on := 12, ground := Ground.gcOnly Departure.lateStores }], guard := none }
@[reducible] def cu11 : Oper := { dst := some 13, op := Op.assign (Operand.tmp 87), type := 34, pos := "outright.go:246", after := #[{ on := 8, ground := Ground.data }, { on := 6, ground := Ground.chain }, { on := 0, ground := Ground.phase }, { on := 1, ground := Ground.phase }, { on := 2, ground := Ground.phase }, { on := 3, ground := Ground.phase }, { on := 4, ground := Ground.phase }, { on := 5, ground := Ground.phase }, { on := 6, ground := Ground.phase }, { on := 7, ground := Ground.phase }, { on := 8, ground := Ground.phase }, { on := 9, ground := Ground.textOnly Departure.lateStores }, { on := 10, ground := Ground.textOnly Departure.lateStores }], guard := none }
@[reducible] def cu12 : Oper := { dst := some 14, op := Op.assign (Operand.tmp 88), type := 3, pos := "outright.go:246", after := #[{ on := 9, ground := Ground.data }, { on := 11, ground := Ground.chain }, { on := 0, ground := Ground.phase }, { on := 1, ground := Ground.phase }, { on := 2, ground := Ground.phase }, { on := 3, ground := Ground.phase }, { on := 4, ground := Ground.phase }, { on := 5, ground := Ground.phase }, { on := 6, ground := Ground.phase }, { on := 7, ground := Ground.phase }, { on := 8, ground := Ground.phase }, { on := 9, ground := Ground.phase }, { on := 10, ground := Ground.textOnly Departure.lateStores }, { on := 11, ground := Ground.phase }], guard := none }
@[reducible] def cu13 : Oper := { dst := some 15, op := Op.assign (Operand.tmp 89), type := 29, pos := "outright.go:246", after := #[{ on := 10, ground := Ground.data }, { on := 12, ground := Ground.chain }, { on := 0, ground := Ground.phase }, { on := 1, ground := Ground.phase }, { on := 2, ground := Ground.phase }, { on := 3, ground := Ground.phase }, { on := 4, ground := Ground.phase }, { on := 5, ground := Ground.phase }, { on := 6, ground := Ground.phase }, { on := 7, ground := Ground.phase }, { on := 8, ground := Ground.phase }, { on := 9, ground := Ground.phase }, { on := 10, ground := Ground.phase }, { on := 11, ground := Ground.phase }, { on := 12, ground := Ground.phase }], guard := none }
@[reducible] def cuOps : List Oper := [cu0, cu1, cu2, cu3, cu4, cu5, cu6, cu7, cu8, cu9, cu10, cu11, cu12, cu13]
@[reducible] def cuDs : List (Nat × Nat) := [(0, 80), (1, 81), (2, 82), (3, 83), (4, 84), (5, 85), (6, 86), (7, 79), (8, 87), (9, 88), (10, 89), (11, 13), (12, 14), (13, 15)]
theorem cuB : lowB cuOps = true := by kernel_rfl
theorem cuOk : okB cuOps cuDs 219 = true := by decide +kernel

set_option maxRecDepth 100000 in
set_option maxHeartbeats 4000000 in
theorem region_cu {rid : Nat} {Q : Exit → Act → World → Prop} {a0 : Act} {w : World} {ao : Option Addr} {cap : Nat} {d : Dye} {lo : Option Addr} {lb lf n lcap db : Nat} {P : Value → Value → Value → World → Prop} (hsz : a0.tmps.size = 219)
    (x3 : a0.eval (.tmp 3) = .pointer (some ⟨db, 0, none⟩)) (x1 : a0.eval (.tmp 1) = .slice lo n lcap) (hlo : lo = some ⟨lb, lf, none⟩) (hn : 1 ≤ n) (hnc : n ≤ lcap) (hcm : lcap ≤ 9223372036854775807) (hn2 : n ≤ 100)
    (hdie : w.heap[db]? = some (.cells (dyC ao d.bl.length cap d) 24))
    (HC : ∀ W, Mod noB w W → Calls Tryd.prog 25 #[dyV ao d.bl.length cap d, .slice lo (n - 1) lcap] W fun e w' => (∃ x y z, e = .returned (.tuple #[x, y, z]) ∧ Kept w' (P x y z)) ∧ Mod noB W w')
    (hend : ∀ (vs : Nat → Value) w' x y z, vs 11 = x → vs 12 = y → vs 13 = z → Kept w' (P x y z) → Mod noB w w' → Q .normal (cuDs.foldl (fun a x => a.put (some x.2) (vs x.1)) a0) w') : (Code.region rid cuOps.toArray true).wp Tryd.prog Q a0 w := by
  subst hlo
  refine region_word2 cuB cuDs 219 hsz cuOk (CuW (cuC ao cap d (some ⟨lb, lf, none⟩) n lcap) P w) ?_ ?_ ?_
  · exact ⟨fun _ _ h => absurd h (by decide), fun h => absurd h (by decide), (Mod.refl _ _).drew⟩
  · intro D vs i' o ρ w' hlt hcl ho hD hdep EV EO hW
    have far : ∀ s, s ∉ cuDs.map Prod.snd → ρ.eval (.tmp s) = a0.eval (.tmp s) := fun s hs => EO s fun x hx e => absurd (e ▸ List.mem_map.2 ⟨x, hx, rfl⟩ : s ∈ cuDs.map Prod.snd) hs
    have kn : ∀ j s', j < 6 → (∃ e ∈ o.after, Region.binds .any e = true ∧ e.on = j) → (j, s') ∈ cuDs → ρ.eval (.tmp s') = cuC ao cap d (some ⟨lb, lf, none⟩) n lcap j := fun j s' h1 ⟨e, he, hb, hje⟩ hm => (EV _ _ hm (hje ▸ hdep e he hb)).trans (hW.c j h1 (hje ▸ hdep e he hb))
    have c7 : D 7 = true → D 6 = true := fun h => hcl 7 cu7 rfl h ⟨6, .data⟩ (by simp) rfl
    have c8 : D 8 = true → D 7 = true := fun h => hcl 8 cu8 rfl h ⟨7, .data⟩ (by simp) rfl
    have c9 : D 9 = true → D 7 = true := fun h => hcl 9 cu9 rfl h ⟨7, .data⟩ (by simp) rfl
    have c10 : D 10 = true → D 7 = true := fun h => hcl 10 cu10 rfl h ⟨7, .data⟩ (by simp) rfl
    have c11 : D 11 = true → D 8 = true := fun h => hcl 11 cu11 rfl h ⟨8, .data⟩ (by simp) rfl
    have c12 : D 12 = true → D 9 = true := fun h => hcl 12 cu12 rfl h ⟨9, .data⟩ (by simp) rfl
    have c13 : D 13 = true → D 10 = true := fun h => hcl 13 cu13 rfl h ⟨10, .data⟩ (by simp) rfl
    have hlt' : i' < 14 := hlt
    rcases (by omega : i' = 0 ∨ i' = 1 ∨ i' = 2 ∨ i' = 3 ∨ i' = 4 ∨ i' = 5 ∨ i' = 6 ∨ i' = 7 ∨ i' = 8 ∨ i' = 9 ∨ i' = 10 ∨ i' = 11 ∨ i' = 12 ∨ i' = 13) with rfl | rfl | rfl | rfl | rfl | rfl | rfl | rfl | rfl | rfl | rfl | rfl | rfl | rfl
    all_goals (obtain rfl := Option.some.inj ho)
    · exact step_loadRow rfl 24 rfl db ((far 3 (by decide)).trans x3) _ 24 _ (hW.m.at hdie id) rfl Tryd.underlying24 info24 ⟨_, rfl, hW.read (by omega)⟩
    · exact step_run rfl _ _ (run_move rfl ((far 1 (by decide)).trans x1)) ⟨_, rfl, hW.read (by omega)⟩
    · exact step_run rfl _ _ (run_move rfl ((far 1 (by decide)).trans x1)) ⟨_, rfl, hW.read (by omega)⟩
    · exact step_run rfl _ _ (run_len33 rfl (kn 2 82 (by omega) ⟨⟨2, .data⟩, by simp, rfl, rfl⟩ (by decide))) ⟨_, rfl, hW.read (by omega)⟩
    · exact step_run rfl _ _ (run_sub rfl (kn 3 83 (by omega) ⟨⟨3, .data⟩, by simp, rfl, rfl⟩ (by decide)) rfl (show (n : Int) - 1 = ((n - 1 : Nat) : Int) by omega) (by omega) (by omega)) ⟨_, rfl, hW.read (by omega)⟩
    · exact step_run rfl _ _ (run_slice33 rfl (kn 1 81 (by omega) ⟨⟨1, .data⟩, by simp, rfl, rfl⟩ (by decide)) (kn 4 84 (by omega) ⟨⟨4, .data⟩, by simp, rfl, rfl⟩ (by decide)) (by omega) hnc hcm) ⟨_, rfl, hW.read (by omega)⟩
    · have e0 : ρ.eval (.tmp 80) = dyV ao d.bl.length cap d := kn 0 80 (by omega) ⟨⟨0, .data⟩, by simp, rfl, rfl⟩ (by decide)
      have e5 : ρ.eval (.tmp 85) = .slice (some ⟨lb, lf, none⟩) (n - 1) lcap := kn 5 85 (by omega) ⟨⟨5, .data⟩, by simp, rfl, rfl⟩ (by decide)
      refine step_call rfl 25 _ _ rfl enter25 ?_
      simp only [List.map_toArray, List.map_cons, List.map_nil, e0, e5]
      refine (HC w' hW.m).mono ?_
      rintro e w2 ⟨⟨x, y, z, h1, hk⟩, h2⟩
      have n6 : ∀ k, (D k = true → D 6 = true) → D k = false := fun k h => by
        cases hk : D k with
        | false => rfl
        | true => rw [h hk] at hD; cases hD
      refine ⟨_, h1, _, rfl, ⟨fun j a hd => ?_, fun _ => ⟨x, y, z, hk, by simp, ?_⟩, hW.m.trans h2⟩⟩
      · have e : ¬ j = 6 := by omega
        have e2 : (j == 6) = false := by simpa using e
        simp only [e, if_false]
        simp only [e2, Bool.false_or] at hd
        exact hW.c j a hd
      · simp [n6 7 c7, n6 8 (c7 ∘ c8), n6 9 (c7 ∘ c9), n6 10 (c7 ∘ c10), n6 11 (c7 ∘ c8 ∘ c11), n6 12 (c7 ∘ c9 ∘ c12), n6 13 (c7 ∘ c10 ∘ c13)]
    · have h6 : D 6 = true := hdep ⟨6, .data⟩ (by simp) rfl
      obtain ⟨x, y, z, _, t6, _⟩ := hW.p h6
      exact step_run rfl _ _ (run_move rfl ((EV 6 86 (by decide) h6).trans t6)) ⟨_, rfl, hW.late h6 (by omega) (by omega) (fun _ _ _ he => t6.symm.trans he)⟩
    · have h7 : D 7 = true := hdep ⟨7, .data⟩ (by simp) rfl
      obtain ⟨x, y, z, _, t6, t7, _⟩ := hW.p (c7 h7)
      exact step_run rfl _ _ (run_extract 0 rfl ((EV 7 79 (by decide) h7).trans (t7 h7)) rfl) ⟨_, rfl, hW.late (c7 h7) (by omega) (by omega) (fun _ _ _ he => (tup3 (t6.symm.trans he)).1)⟩
    · have h7 : D 7 = true := hdep ⟨7, .data⟩ (by simp) rfl
      obtain ⟨x, y, z, _, t6, t7, _⟩ := hW.p (c7 h7)
      exact step_run rfl _ _ (run_extract 1 rfl ((EV 7 79 (by decide) h7).trans (t7 h7)) rfl) ⟨_, rfl, hW.late (c7 h7) (by omega) (by omega) (fun _ _ _ he => (tup3 (t6.symm.trans he)).2.1)⟩
    · have h7 : D 7 = true := hdep ⟨7, .data⟩ (by simp) rfl
      obtain ⟨x, y, z, _, t6, t7, _⟩ := hW.p (c7 h7)
      exact step_run rfl _ _ (run_extract 2 rfl ((EV 7 79 (by decide) h7).trans (t7 h7)) rfl) ⟨_, rfl, hW.late (c7 h7) (by omega) (by omega) (fun _ _ _ he => (tup3 (t6.symm.trans he)).2.2)⟩
    · have hq : D 8 = true := hdep ⟨8, .data⟩ (by simp) rfl
      obtain ⟨x, y, z, _, t6, t7, t8, t9, t10, _⟩ := hW.p (c7 (c8 hq))
      exact step_run rfl _ _ (run_assign rfl ((EV 8 87 (by decide) hq).trans (t8 hq))) ⟨_, rfl, hW.late (c7 (c8 hq)) (by omega) (by omega) (fun _ _ _ he => (tup3 (t6.symm.trans he)).1)⟩
    · have hq : D 9 = true := hdep ⟨9, .data⟩ (by simp) rfl
      obtain ⟨x, y, z, _, t6, t7, t8, t9, t10, _⟩ := hW.p (c7 (c9 hq))
      exact step_run rfl _ _ (run_assign rfl ((EV 9 88 (by decide) hq).trans (t9 hq))) ⟨_, rfl, hW.late (c7 (c9 hq)) (by omega) (by omega) (fun _ _ _ he => (tup3 (t6.symm.trans he)).2.1)⟩
    · have hq : D 10 = true := hdep ⟨10, .data⟩ (by simp) rfl
      obtain ⟨x, y, z, _, t6, t7, t8, t9, t10, _⟩ := hW.p (c7 (c10 hq))
      exact step_run rfl _ _ (run_assign rfl ((EV 10 89 (by decide) hq).trans (t10 hq))) ⟨_, rfl, hW.late (c7 (c10 hq)) (by omega) (by omega) (fun _ _ _ he => (tup3 (t6.symm.trans he)).2.2)⟩
  · intro vs D w' hall hW
    obtain ⟨x, y, z, hK, _, _, _, _, _, e11, e12, e13⟩ := hW.p (hall 6 (by decide))
    exact hend vs w' x y z (e11 (hall 11 (by decide))) (e12 (hall 12 (by decide))) (e13 (hall 13 (by decide))) hK hW.m

@[reducible] def cv0 : Oper := { dst := some 91, op := Op.load 24 (Operand.tmp 3), type := 24, pos := "outright.go:247", after := #[], guard := none }
@[reducible] def cv1 : Oper := { dst := some 92, op := Op.move (Operand.tmp 1), type := 33, pos := "outright.go:247", after := #[], guard := none }
@[reducible] def cv2 : Oper := { dst := some 93, op := Op.move (Operand.tmp 1), type := 33, pos := "outright.go:247", after := #[], guard := none }
@[reducible] def cv3 : Oper := { dst := some 94, op := Op.call { callee := Callee.builtin Builtin.len, args := #[Operand.tmp 93], argTypes := #[33] }, type := 3, pos := "outright.go:247", after := #[{ on := 2, ground := Ground.data }], guard := none }
@[reducible] def cv4 : Oper := { dst := some 95, op := Op.binOp BinOp.sub 3 (Operand.tmp 94) (Operand.const (Value.int IntKind.i64 1)) 3, type := 3, pos := "outright.go:247", after := #[{ on := 3, ground := Ground.data }], guard := none }
@[reducible] def cv5 : Oper := { dst := some 96, op := Op.slice 33 (Operand.tmp 92) none (some (Operand.tmp 95)) none, type := 33, pos := "outright.go:247", after := #[{ on := 1, ground := Ground.data }, { on := 4, ground := Ground.data }], guard := none }
@[reducible] def cv6 : Oper := { dst := some 97, op := Op.call { callee := Callee.value (Operand.func 20), args := #[Operand.tmp 91, Operand.tmp 96], argTypes := #[24, 33] }, type := 38, pos := "outright.go:247", after := #[{ on := 0, ground := Ground.data }, { on := 5, ground := Ground.data }], guard := none }
@[reducible] def cv7 : Oper := { dst := some 90, op := Op.move (Operand.tmp 97), type := 38, pos := "outright.go:247", after := #[{ on := 6, ground := Ground.data }], guard := none }
@[reducible] def cv8 : Oper := { dst := some 98, op := Op.extract (Operand.tmp 90) 0, type := 37, pos := "outright.go:247", after := #[{ on := 7, ground := Ground.data }], guard := none }
@[reducible] def cv9 : Oper := { dst := some 99, op := Op.extract (Operand.tmp 90) 1, type := 34, pos := "outright.go:247", after := #[{ on := 7, ground := Ground.data }, { on := 11, ground := Ground.gcOnly Departure.lateStores }], guard := none }
@[reducible] def cv10 : Oper := { dst := some 100, op := Op.extract (Operand.tmp 90) 2, type := 29, pos := "outright.go:247", after := #[{ on := 7, ground := Ground.data }, { on := 12, ground := Ground.gcOnly Departure.lateStores }], guard := none }
@[reducible] def cv11 : Oper := { dst := some 16, op := Op.assign (Operand.tmp 98), type := 37, pos := "outright.go:247", after := #[{ on := 8, ground := Ground.data }, { on := 6, ground := Ground.chain }, { on := 0, ground := Ground.phase }, { on := 1, ground := Ground.phase }, { on := 2, ground := Ground.phase }, { on := 3, ground := Ground.phase }, { on := 4, ground := Ground.phase }, { on := 5, ground := Ground.phase }, { on := 6, ground := Ground.phase }, { on := 7, ground := Ground.phase }, { on := 8, ground := Ground.phase }, { on := 9, ground := Ground.textOnly Departure.lateStores }, { on := 10, ground := Ground.textOnly Departure.lateStores }], guard := none }
@[reducible] def cv12 : Oper := { dst := some 17, op := Op.assign (Operand.tmp 99), type := 34, pos := "outright.go:247", after := #[{ on := 9, ground := Ground.data }, { on := 11, ground := Ground.chain }, { on := 0, ground := Ground.phase }, { on := 1, ground := Ground.phase }, { on := 2, ground := Ground.phase }, { on := 3, ground := Ground.phase }, { on := 4, ground := Ground.phase }, { on := 5, ground := Ground.phase }, { on := 6, ground := Ground.phase }, { on := 7, ground := Ground.phase }, { on := 8, ground := Ground.phase }, { on := 9, ground := Ground.phase }, { on := 10, ground := Ground.textOnly Departure.lateStores }, { on := 11, ground := Ground.phase }], guard := none }
@[reducible] def cv13 : Oper := { dst := some 18, op := Op.assign (Operand.tmp 100), type := 29, pos := "outright.go:247", after := #[{ on := 10, ground := Ground.data }, { on := 12, ground := Ground.chain }, { on := 0, ground := Ground.phase }, { on := 1, ground := Ground.phase }, { on := 2, ground := Ground.phase }, { on := 3, ground := Ground.phase }, { on := 4, ground := Ground.phase }, { on := 5, ground := Ground.phase }, { on := 6, ground := Ground.phase }, { on := 7, ground := Ground.phase }, { on := 8, ground := Ground.phase }, { on := 9, ground := Ground.phase }, { on := 10, ground := Ground.phase }, { on := 11, ground := Ground.phase }, { on := 12, ground := Ground.phase }], guard := none }
@[reducible] def cvOps : List Oper := [cv0, cv1, cv2, cv3, cv4, cv5, cv6, cv7, cv8, cv9, cv10, cv11, cv12, cv13]
@[reducible] def cvDs : List (Nat × Nat) := [(0, 91), (1, 92), (2, 93), (3, 94), (4, 95), (5, 96), (6, 97), (7, 90), (8, 98), (9, 99), (10, 100), (11, 16), (12, 17), (13, 18)]
theorem cvB : lowB cvOps = true := by kernel_rfl
theorem cvOk : okB cvOps cvDs 219 = true := by decide +kernel

set_option maxRecDepth 100000 in
set_option maxHeartbeats 4000000 in
theorem region_cv {rid : Nat} {Q : Exit → Act → World → Prop} {a0 : Act} {w : World} {ao : Option Addr} {cap : Nat} {d : Dye} {lo : Option Addr} {lb lf n lcap db : Nat} {P : Value → Value → Value → World → Prop} (hsz : a0.tmps.size = 219)
    (x3 : a0.eval (.tmp 3) = .pointer (some ⟨db, 0, none⟩)) (x1 : a0.eval (.tmp 1) = .slice lo n lcap) (hlo : lo = some ⟨lb, lf, none⟩) (hn : 1 ≤ n) (hnc : n ≤ lcap) (hcm : lcap ≤ 9223372036854775807) (hn2 : n ≤ 100)
    (hdie : w.heap[db]? = some (.cells (dyC ao d.bl.length cap d) 24))
    (HC : ∀ W, Mod noB w W → Calls Tryd.prog 20 #[dyV ao d.bl.length cap d, .slice lo (n - 1) lcap] W fun e w' => (∃ x y z, e = .returned (.tuple #[x, y, z]) ∧ Kept w' (P x y z)) ∧ Mod noB W w')
    (hend : ∀ (vs : Nat → Value) w' x y z, vs 11 = x → vs 12 = y → vs 13 = z → Kept w' (P x y z) → Mod noB w w' → Q .normal (cvDs.foldl (fun a x => a.put (some x.2) (vs x.1)) a0) w') : (Code.region rid cvOps.toArray true).wp Tryd.prog Q a0 w := by
  subst hlo
  refine region_word2 cvB cvDs 219 hsz cvOk (CuW (cuC ao cap d (some ⟨lb, lf, none⟩) n lcap) P w) ?_ ?_ ?_
  · exact ⟨fun _ _ h => absurd h (by decide), fun h => absurd h (by decide), (Mod.refl _ _).drew⟩
  · intro D vs i' o ρ w' hlt hcl ho hD hdep EV EO hW
    have far : ∀ s, s ∉ cvDs.map Prod.snd → ρ.eval (.tmp s) = a0.eval (.tmp s) := fun s hs => EO s fun x hx e => absurd (e ▸ List.mem_map.2 ⟨x, hx, rfl⟩ : s ∈ cvDs.map Prod.snd) hs
    have kn : ∀ j s', j < 6 → (∃ e ∈ o.after, Region.binds .any e = true ∧ e.on = j) → (j, s') ∈ cvDs → ρ.eval (.tmp s') = cuC ao cap d (some ⟨lb, lf, none⟩) n lcap j := fun j s' h1 ⟨e, he, hb, hje⟩ hm => (EV _ _ hm (hje ▸ hdep e he hb)).trans (hW.c j h1 (hje ▸ hdep e he hb))
    have c7 : D 7 = true → D 6 = true := fun h => hcl 7 cv7 rfl h ⟨6, .data⟩ (by simp) rfl
    have c8 : D 8 = true → D 7 = true := fun h => hcl 8 cv8 rfl h ⟨7, .data⟩ (by simp) rfl
    have c9 : D 9 = true → D 7 = true := fun h => hcl 9 cv9 rfl h ⟨7, .data⟩ (by simp) rfl
    have c10 : D 10 = true → D 7 = true := fun h => hcl 10 cv10 rfl h ⟨7, .data⟩ (by simp) rfl
    have c11 : D 11 = true → D 8 = true := fun h => hcl 11 cv11 rfl h ⟨8, .data⟩ (by simp) rfl
    have c12 : D 12 = true → D 9 = true := fun h => hcl 12 cv12 rfl h ⟨9, .data⟩ (by simp) rfl
    have c13 : D 13 = true → D 10 = true := fun h => hcl 13 cv13 rfl h ⟨10, .data⟩ (by simp) rfl
    have hlt' : i' < 14 := hlt
    rcases (by omega : i' = 0 ∨ i' = 1 ∨ i' = 2 ∨ i' = 3 ∨ i' = 4 ∨ i' = 5 ∨ i' = 6 ∨ i' = 7 ∨ i' = 8 ∨ i' = 9 ∨ i' = 10 ∨ i' = 11 ∨ i' = 12 ∨ i' = 13) with rfl | rfl | rfl | rfl | rfl | rfl | rfl | rfl | rfl | rfl | rfl | rfl | rfl | rfl
    all_goals (obtain rfl := Option.some.inj ho)
    · exact step_loadRow rfl 24 rfl db ((far 3 (by decide)).trans x3) _ 24 _ (hW.m.at hdie id) rfl Tryd.underlying24 info24 ⟨_, rfl, hW.read (by omega)⟩
    · exact step_run rfl _ _ (run_move rfl ((far 1 (by decide)).trans x1)) ⟨_, rfl, hW.read (by omega)⟩
    · exact step_run rfl _ _ (run_move rfl ((far 1 (by decide)).trans x1)) ⟨_, rfl, hW.read (by omega)⟩
    · exact step_run rfl _ _ (run_len33 rfl (kn 2 93 (by omega) ⟨⟨2, .data⟩, by simp, rfl, rfl⟩ (by decide))) ⟨_, rfl, hW.read (by omega)⟩
    · exact step_run rfl _ _ (run_sub rfl (kn 3 94 (by omega) ⟨⟨3, .data⟩, by simp, rfl, rfl⟩ (by decide)) rfl (show (n : Int) - 1 = ((n - 1 : Nat) : Int) by omega) (by omega) (by omega)) ⟨_, rfl, hW.read (by omega)⟩
    · exact step_run rfl _ _ (run_slice33 rfl (kn 1 92 (by omega) ⟨⟨1, .data⟩, by simp, rfl, rfl⟩ (by decide)) (kn 4 95 (by omega) ⟨⟨4, .data⟩, by simp, rfl, rfl⟩ (by decide)) (by omega) hnc hcm) ⟨_, rfl, hW.read (by omega)⟩
    · have e0 : ρ.eval (.tmp 91) = dyV ao d.bl.length cap d := kn 0 91 (by omega) ⟨⟨0, .data⟩, by simp, rfl, rfl⟩ (by decide)
      have e5 : ρ.eval (.tmp 96) = .slice (some ⟨lb, lf, none⟩) (n - 1) lcap := kn 5 96 (by omega) ⟨⟨5, .data⟩, by simp, rfl, rfl⟩ (by decide)
      refine step_call rfl 20 _ _ rfl enter20 ?_
      simp only [List.map_toArray, List.map_cons, List.map_nil, e0, e5]
      refine (HC w' hW.m).mono ?_
      rintro e w2 ⟨⟨x, y, z, h1, hk⟩, h2⟩
      have n6 : ∀ k, (D k = true → D 6 = true) → D k = false := fun k h => by
        cases hk : D k with
        | false => rfl
        | true => rw [h hk] at hD; cases hD
      refine ⟨_, h1, _, rfl, ⟨fun j a hd => ?_, fun _ => ⟨x, y, z, hk, by simp, ?_⟩, hW.m.trans h2⟩⟩
      · have e : ¬ j = 6 := by omega
        have e2 : (j == 6) = false := by simpa using e
        simp only [e, if_false]
        simp only [e2, Bool.false_or] at hd
        exact hW.c j a hd
      · simp [n6 7 c7, n6 8 (c7 ∘ c8), n6 9 (c7 ∘ c9), n6 10 (c7 ∘ c10), n6 11 (c7 ∘ c8 ∘ c11), n6 12 (c7 ∘ c9 ∘ c12), n6 13 (c7 ∘ c10 ∘ c13)]
    · have h6 : D 6 = true := hdep ⟨6, .data⟩ (by simp) rfl
      obtain ⟨x, y, z, _, t6, _⟩ := hW.p h6
      exact step_run rfl _ _ (run_move rfl ((EV 6 97 (by decide) h6).trans t6)) ⟨_, rfl, hW.late h6 (by omega) (by omega) (fun _ _ _ he => t6.symm.trans he)⟩
    · have h7 : D 7 = true := hdep ⟨7, .data⟩ (by simp) rfl
      obtain ⟨x, y, z, _, t6, t7, _⟩ := hW.p (c7 h7)
      exact step_run rfl _ _ (run_extract 0 rfl ((EV 7 90 (by decide) h7).trans (t7 h7)) rfl) ⟨_, rfl, hW.late (c7 h7) (by omega) (by omega) (fun _ _ _ he => (tup3 (t6.symm.trans he)).1)⟩
    · have h7 : D 7 = true := hdep ⟨7, .data⟩ (by simp) rfl
      obtain ⟨x, y, z, _, t6, t7, _⟩ := hW.p (c7 h7)
      exact step_run rfl _ _ (run_extract 1 rfl ((EV 7 90 (by decide) h7).trans (t7 h7)) rfl) ⟨_, rfl, hW.late (c7 h7) (by omega) (by omega) (fun _ _ _ he => (tup3 (t6.symm.trans he)).2.1)⟩
    · have h7 : D 7 = true := hdep ⟨7, .data⟩ (by simp) rfl
      obtain ⟨x, y, z, _, t6, t7, _⟩ := hW.p (c7 h7)
      exact step_run rfl _ _ (run_extract 2 rfl ((EV 7 90 (by decide) h7).trans (t7 h7)) rfl) ⟨_, rfl, hW.late (c7 h7) (by omega) (by omega) (fun _ _ _ he => (tup3 (t6.symm.trans he)).2.2)⟩
    · have hq : D 8 = true := hdep ⟨8, .data⟩ (by simp) rfl
      obtain ⟨x, y, z, _, t6, t7, t8, t9, t10, _⟩ := hW.p (c7 (c8 hq))
      exact step_run rfl _ _ (run_assign rfl ((EV 8 98 (by decide) hq).trans (t8 hq))) ⟨_, rfl, hW.late (c7 (c8 hq)) (by omega) (by omega) (fun _ _ _ he => (tup3 (t6.symm.trans he)).1)⟩
    · have hq : D 9 = true := hdep ⟨9, .data⟩ (by simp) rfl
      obtain ⟨x, y, z, _, t6, t7, t8, t9, t10, _⟩ := hW.p (c7 (c9 hq))
      exact step_run rfl _ _ (run_assign rfl ((EV 9 99 (by decide) hq).trans (t9 hq))) ⟨_, rfl, hW.late (c7 (c9 hq)) (by omega) (by omega) (fun _ _ _ he => (tup3 (t6.symm.trans he)).2.1)⟩
    · have hq : D 10 = true := hdep ⟨10, .data⟩ (by simp) rfl
      obtain ⟨x, y, z, _, t6, t7, t8, t9, t10, _⟩ := hW.p (c7 (c10 hq))
      exact step_run rfl _ _ (run_assign rfl ((EV 10 100 (by decide) hq).trans (t10 hq))) ⟨_, rfl, hW.late (c7 (c10 hq)) (by omega) (by omega) (fun _ _ _ he => (tup3 (t6.symm.trans he)).2.2)⟩
  · intro vs D w' hall hW
    obtain ⟨x, y, z, hK, _, _, _, _, _, e11, e12, e13⟩ := hW.p (hall 6 (by decide))
    exact hend vs w' x y z (e11 (hall 11 (by decide))) (e12 (hall 12 (by decide))) (e13 (hall 13 (by decide))) hK hW.m

end Go.Proofs.YtdncppempgpooaaDoor

/- RuleLess: blades appended to blades. -/
namespace Go.Proofs.YtdncppempgpooaaDoor
open Go Go.RowKit Go.Shelf Go.Maps Go.WideMaps

def flatB (L : List Bld) : List Value := L.flatMap fun b => (blC b).toList
theorem flatB_len (L : List Bld) : (flatB L).length = L.length * 4 := by
  induction L with
  | nil => rfl
  | cons b L ih => simp only [flatB, List.flatMap_cons, List.length_append] at ih ⊢; rw [ih]; simp; omega
theorem flatB_append (L M : List Bld) : flatB (L ++ M) = flatB L ++ flatB M := by simp [flatB]
theorem flatB_one (L : List Bld) : ∀ u ∈ flatB L, u.oneCell' = true := by
  intro u hu
  obtain ⟨b, _, h⟩ := List.mem_flatMap.1 hu
  simp at h
  rcases h with rfl | rfl | rfl | rfl <;> rfl
theorem info53 : (Tryd.prog.info? 53).map (fun i => (i.zero, i.size, i.bytes)) = some (some (blV ⟨(0, 0), (0, 0)⟩), 4, 32) := by kernel_rfl
/-- A list of blades of one's own. -/
def OwnB (base : Nat) (v : Value) (n : Nat) (L : List Bld) (W : World) : Prop := W.ownsRow base 53 4 v n (flatB L) ∧ ∃ g cap, v = .slice (some ⟨g, 0, none⟩) n cap ∧ n ≤ cap

theorem run_build22 {o : Oper} {a : Act} {w : World} (hop : o.op = .buildSlice 22 0 #[]) : (execOp a.eval o).run Tryd.prog w = .ok (.value (.slice (some ⟨w.heap.size, 0, none⟩) 0 0)) (w.alloc (.cells #[] 53)) := by
  simp only [execOp, hop]
  go_simp
  done
theorem own_build (w : World) : OwnB w.heap.size (.slice (some ⟨w.heap.size, 0, none⟩) 0 0) 0 [] (w.alloc (.cells #[] 53)) :=
  ⟨⟨rfl, .inr ⟨w.heap.size, 0, #[], rfl, Nat.le_refl _, World.alloc_heap_new _ _, Nat.le_refl _, by decide, rfl, rfl⟩⟩, _, _, rfl, Nat.le_refl _⟩

theorem own_le {base n cap g : Nat} {W : World} {xs : List Value} (h : W.ownsRow base 53 4 (.slice (some ⟨g, 0, none⟩) n cap) n xs) : n ≤ cap := by
  rcases h.2 with ⟨h, _⟩ | ⟨g', cap', cur, hv, _, _, h1, _⟩
  · cases h
  · cases hv; exact h1

set_option maxHeartbeats 1000000 in
theorem app_blades {ops : Array Oper} {rest : List Oper} {o : Oper} {ρ : Act} {Q : Exit → Act → World → Prop} {W : World} {s x : Operand} {base n m c : Nat} {v : Value} {L1 L2 : List Bld} {ad : Addr} (hgd : o.guard = none)
    (hop : o.op = Op.call { callee := Callee.builtin Builtin.append, args := #[s, x], argTypes := #[22, 22] }) (hs : ρ.eval s = v) (hown : OwnB base v n L1 W) (hx : ρ.eval x = .slice (some ad) m c) (hm : L2.length = m)
    (hnews : ∀ j u, (flatB L2)[j]? = some u → W.cell? (ad.add j) = some u) (hb : base ≤ W.heap.size) (hsm : n + m ≤ 100)
    (h : ∀ v' w', OwnB base v' (n + m) (L1 ++ L2) w' → Mod (fun j => base ≤ j) W w' → wpList Tryd.prog ops Q rest (ρ.put o.dst v') w') : wpList Tryd.prog ops Q (o :: rest) ρ W := by
  obtain ⟨i0, hi, hz0, hz1, hz2⟩ := info_parts info53
  obtain ⟨hrow, g, cap, rfl, hncap⟩ := hown
  rcases Nat.eq_zero_or_pos m with h0 | h0
  · subst h0
    have hL2 : L2 = [] := List.length_eq_zero_iff.1 hm
    subst hL2
    have hrow' := hrow
    rcases hrow.2 with ⟨hno, _⟩ | ⟨g', cap', cur, hv, hg1, hg2, hg3, hg4, hg5, hg6⟩
    · cases hno
    · cases hv
      have hcl : ∀ j u, (flatB L1)[j]? = some u → W.cell? ⟨g, 0 + j, none⟩ = some u := fun j u hj => by
        rw [Nat.zero_add, cellsAt hg2]
        rw [← hg6] at hj
        have hlt := (List.getElem?_eq_some_iff.1 hj).1
        rw [List.getElem?_take_of_lt (by rw [List.length_take] at hlt; omega), Array.getElem?_toList] at hj
        exact hj
      refine wpList_append_arg W hgd s x 22 hop 53 i0 (blV ⟨(0, 0), (0, 0)⟩) 4 32 Tryd.underlying22 hi hz0 hz1 hz2 rfl (by decide) g 0 n cap (flatB L1) hs hrow.1 hcl ad 0 c [] hx rfl (fun j u hj => by simp at hj) (fun u hu => by simp at hu) (fun _ j hj => by simp at hj) (by unfold maxLen; omega) (by omega) ?_ (fun hh => by omega)
      intro _
      have hw : W.setCells g (0 + n * 4) [] = W := rfl
      rw [hw]
      exact h _ _ ⟨by rw [List.append_nil]; exact hrow', g, cap, rfl, hncap⟩ (Mod.refl _ _)
  · refine wpList_append_own_at _ hgd s x 22 hop base 53 i0 (blV ⟨(0, 0), (0, 0)⟩) 4 32 Tryd.underlying22 hi hz0 hz1 hz2 rfl (by decide) _ n (flatB L1) hs hrow ad m c (flatB L2) hx (by rw [flatB_len, hm]) hnews (flatB_one _) (by unfold maxLen; omega) (by omega) hb ?_
    intro v' w2 hown2 hgr _ _
    rcases hown2.2 with ⟨_, hz⟩ | ⟨g2, cap2, _, rfl, _⟩
    · omega
    refine h _ _ ⟨by rw [flatB_append]; exact hown2, g2, cap2, rfl, own_le hown2⟩ (Mod.of_grownBy hgr fun r hr _ => (own_block hrow hr).1)
end Go.Proofs.YtdncppempgpooaaDoor

/- RuleLess: the region that takes a blade out of the die. -/
namespace Go.Proofs.YtdncppempgpooaaDoor
open Go Go.RowKit Go.Shelf Go.Maps Go.WideMaps

@[reducible] def fw0 : Oper := { dst := some 171, op := Op.buildSlice 22 0 #[], type := 22, pos := "outright.go:257", after := #[], guard := none }
@[reducible] def fw1 : Oper := { dst := some 172, op := Op.fieldAddr 24 (Operand.tmp 3) 0, type := 0, pos := "outright.go:257", after := #[], guard := none }
@[reducible] def fw2 : Oper := { dst := some 173, op := Op.load 22 (Operand.tmp 172), type := 22, pos := "outright.go:257", after := #[{ on := 1, ground := Ground.data }], guard := none }
@[reducible] def fw3 : Oper := { dst := some 174, op := Op.move (Operand.tmp 19), type := 3, pos := "outright.go:257", after := #[], guard := none }
@[reducible] def fw4 : Oper := { dst := some 175, op := Op.slice 22 (Operand.tmp 173) none (some (Operand.tmp 174)) none, type := 22, pos := "outright.go:257", after := #[{ on := 2, ground := Ground.data }, { on := 3, ground := Ground.data }], guard := none }
@[reducible] def fw5 : Oper := { dst := some 176, op := Op.call { callee := Callee.builtin Builtin.append, args := #[Operand.tmp 171, Operand.tmp 175], argTypes := #[22, 22] }, type := 22, pos := "outright.go:257", after := #[{ on := 0, ground := Ground.data }, { on := 4, ground := Ground.data }], guard := none }
@[reducible] def fw6 : Oper := { dst := some 177, op := Op.fieldAddr 24 (Operand.tmp 3) 0, type := 0, pos := "outright.go:257", after := #[], guard := none }
@[reducible] def fw7 : Oper := { dst := some 178, op := Op.load 22 (Operand.tmp 177), type := 22, pos := "outright.go:257", after := #[{ on := 6, ground := Ground.data }], guard := none }
@[reducible] def fw8 : Oper := { dst := some 179, op := Op.move (Operand.tmp 19), type := 3, pos := "outright.go:257", after := #[], guard := none }
@[reducible] def fw9 : Oper := { dst := some 180, op := Op.binOp BinOp.add 3 (Operand.tmp 179) (Operand.const (Value.int IntKind.i64 1)) 3, type := 3, pos := "outright.go:257", after := #[{ on := 8, ground := Ground.data }], guard := none }
@[reducible] def fw10 : Oper := { dst := some 181, op := Op.slice 22 (Operand.tmp 178) (some (Operand.tmp 180)) none none, type := 22, pos := "outright.go:257", after := #[{ on := 7, ground := Ground.data }, { on := 9, ground := Ground.data }], guard := none }
@[reducible] def fw11 : Oper := { dst := some 182, op := Op.call { callee := Callee.builtin Builtin.append, args := #[Operand.tmp 176, Operand.tmp 181], argTypes := #[22, 22] }, type := 22, pos := "outright.go:257", after := #[{ on := 5, ground := Ground.data }, { on := 10, ground := Ground.data }, { on := 5, ground := Ground.chain }], guard := none }
@[reducible] def fw12 : Oper := { dst := some 183, op := Op.fieldAddr 24 (Operand.tmp 20) 0, type := 0, pos := "outright.go:257", after := #[{ on := 0, ground := Ground.phase }, { on := 1, ground := Ground.phase }, { on := 2, ground := Ground.phase }, { on := 3, ground := Ground.phase }, { on := 4, ground := Ground.phase }, { on := 5, ground := Ground.phase }, { on := 6, ground := Ground.phase }, { on := 7, ground := Ground.phase }, { on := 8, ground := Ground.phase }, { on := 9, ground := Ground.phase }, { on := 10, ground := Ground.phase }, { on := 11, ground := Ground.phase }], guard := none }
@[reducible] def fw13 : Oper := { dst := none, op := Op.store 22 (Operand.tmp 183) (Operand.tmp 182), type := 0, pos := "outright.go:257", after := #[{ on := 12, ground := Ground.data }, { on := 11, ground := Ground.data }, { on := 11, ground := Ground.chain }, { on := 0, ground := Ground.phase }, { on := 1, ground := Ground.phase }, { on := 2, ground := Ground.phase }, { on := 3, ground := Ground.phase }, { on := 4, ground := Ground.phase }, { on := 5, ground := Ground.phase }, { on := 6, ground := Ground.phase }, { on := 7, ground := Ground.phase }, { on := 8, ground := Ground.phase }, { on := 9, ground := Ground.phase }, { on := 10, ground := Ground.phase }, { on := 11, ground := Ground.phase }], guard := none }
@[reducible] def fwOps : List Oper := [fw0, fw1, fw2, fw3, fw4, fw5, fw6, fw7, fw8, fw9, fw10, fw11, fw12, fw13]
@[reducible] def fwDs : List (Nat × Nat) := [(0, 171), (1, 172), (2, 173), (3, 174), (4, 175), (5, 176), (6, 177), (7, 178), (8, 179), (9, 180), (10, 181), (11, 182), (12, 183)]
theorem fwB : lowB fwOps = true := by kernel_rfl
theorem fwOk : okB fwOps fwDs 219 = true := by decide +kernel
section
variable {o : Oper} {a : Act} {w : World} {x y z : Operand}
theorem run_slice22a (hop : o.op = .slice 22 x none (some y) none) {b f n c k : Nat} (hx : a.eval x = .slice (some ⟨b, f, none⟩) n c) (hy : a.eval y = .int .i64 k) (hk : k ≤ n) (hc : n ≤ c) (hcm : c ≤ 9223372036854775807) : (execOp a.eval o).run Tryd.prog w = .ok (.value (.slice (some ⟨b, f, none⟩) k c)) w := by
  have h1 : (k : Int) ≤ c := by omega
  have h0 : (0 : Int) ≤ k := by omega
  have h3 : k ≤ c := by omega
  simp only [execOp, hop, Option.map_some, Option.map_none, hx, hy]
  go_simp
  done
theorem run_slice22b (hop : o.op = .slice 22 x (some y) none none) {b f n c k : Nat} (hx : a.eval x = .slice (some ⟨b, f, none⟩) n c) (hy : a.eval y = .int .i64 ((k : Int) + 1)) (hk : k < n) (hc : n ≤ c) (hm : c ≤ 9223372036854775807) : (execOp a.eval o).run Tryd.prog w = .ok (.value (.slice (if c = k + 1 then some ⟨b, f, none⟩ else some ⟨b, f + (k + 1) * 4, none⟩) (n - (k + 1)) (c - (k + 1)))) w := by
  have h1 : (k : Int) + 1 ≤ n := by omega
  have h0 : 0 ≤ (k : Int) + 1 := by omega
  simp only [execOp, hop, Option.map_some, Option.map_none, hx, hy]
  go_simp
  done
end
theorem flat_cell {u : Value} : ∀ (L : List Bld) (j : Nat), (flatB L)[j]? = some u → ∃ x, L[j / 4]? = some x ∧ (blC x)[j % 4]? = some u := by
  intro L
  induction L with
  | nil => intro j h; simp [flatB] at h
  | cons b L ih =>
    intro j h
    have e : flatB (b :: L) = (blC b).toList ++ flatB L := by simp [flatB]
    rw [e] at h
    rcases Nat.lt_or_ge j 4 with hj | hj
    · rw [List.getElem?_append_left (by simpa using hj)] at h
      refine ⟨b, by rw [show j / 4 = 0 by omega]; rfl, ?_⟩
      rw [show j % 4 = j by omega]
      simpa using h
    · rw [List.getElem?_append_right (by simpa using hj)] at h
      obtain ⟨x, h1, h2⟩ := ih (j - 4) (by simpa using h)
      refine ⟨x, ?_, ?_⟩
      · rw [show j / 4 = (j - 4) / 4 + 1 by omega, List.getElem?_cons_succ]; exact h1
      · rw [show j % 4 = (j - 4) % 4 by omega]; exact h2
/-- Cells of a part of the blades. -/
theorem part_cells {W : World} {ab af : Nat} {l L : List Bld} {k : Nat} (h : ∀ i x, l[i]? = some x → ∀ j, j < 4 → W.cell? ⟨ab, af + i * 4 + j, none⟩ = (blC x)[j]?) (hL : ∀ i x, L[i]? = some x → l[k + i]? = some x) : ∀ j u, (flatB L)[j]? = some u → W.cell? (Addr.add ⟨ab, af + k * 4, none⟩ j) = some u := fun j u hj => by
  obtain ⟨x, h1, h2⟩ := flat_cell L j hj
  have := h _ x (hL _ x h1) (j % 4) (by omega)
  rw [h2] at this
  rw [Addr.add_lit, ← this]
  congr 2
  omega

structure FeW (ab af cap wn db fb : Nat) (d : Dye) (w : World) (D : Nat → Bool) (vs : Nat → Value) (w' : World) : Prop where
  c1 : D 1 = true → vs 1 = .pointer (some ⟨db, 0, none⟩)
  c2 : D 2 = true → vs 2 = .slice (some ⟨ab, af, none⟩) d.bl.length cap
  c3 : D 3 = true → vs 3 = .int .i64 wn
  c4 : D 4 = true → vs 4 = .slice (some ⟨ab, af, none⟩) wn cap
  c6 : D 6 = true → vs 6 = .pointer (some ⟨db, 0, none⟩)
  c7 : D 7 = true → vs 7 = .slice (some ⟨ab, af, none⟩) d.bl.length cap
  c8 : D 8 = true → vs 8 = .int .i64 wn
  c9 : D 9 = true → vs 9 = .int .i64 ((wn : Int) + 1)
  c10 : D 10 = true → vs 10 = .slice (if cap = wn + 1 then some ⟨ab, af, none⟩ else some ⟨ab, af + (wn + 1) * 4, none⟩) (d.bl.length - (wn + 1)) (cap - (wn + 1))
  c12 : D 12 = true → vs 12 = .pointer (some ⟨fb, 0, none⟩)
  o0 : D 0 = true → D 5 = false → OwnB w.heap.size (vs 0) 0 [] w'
  o5 : D 5 = true → D 11 = false → OwnB w.heap.size (vs 5) wn (d.bl.take wn) w'
  o11 : D 11 = true → OwnB w.heap.size (vs 11) (fewD d wn).bl.length (fewD d wn).bl w'
  s0 : D 13 = false → w'.heap[fb]? = some (.cells (dyC (some ⟨ab, af, none⟩) d.bl.length cap d) 24)
  s1 : D 13 = true → D 11 = true ∧ w'.heap[fb]? = some (.cells #[vs 11, .int .i64 d.bound, .int .i64 d.stop, .int .i64 d.bend] 24)
  m : Mod (fun j => j = fb) w w'
theorem FeW.pure {ab af cap wn db fb : Nat} {d : Dye} {w : World} {D : Nat → Bool} {vs : Nat → Value} {w' : World} (h : FeW ab af cap wn db fb d w D vs w') {i : Nat} (v : Value) (h0 : i ≠ 0) (h5 : i ≠ 5) (h11 : i ≠ 11) (h13 : i ≠ 13)
    (hv : match i with | 1 | 6 => v = .pointer (some ⟨db, 0, none⟩) | 2 | 7 => v = .slice (some ⟨ab, af, none⟩) d.bl.length cap | 3 | 8 => v = .int .i64 wn | 4 => v = .slice (some ⟨ab, af, none⟩) wn cap | 9 => v = .int .i64 ((wn : Int) + 1) | 10 => v = .slice (if cap = wn + 1 then some ⟨ab, af, none⟩ else some ⟨ab, af + (wn + 1) * 4, none⟩) (d.bl.length - (wn + 1)) (cap - (wn + 1)) | 12 => v = .pointer (some ⟨fb, 0, none⟩) | _ => False) :
    FeW ab af cap wn db fb d w (fun j => j == i || D j) (fun j => if j = i then v else vs j) w' := by
  have hi : i = 1 ∨ i = 2 ∨ i = 3 ∨ i = 4 ∨ i = 6 ∨ i = 7 ∨ i = 8 ∨ i = 9 ∨ i = 10 ∨ i = 12 := by
    rcases i with _ | _ | _ | _ | _ | _ | _ | _ | _ | _ | _ | _ | _ | i <;> first | omega | exact absurd hv (by simp) | skip
  obtain ⟨c1, c2, c3, c4, c6, c7, c8, c9, c10, c12, o0, o5, o11, s0, s1, m⟩ := h
  rcases hi with rfl | rfl | rfl | rfl | rfl | rfl | rfl | rfl | rfl | rfl
  all_goals
    simp only at hv
    constructor <;> first | assumption | (intro _; exact hv) | skip

theorem step_store22 {ops : Array Oper} {K : Act → World → Prop} {o : Oper} {a : Act} {w : World} {x y : Operand} (hg : o.guard = none) (hop : o.op = .store 22 x y) {b : Nat} (hx : a.eval x = .pointer (some ⟨b, 0, none⟩)) {ao : Option Addr} {n cap : Nat} (hy : a.eval y = .slice ao n cap) {u0 u1 u2 u3 : Value} {t : TypeId} (hb : w.heap[b]? = some (.cells #[u0, u1, u2, u3] t)) (h : K (a.put o.dst undef) (w.setCell ⟨b, 0, none⟩ (.slice ao n cap))) : wpList Tryd.prog ops (only K) [o] a w := by
  refine wpList_plain hg fun K' hK => ?_
  have c0 : w.cell? ⟨b, 0, none⟩ = some u0 := cellsAt hb 0
  have f0 := frozen_at hb 0
  unfold Oper.wp
  simp only [execOp, hop, hx, hy]
  go_simp
  exact hK _ _ ⟨rfl, h⟩
theorem OwnB.same {base n : Nat} {v : Value} {L : List Bld} {W W' : World} (h : OwnB base v n L W) (hs : ∀ r, base ≤ r → r < W.heap.size → W'.heap[r]? = W.heap[r]?) : OwnB base v n L W' :=
  ⟨own_same h.1 (fun r hr => by obtain ⟨h1, cur, h2⟩ := own_block h.1 hr; exact hs r h1 (at_ltS h2)), h.2⟩
theorem own_build2 {base : Nat} {w : World} (h : base ≤ w.heap.size) : OwnB base (.slice (some ⟨w.heap.size, 0, none⟩) 0 0) 0 [] (w.alloc (.cells #[] 53)) :=
  ⟨⟨rfl, .inr ⟨w.heap.size, 0, #[], rfl, h, World.alloc_heap_new _ _, Nat.le_refl _, by decide, rfl, rfl⟩⟩, _, _, rfl, Nat.le_refl _⟩

set_option maxRecDepth 100000 in
set_option maxHeartbeats 4000000 in
theorem region_few {rid : Nat} {Q : Exit → Act → World → Prop} {a0 : Act} {w : World} {ab af cap wn db fb B : Nat} {d : Dye} (hsz : a0.tmps.size = 219)
    (x3 : a0.eval (.tmp 3) = .pointer (some ⟨db, 0, none⟩)) (x19 : a0.eval (.tmp 19) = .int .i64 wn) (x20 : a0.eval (.tmp 20) = .pointer (some ⟨fb, 0, none⟩))
    (hw : wn < d.bl.length) (h5 : d.bl.length ≤ 5) (hcap : d.bl.length ≤ cap) (hcm : cap ≤ 9223372036854775807) (hne : fb ≠ db)
    (hdie : w.heap[db]? = some (.cells (dyC (some ⟨ab, af, none⟩) d.bl.length cap d) 24)) (hfew : w.heap[fb]? = some (.cells (dyC (some ⟨ab, af, none⟩) d.bl.length cap d) 24))
    (hbl : BladesAt B w (some ⟨ab, af, none⟩) d.bl) (hB : B ≤ w.heap.size) (hfB : B ≤ fb)
    (hend : ∀ (vs : Nat → Value) w' v, w'.heap[fb]? = some (.cells #[v, .int .i64 d.bound, .int .i64 d.stop, .int .i64 d.bend] 24) → OwnB w.heap.size v (fewD d wn).bl.length (fewD d wn).bl w' → Mod (fun j => j = fb) w w' → Q .normal (fwDs.foldl (fun a x => a.put (some x.2) (vs x.1)) a0) w') : (Code.region rid fwOps.toArray true).wp Tryd.prog Q a0 w := by
  have hfl := at_ltS hfew
  obtain ⟨b0, o0, hb0, hab, hcells⟩ := hbl.lies (fun e => by rw [e] at hw; simp at hw)
  obtain ⟨rfl, rfl⟩ : ab = b0 ∧ af = o0 := by
    have := Option.some.inj hb0
    exact ⟨congrArg Addr.block this, congrArg Addr.off this⟩
  have hl : (fewD d wn).bl.length = wn + (d.bl.length - (wn + 1)) := by simp; omega
  refine region_word2 fwB fwDs 219 hsz fwOk (FeW ab af cap wn db fb d w) ?_ ?_ ?_
  · exact ⟨fun h => absurd h (by decide), fun h => absurd h (by decide), fun h => absurd h (by decide), fun h => absurd h (by decide), fun h => absurd h (by decide), fun h => absurd h (by decide), fun h => absurd h (by decide), fun h => absurd h (by decide), fun h => absurd h (by decide), fun h => absurd h (by decide), fun h => absurd h (by decide), fun h => absurd h (by decide), fun h => absurd h (by decide), fun _ => hfew, fun h => absurd h (by decide), (Mod.refl _ _).drew⟩
  · intro D vs i' o ρ w' hlt hcl ho hD hdep EV EO hW
    have far : ∀ s, s ∉ fwDs.map Prod.snd → ρ.eval (.tmp s) = a0.eval (.tmp s) := fun s hs => EO s fun x hx e => absurd (e ▸ List.mem_map.2 ⟨x, hx, rfl⟩ : s ∈ fwDs.map Prod.snd) hs
    have k5 : D 5 = true → D 0 = true := fun h => hcl 5 fw5 rfl h ⟨0, .data⟩ (by simp) rfl
    have k11 : D 11 = true → D 5 = true := fun h => hcl 11 fw11 rfl h ⟨5, .data⟩ (by simp) rfl
    have k13 : D 13 = true → D 11 = true := fun h => hcl 13 fw13 rfl h ⟨11, .data⟩ (by simp) rfl
    have hdw : w'.heap[db]? = some (.cells (dyC (some ⟨ab, af, none⟩) d.bl.length cap d) 24) := hW.m.at hdie (fun e => hne e.symm)
    have hcw : ∀ i x, d.bl[i]? = some x → ∀ j, j < 4 → w'.cell? ⟨ab, af + i * 4 + j, none⟩ = (blC x)[j]? := fun i x hx j hj => (cell_same (hW.m.block ab (by omega) (by omega)) _).trans (hcells i x hx j hj)
    have hsz' := hW.m.size
    have hlt' : i' < 14 := hlt
    rcases (by omega : i' = 0 ∨ i' = 1 ∨ i' = 2 ∨ i' = 3 ∨ i' = 4 ∨ i' = 5 ∨ i' = 6 ∨ i' = 7 ∨ i' = 8 ∨ i' = 9 ∨ i' = 10 ∨ i' = 11 ∨ i' = 12 ∨ i' = 13) with rfl | rfl | rfl | rfl | rfl | rfl | rfl | rfl | rfl | rfl | rfl | rfl | rfl | rfl
    all_goals (obtain rfl := Option.some.inj ho)
    · have no0 : ∀ {p : Prop}, D 0 = true → p := fun h => by rw [hD] at h; cases h
      exact step_run rfl _ _ (run_build22 rfl) ⟨_, rfl, ⟨hW.c1, hW.c2, hW.c3, hW.c4, hW.c6, hW.c7, hW.c8, hW.c9, hW.c10, hW.c12, fun _ _ => own_build2 hsz', fun h => no0 (k5 h), fun h => no0 (k5 (k11 h)), fun h => ((Mod.refl noB w').alloc _).at (hW.s0 h) id, fun h => no0 (k5 (k11 (k13 h))), hW.m.alloc _⟩⟩
    · exact step_run rfl _ _ (run_field24 rfl ((far 3 (by decide)).trans x3)) ⟨_, rfl, hW.pure _ (by omega) (by omega) (by omega) (by omega) rfl⟩
    · have g : D 1 = true := hdep ⟨1, .data⟩ (by simp) rfl
      exact step_run rfl _ _ (run_load22 rfl ((EV 1 172 (by decide) g).trans (hW.c1 g)) (cellsAt hdw 0)) ⟨_, rfl, hW.pure _ (by omega) (by omega) (by omega) (by omega) rfl⟩
    · exact step_run rfl _ _ (run_move rfl ((far 19 (by decide)).trans x19)) ⟨_, rfl, hW.pure _ (by omega) (by omega) (by omega) (by omega) rfl⟩
    · have g2 : D 2 = true := hdep ⟨2, .data⟩ (by simp) rfl
      have g3 : D 3 = true := hdep ⟨3, .data⟩ (by simp) rfl
      exact step_run rfl _ _ (run_slice22a rfl ((EV 2 173 (by decide) g2).trans (hW.c2 g2)) ((EV 3 174 (by decide) g3).trans (hW.c3 g3)) (by omega) hcap hcm) ⟨_, rfl, hW.pure _ (by omega) (by omega) (by omega) (by omega) rfl⟩
    · have no5 : ∀ {p : Prop}, D 5 = true → p := fun h => by rw [hD] at h; cases h
      have g0 : D 0 = true := hdep ⟨0, .data⟩ (by simp) rfl
      have g4 : D 4 = true := hdep ⟨4, .data⟩ (by simp) rfl
      have hp := part_cells (k := 0) (L := d.bl.take wn) hcw (fun i x h => by
        have hlt := (List.getElem?_eq_some_iff.1 h).1
        rw [List.getElem?_take_of_lt (by rw [List.length_take] at hlt; omega)] at h
        rw [Nat.zero_add]; exact h)
      rw [Nat.zero_mul, Nat.add_zero] at hp
      refine app_blades rfl rfl (EV 0 171 (by decide) g0) (hW.o0 g0 hD) ((EV 4 175 (by decide) g4).trans (hW.c4 g4)) (L2 := d.bl.take wn) (by rw [List.length_take]; omega) hp hsz' (by omega) ?_
      intro v' w2 hown hm
      rw [Nat.zero_add, List.nil_append] at hown
      exact wpList_nil ⟨rfl, v', rfl, ⟨hW.c1, hW.c2, hW.c3, hW.c4, hW.c6, hW.c7, hW.c8, hW.c9, hW.c10, hW.c12, fun _ h => absurd h (by simp), fun _ _ => hown, fun h => no5 (k11 h), fun h => hm.at (hW.s0 h) (by omega), fun h => no5 (k11 (k13 h)), hW.m.then hm (fun i h1 h2 => by omega)⟩⟩
    · exact step_run rfl _ _ (run_field24 rfl ((far 3 (by decide)).trans x3)) ⟨_, rfl, hW.pure _ (by omega) (by omega) (by omega) (by omega) rfl⟩
    · have g : D 6 = true := hdep ⟨6, .data⟩ (by simp) rfl
      exact step_run rfl _ _ (run_load22 rfl ((EV 6 177 (by decide) g).trans (hW.c6 g)) (cellsAt hdw 0)) ⟨_, rfl, hW.pure _ (by omega) (by omega) (by omega) (by omega) rfl⟩
    · exact step_run rfl _ _ (run_move rfl ((far 19 (by decide)).trans x19)) ⟨_, rfl, hW.pure _ (by omega) (by omega) (by omega) (by omega) rfl⟩
    · have g8 : D 8 = true := hdep ⟨8, .data⟩ (by simp) rfl
      exact step_run rfl _ _ (run_add rfl ((EV 8 179 (by decide) g8).trans (hW.c8 g8)) rfl rfl (by omega) (by omega)) ⟨_, rfl, hW.pure _ (by omega) (by omega) (by omega) (by omega) rfl⟩
    · have g7 : D 7 = true := hdep ⟨7, .data⟩ (by simp) rfl
      have g9 : D 9 = true := hdep ⟨9, .data⟩ (by simp) rfl
      exact step_run rfl _ _ (run_slice22b rfl ((EV 7 178 (by decide) g7).trans (hW.c7 g7)) ((EV 9 180 (by decide) g9).trans (hW.c9 g9)) hw hcap hcm) ⟨_, rfl, hW.pure _ (by omega) (by omega) (by omega) (by omega) rfl⟩
    · have no11 : ∀ {p : Prop}, D 11 = true → p := fun h => by rw [hD] at h; cases h
      have g5 : D 5 = true := hdep ⟨5, .data⟩ (by simp) rfl
      have g10 : D 10 = true := hdep ⟨10, .data⟩ (by simp) rfl
      have hx := (EV 10 181 (by decide) g10).trans (hW.c10 g10)
      obtain ⟨ad, had, hp⟩ : ∃ ad, (if cap = wn + 1 then some (⟨ab, af, none⟩ : Addr) else some ⟨ab, af + (wn + 1) * 4, none⟩) = some ad ∧ ∀ j u, (flatB (d.bl.drop (wn + 1)))[j]? = some u → w'.cell? (Addr.add ad j) = some u := by
        by_cases hce : cap = wn + 1
        · refine ⟨_, if_pos hce, fun j u h => ?_⟩
          rw [List.drop_eq_nil_of_le (by omega)] at h
          simp [flatB] at h
        · exact ⟨_, if_neg hce, part_cells (k := wn + 1) hcw (fun i x h => by rw [List.getElem?_drop] at h; exact h)⟩
      rw [had] at hx
      refine app_blades rfl rfl (EV 5 176 (by decide) g5) (hW.o5 g5 hD) hx (L2 := d.bl.drop (wn + 1)) (by rw [List.length_drop]) hp hsz' (by omega) ?_
      intro v' w2 hown hm
      rw [← hl] at hown
      exact wpList_nil ⟨rfl, v', rfl, ⟨hW.c1, hW.c2, hW.c3, hW.c4, hW.c6, hW.c7, hW.c8, hW.c9, hW.c10, hW.c12, fun h1 h2 => absurd ((show D 5 = false from h2).symm.trans g5) (by decide), fun _ h => absurd h (by simp), fun _ => hown, fun h => hm.at (hW.s0 h) (by omega), fun h => no11 (k13 h), hW.m.then hm (fun i h1 h2 => by omega)⟩⟩
    · exact step_run rfl _ _ (run_field24 rfl ((far 20 (by decide)).trans x20)) ⟨_, rfl, hW.pure _ (by omega) (by omega) (by omega) (by omega) rfl⟩
    · have g11 : D 11 = true := hdep ⟨11, .data⟩ (by simp) rfl
      have g12 : D 12 = true := hdep ⟨12, .data⟩ (by simp) rfl
      have hown := hW.o11 g11
      obtain ⟨_, g, cp, hv, _⟩ := hown
      have hs0 := hW.s0 hD
      refine step_store22 rfl rfl ((EV 12 183 (by decide) g12).trans (hW.c12 g12)) ((EV 11 182 (by decide) g11).trans hv) hs0 ⟨_, rfl, ⟨hW.c1, hW.c2, hW.c3, hW.c4, hW.c6, hW.c7, hW.c8, hW.c9, hW.c10, hW.c12, fun _ h2 => absurd ((show D 5 = false from h2).symm.trans (k11 g11)) (by decide), fun _ h2 => absurd ((show D 11 = false from h2).symm.trans g11) (by decide), fun _ => (hW.o11 g11).same (fun r h1 h2 => (((Mod.refl (fun j => j = fb) w').setCell (p := ⟨fb, 0, none⟩) (fun _ => rfl) _).block r h2 (by omega))), fun h => absurd h (by simp), fun _ => ⟨g11, ?_⟩, hW.m.setCell (fun _ => rfl) _⟩⟩
      rw [setCell_at hs0]
      show _ = some (Obj.cells #[vs 11, _, _, _] 24)
      rw [hv]
      rfl
  · intro vs D w' hall hW
    obtain ⟨h1, h2⟩ := hW.s1 (hall 13 (by decide))
    exact hend vs w' _ h2 (hW.o11 h1) hW.m
end Go.Proofs.YtdncppempgpooaaDoor

/- RuleLess: rooms of slices that came in, and of Proof's lists; a part of the stints. -/
namespace Go.Proofs.YtdncppempgpooaaDoor
open Go Go.ChangeShapes Go.WideShapes Go.ChangeAt Go.RowKit Go.Joins Go.Shelf
section
variable {H : Type} {enc : TypeId × Value → H} {W : World} {base : Nat} {sp : Nat → Bool} {held : Bool}
theorem slice_caps {T E : TypeId} (hT : Tryd.prog.underlying T = some (.slice E)) {fuel : Nat} {ao : Option Addr} {n cap : Nat} {x : DataW H × List MemPlace}
    (h : DataW.trod enc Tryd.prog W base sp held fuel T [.slice ao n cap] = some x) : n ≤ cap ∧ cap ≤ 9223372036854775807 := by
  rcases DataW.trod_slice hT h with ⟨e, _⟩ | ⟨a, len, cap', elems, rest, k, _, e, _, _, hl, hm, _⟩
  · simp only [List.cons.injEq, and_true, Value.slice.injEq] at e
    omega
  · simp only [List.cons.injEq, and_true, Value.slice.injEq] at e
    unfold maxLen at hm
    omega
theorem stints_caps {b0 : Nat} {ao : Option Addr} {n cap : Nat} {d : DataW H} {p : List MemPlace} (h : DataW.Trod enc Tryd.prog W b0 sp held 33 (.slice ao n cap) d p) : n ≤ cap ∧ cap ≤ 9223372036854775807 := by
  obtain ⟨fuel, hf⟩ := h
  exact slice_caps Tryd.underlying33 hf
set_option maxRecDepth 100000 in
theorem die_caps {r : Reach} {b0 : Nat} {ao : Option Addr} {n cap : Nat} {y : Dye} {d : DataW H} {p : List MemPlace} (hv : Value.okWide Tryd.prog W r base 24 (dyV ao n cap y)) (h : DataW.Trod enc Tryd.prog W b0 sp held 24 (dyV ao n cap y) d p) : n ≤ cap ∧ cap ≤ 9223372036854775807 := by
  obtain ⟨v0, v1, v2, v3, y0, y1, y2, y3, m, e, _, _, t0, t1, t2, t3⟩ := open_agg4 Tryd.underlying24 (by kernel_rfl) cellsOf24 hv h
  have e0 : v0 = .slice ao n cap := by
    have := congrArg (fun v => match v with | .agg cs => cs[0]? | _ => none) e
    simpa using this.symm
  subst e0
  exact slice_caps Tryd.underlying22 t0
end
/-- A part of a list in memory lies there too. -/
theorem ListAt.take {α : Type} {B : Nat} {w : World} {sz : Nat} {cs : α → Array Value} {ao : Option Addr} {l : List α} (h : ListAt B w sz cs ao l) (n : Nat) : ListAt B w sz cs ao (l.take n) :=
  ⟨fun hne => by
    obtain ⟨b, off, h1, h2, h3⟩ := h.lies (fun e => hne (by rw [e, List.take_nil]))
    refine ⟨b, off, h1, h2, fun k x hx => h3 k x ?_⟩
    have hlt := (List.getElem?_eq_some_iff.1 hx).1
    rw [List.getElem?_take_of_lt (by rw [List.length_take] at hlt; omega)] at hx
    exact hx, Nat.le_trans (by rw [List.length_take]; omega) h.small⟩
theorem IntsAt.take {w : World} {ao : Option Addr} {zs : List Int} (h : IntsAt w ao zs) (n : Nat) : IntsAt w ao (zs.take n) :=
  ⟨fun hne => by
    obtain ⟨b, off, h1, h2, h3⟩ := h.lies (fun e => hne (by rw [e, List.take_nil]))
    refine ⟨b, off, h1, h2, fun j hj => ?_⟩
    rw [List.length_take] at hj
    rw [h3 j (by omega), List.getElem?_take_of_lt (by omega)], Nat.le_trans (by rw [List.length_take]; omega) h.small⟩
theorem InB.take {B : Nat} {w : World} {ao : Option Addr} {d : Dye} {lo : Option Addr} {l : List (Int × Int)} (h : InB B w ao d lo l) (n : Nat) : InB B w ao d lo (l.take n) := ⟨h.bl, h.st.take n, h.le, h.tab, h.one⟩
theorem own_room {base n sz : Nat} {e : TypeId} {w : World} {ao : Option Addr} {cap : Nat} {xs : List Value} (h : w.ownsRow base e sz (.slice ao n cap) n xs) : n ≤ cap ∧ cap ≤ 9223372036854775807 := by
  rcases h.2 with ⟨h, hz⟩ | ⟨g', cap', cur, hv, _, _, h1, h2, _⟩
  · cases h; omega
  · cases hv; unfold maxLen at h2; omega
/-- What Proof returns, as lists in memory, and their rooms. -/
theorem proof_lists2 {v : List (Int × Int) × List Int × Int} {w : World} {e : Ending} {w' : World} (h : ProofOut v w e w') (hl : v.1.length ≤ 100) (hl2 : v.2.1.length = v.1.length) : ∃ a1 k1 a2 k2, e = .returned (.tuple #[.slice a1 v.1.length k1, .slice a2 v.1.length k2, .int .i64 v.2.2]) ∧ ListAt w'.heap.size w' 2 spC a1 v.1 ∧ IntsAt w' a2 v.2.1 ∧ (v.1.length ≤ k1 ∧ k1 ≤ 9223372036854775807) ∧ (v.1.length ≤ k2 ∧ k2 ≤ 9223372036854775807) ∧ Mod noB w w' := by
  obtain ⟨vR, vB, he, o1, o2, hm⟩ := h
  obtain ⟨a1, k1, rfl, i1⟩ := spans_own o1 rfl (by omega)
  obtain ⟨a2, k2, rfl, i2, _⟩ := ints_of_owns o2 rfl (by omega)
  have r1 := own_room o1
  have r2 := own_room o2
  rw [hl2] at he r2
  exact ⟨a1, k1, a2, k2, he, i1, i2, r1, r2, hm⟩
end Go.Proofs.YtdncppempgpooaaDoor

/- RuleLess: the law's walk. -/
namespace Go.Proofs.YtdncppempgpooaaDoor
open Go Go.RowKit Go.Shelf

set_option maxRecDepth 100000 in
set_option maxHeartbeats 4000000 in
theorem law11_far (ao lo : Option Addr) (cap n lcap ln u : Nat) (x y z : Int) (w : World) (hn : n ≤ 9223372036854775807) (hl : ln ≤ 9223372036854775807) (hf : (10 < (n : Int)) ∨ (12 < (ln : Int))) (hT : Tab w) :
    Calls Tryd.prog 11 #[.agg #[.slice ao n cap, .int .i64 x, .int .i64 y, .int .i64 z], .slice lo ln lcap, .int .u8 u] w fun e w' => e = .returned (.bool true) ∧ Mod noB w w' := by
  have hw1 : 1 < w.heap.size := World.block_lt_of_cell? _ _ (hT.at_ 0 (by omega))
  have HF := Hold.mk (show Kept (w.alloc (.cells #[.slice ao n cap, .int .i64 x, .int .i64 y, .int .i64 z] 24)) (fun W => Tab W ∧ Mod noB w W) from fun W h => by
    have hm := ((Mod.refl noB w).alloc _).trans h
    exact ⟨hT.same (hm.block 1 hw1 id), hm⟩)
  have H12 : Hold (∀ W, Calls Tryd.prog 12 #[.agg #[.slice ao n cap, .int .i64 x, .int .i64 y, .int .i64 z], .slice lo ln lcap, .slice none 0 0] W fun e w' => e = .returned (.bool true) ∧ Mod noB W w') := ⟨fun W => (far_more ao lo none cap n ln 0 lcap 0 x y z W hn hl (by omega)).mono fun e w' h => ⟨by rw [h.1]; congr 2; simp; omega, h.2⟩⟩
  clear hT hw1 hf
  go_enter Tryd.func11, Tryd.ntmps11
  go_wp2_with (first
    | (go_at_call 12; refine (H12.out _).mono ?_; rintro e w1 ⟨rfl, hM⟩; have HF1 := Hold.mk (HF.out.later hM); clear hM)
    | (go_at_call 13; refine (awake_any _ HF1.out.now.1).mono ?_; rintro e w2 ⟨rfl, hM⟩; have HF2 := Hold.mk (HF1.out.later hM); clear hM))
  go_ret
  exact ⟨rfl, HF2.out.now.2⟩

set_option maxRecDepth 100000 in
set_option maxHeartbeats 4000000 in
/-- Where the law looks no further: too many plans, no raw numbers, a die or stints that are not valid. -/
theorem law11_no (B : Nat) (ao : Option Addr) (cap : Nat) (d : Dye) (lo : Option Addr) (lcap : Nat) (l : List (Int × Int)) (u : Nat) (w : World) (hI : InB B w ao d lo l) (h1 : ¬ 10 < (d.bl.length : Int)) (h2 : ¬ 12 < (l.length : Int)) (hno : dieB d = false ∨ stintsB l = false) :
    Calls Tryd.prog 11 #[dyV ao d.bl.length cap d, .slice lo l.length lcap, .int .u8 u] w fun e w' => e = .returned (.bool true) ∧ Mod noB w w' := by
  have hsm := hI.bl.small
  have HF := Hold.mk (lawd0 (cap := cap) hI)
  have H12 : Hold (∀ W, Calls Tryd.prog 12 #[dyV ao d.bl.length cap d, .slice lo l.length lcap, .slice none 0 0] W fun e w' => e = .returned (.bool false) ∧ Mod noB W w') := ⟨fun W => (far_more ao lo none cap d.bl.length l.length 0 lcap 0 d.bound d.stop d.bend W (by omega) (by omega) (by omega)).mono fun e w' h => ⟨by rw [h.1]; congr 2; simp; omega, h.2⟩⟩
  have H24 : Hold (∀ W, Calls Tryd.prog 24 #[dyV ao d.bl.length cap d, .slice lo l.length lcap, .int .i64 32768] W fun e w' => SomeB e ∧ Mod noB W w') := ⟨fun W => heavy_any ao cap d.bl.length d.bound d.stop d.bend lo l.length lcap 32768 W (by omega) (by omega)⟩
  have H27 : Hold (∀ W, InB B W ao d lo l → Calls Tryd.prog 27 #[dyV ao d.bl.length cap d] W fun e w' => e = .returned (.bool (dieB d)) ∧ Mod noB W w') := ⟨fun W h => refDie_any B ao cap d W h.le h.bl⟩
  have H28 : Hold (∀ W, InB B W ao d lo l → Calls Tryd.prog 28 #[.slice lo l.length lcap] W fun e w' => e = .returned (.bool (stintsB l)) ∧ Mod noB W w') := ⟨fun W h => refStints_any B lo lcap l W h.le h.st⟩
  have HN := Hold.mk hno
  clear hI h1 h2
  have body : ∀ (db sb : Bool), dieB d = db → stintsB l = sb → (db = false ∨ sb = false) → Calls Tryd.prog 11 #[dyV ao d.bl.length cap d, .slice lo l.length lcap, .int .u8 u] w fun e w' => e = .returned (.bool true) ∧ Mod noB w w' := by
    intro db sb hdb hsb hh
    rw [hdb] at H27
    rw [hsb] at H28
    clear hdb hsb HN hno
    rcases (show db = false ∨ (db = true ∧ sb = false) from by
      cases db
      · exact .inl rfl
      · refine .inr ⟨rfl, ?_⟩
        rcases hh with h | h
        · cases h
        · exact h) with rfl | ⟨rfl, rfl⟩
    all_goals
      clear hh
      go_enter Tryd.func11, Tryd.ntmps11
      go_wp2_with (first
        | (refine wpList_load_row rfl 24 (.tmp 3) rfl w.heap.size rfl 24 _ (0, 0) _ HF.out.now.1 Tryd.underlying24 rfl info24 ?_)
        | (go_at_call 12; refine (H12.out _).mono ?_; rintro e w1 ⟨rfl, hM⟩; have HF := Hold.mk (HF.out.later hM); have hg := HF.out.now.1; have g0 := cellsAt hg 0; have g1 := cellsAt hg 1; have g2 := cellsAt hg 2; have g3 := cellsAt hg 3; clear hM hg)
        | (go_at_call 24; refine (H24.out _).mono ?_; rintro e w2 ⟨⟨b, rfl⟩, hM⟩; have HF := Hold.mk (HF.out.later hM); have hg := HF.out.now.1; have g0 := cellsAt hg 0; have g1 := cellsAt hg 1; have g2 := cellsAt hg 2; have g3 := cellsAt hg 3; clear hM hg; cases b)
        | (go_at_call 27; refine (H27.out _ HF.out.now.2.1).mono ?_; rintro e w3 ⟨rfl, hM⟩; have HF := Hold.mk (HF.out.later hM); clear hM)
        | (go_at_call 28; refine (H28.out _ HF.out.now.2.1).mono ?_; rintro e w4 ⟨rfl, hM⟩; have HF := Hold.mk (HF.out.later hM); clear hM)
        | (go_at_call 13; refine (awake_any _ HF.out.now.2.1.tab).mono ?_; rintro e w5 ⟨rfl, hM⟩; have HF := Hold.mk (HF.out.later hM); clear hM))
      all_goals
        go_ret
        exact ⟨rfl, HF.out.now.2.2⟩
  exact body _ _ rfl rfl HN.out
end Go.Proofs.YtdncppempgpooaaDoor

/- RuleLess: the law's walk, of dies and stints that are valid. -/
namespace Go.Proofs.YtdncppempgpooaaDoor
open Go Go.RowKit Go.Shelf

/-- What Plan and Proof return, kept. -/
def PlanP (c : Int) : Value → Value → Value → World → Prop := fun _ y z _ => y = .int .i64 c ∧ z = .int .i64 0
def ProofP (R : List (Int × Int)) (K : List Int) : Value → Value → Value → World → Prop := fun x y z W => ∃ a1 k1 a2 k2, x = .slice a1 R.length k1 ∧ y = .slice a2 R.length k2 ∧ z = .int .i64 0 ∧ ListAt W.heap.size W 2 spC a1 R ∧ IntsAt W a2 K
theorem proofP_kept {R : List (Int × Int)} {K : List Int} {x y z : Value} {W : World} (h : ProofP R K x y z W) : Kept W (ProofP R K x y z) := fun W' hm => by
  obtain ⟨a1, k1, a2, k2, h1, h2, h3, h4, h5⟩ := h
  exact ⟨a1, k1, a2, k2, h1, h2, h3, kept_spans h4 W' hm, h5.mod hm⟩

theorem flat_at : ∀ (L : List Bld) (k : Nat) (x : Bld), L[k]? = some x → ∀ j, j < 4 → (flatB L)[k * 4 + j]? = (blC x)[j]? := by
  intro L
  induction L with
  | nil => intro k x h; simp at h
  | cons b L ih =>
    intro k x h j hj
    have e : flatB (b :: L) = (blC b).toList ++ flatB L := by simp [flatB]
    rw [e]
    cases k with
    | zero =>
      obtain rfl : b = x := by simpa using h
      rw [List.getElem?_append_left (by simp; omega), Nat.zero_mul, Nat.zero_add]
      simp
    | succ k =>
      rw [List.getElem?_append_right (by simp; omega), show (k + 1) * 4 + j - (blC b).toList.length = k * 4 + j by simp; omega]
      exact ih k x (by simpa using h) j hj
theorem own_blades {base n g cp : Nat} {L : List Bld} {W : World} (h : OwnB base (.slice (some ⟨g, 0, none⟩) n cp) n L W) (hn : L.length = n) (hs : L.length ≤ 1000000000000) : BladesAt W.heap.size W (some ⟨g, 0, none⟩) L := by
  refine ⟨fun hne => ?_, hs⟩
  have h0 := h.1
  rcases h0.2 with ⟨hz, _⟩ | ⟨g', cap', cur, hv, _, hh, _⟩
  · cases hz
  · cases hv
    refine ⟨g, 0, rfl, at_ltS hh, fun k x hx j hj => ?_⟩
    have hk := (List.getElem?_eq_some_iff.1 hx).1
    rw [Nat.zero_add, h0.cellAt (k * 4 + j) (by omega)]
    exact flat_at L k x hx j hj

set_option maxRecDepth 100000 in
set_option maxHeartbeats 16000000 in
theorem law11_yes (B : Nat) (ab af : Nat) (cap : Nat) (d : Dye) (lo : Option Addr) (lcap : Nat) (l : List (Int × Int)) (u : Nat) (hu : u ≤ 255) (w : World) (hI : InB B w (some ⟨ab, af, none⟩) d lo l) (h1 : ¬ 10 < (d.bl.length : Int)) (h2 : ¬ 12 < (l.length : Int)) (hd : dieB d = true) (hs : stintsB l = true)
    (hbc : d.bl.length ≤ cap) (hbm : cap ≤ 9223372036854775807) (hlc : l.length ≤ lcap) (hlm : lcap ≤ 9223372036854775807) :
    Calls Tryd.prog 11 #[dyV (some ⟨ab, af, none⟩) d.bl.length cap d, .slice lo l.length lcap, .int .u8 u] w fun e w' => e = .returned (.bool true) ∧ Mod noB w w' := by
  have hsm := hI.bl.small
  have hl7 : l.length ≤ 7 := by simp [stintsB] at hs; omega
  obtain ⟨⟨l1, l5⟩, _, _, s1, s2⟩ := dieB_parts hd
  have HF := Hold.mk (lawd0 (cap := cap) hI)
  have H12 : Hold (∀ W, Calls Tryd.prog 12 #[dyV (some ⟨ab, af, none⟩) d.bl.length cap d, .slice lo l.length lcap, .slice none 0 0] W fun e w' => e = .returned (.bool false) ∧ Mod noB W w') := ⟨fun W => (far_more (some ⟨ab, af, none⟩) lo none cap d.bl.length l.length 0 lcap 0 d.bound d.stop d.bend W (by omega) (by omega) (by omega)).mono fun e w' h => ⟨by rw [h.1]; congr 2; simp; omega, h.2⟩⟩
  have H24 : Hold (∀ W, Calls Tryd.prog 24 #[dyV (some ⟨ab, af, none⟩) d.bl.length cap d, .slice lo l.length lcap, .int .i64 32768] W fun e w' => SomeB e ∧ Mod noB W w') := ⟨fun W => heavy_any (some ⟨ab, af, none⟩) cap d.bl.length d.bound d.stop d.bend lo l.length lcap 32768 W (by omega) (by omega)⟩
  have H27 : Hold (∀ W, InB B W (some ⟨ab, af, none⟩) d lo l → Calls Tryd.prog 27 #[dyV (some ⟨ab, af, none⟩) d.bl.length cap d] W fun e w' => e = .returned (.bool true) ∧ Mod noB W w') := ⟨fun W h => by rw [← hd]; exact refDie_any B (some ⟨ab, af, none⟩) cap d W h.le h.bl⟩
  have H28 : Hold (∀ W, InB B W (some ⟨ab, af, none⟩) d lo l → Calls Tryd.prog 28 #[.slice lo l.length lcap] W fun e w' => e = .returned (.bool true) ∧ Mod noB W w') := ⟨fun W h => by rw [← hs]; exact refStints_any B lo lcap l W h.le h.st⟩
  rcases proof_is hd hs with ⟨hp, hk⟩ | ⟨hp, hbr⟩
  · have hpl := plan_no hd hs hk
    have H25 : Hold (∀ W, InB B W (some ⟨ab, af, none⟩) d lo l → Calls Tryd.prog 25 #[dyV (some ⟨ab, af, none⟩) d.bl.length cap d, .slice lo l.length lcap] W fun e w' => ∃ a1 k1, e = .returned (.tuple #[.slice a1 0 k1, .int .i64 0, .int .i64 4]) ∧ Mod noB W w') := ⟨fun W h => (plan_any B (some ⟨ab, af, none⟩) cap d lo lcap l W h).mono fun e w' h => by
      rw [hpl] at h
      obtain ⟨a1, k1, he, hi, _, _, hm⟩ := h
      exact ⟨a1, k1, he, hm⟩⟩
    have H20 : Hold (∀ W, InB B W (some ⟨ab, af, none⟩) d lo l → Calls Tryd.prog 20 #[dyV (some ⟨ab, af, none⟩) d.bl.length cap d, .slice lo l.length lcap] W fun e w' => ∃ a1 k1 a2 k2, e = .returned (.tuple #[.slice a1 0 k1, .slice a2 0 k2, .int .i64 4]) ∧ Mod noB W w') := ⟨fun W h => (proof_any B (some ⟨ab, af, none⟩) cap d lo lcap l W h).mono fun e w' h => by
      rw [hp] at h
      obtain ⟨a1, k1, a2, k2, he, _, _, hm⟩ := proof_lists h (by simp) rfl
      exact ⟨a1, k1, a2, k2, he, hm⟩⟩
    clear hI h1 h2 hd hs hp hk hpl s1 s2
    go_enter Tryd.func11, Tryd.ntmps11
    go_wp2_with (first
      | (refine wpList_load_row rfl 24 (.tmp 3) rfl w.heap.size rfl 24 _ (0, 0) _ HF.out.now.1 Tryd.underlying24 rfl info24 ?_)
      | (go_at_call 12; refine (H12.out _).mono ?_; rintro e w1 ⟨rfl, hM⟩; have HF := Hold.mk (HF.out.later hM); have hg := HF.out.now.1; have g0 := cellsAt hg 0; have g1 := cellsAt hg 1; have g2 := cellsAt hg 2; have g3 := cellsAt hg 3; clear hM hg)
      | (go_at_call 24; refine (H24.out _).mono ?_; rintro e w2 ⟨⟨b, rfl⟩, hM⟩; have HF := Hold.mk (HF.out.later hM); have hg := HF.out.now.1; have g0 := cellsAt hg 0; have g1 := cellsAt hg 1; have g2 := cellsAt hg 2; have g3 := cellsAt hg 3; clear hM hg; cases b)
      | (go_at_call 27; refine (H27.out _ HF.out.now.2.1).mono ?_; rintro e w3 ⟨rfl, hM⟩; have HF := Hold.mk (HF.out.later hM); clear hM)
      | (go_at_call 28; refine (H28.out _ HF.out.now.2.1).mono ?_; rintro e w4 ⟨rfl, hM⟩; have HF := Hold.mk (HF.out.later hM); clear hM)
      | (go_at_call 25; refine (H25.out _ HF.out.now.2.1).mono ?_; rintro e w5 ⟨a1, k1, rfl, hM⟩; have HF := Hold.mk (HF.out.later hM); clear hM)
      | (go_at_call 20; refine (H20.out _ HF.out.now.2.1).mono ?_; rintro e w6 ⟨a1, k1, a2, k2, rfl, hM⟩; have HF := Hold.mk (HF.out.later hM); clear hM)
      | (go_at_call 13; refine (awake_any _ HF.out.now.2.1.tab).mono ?_; rintro e w9 ⟨rfl, hM⟩; have HF := Hold.mk (HF.out.later hM); clear hM))
    all_goals
      go_ret
      exact ⟨rfl, HF.out.now.2.2⟩
  · have hpl := plan_ok hd hs hbr
    obtain ⟨c, hc⟩ : ∃ c, bestC d l = c := ⟨_, rfl⟩
    obtain ⟨rows, hrows⟩ : ∃ rows, rowsR d 0 0 zeroR l = rows := ⟨_, rfl⟩
    have hrl : rows.length ≤ l.length := by rw [← hrows]; exact rowsR_len _ _ _ _ _
    rw [hc] at hpl
    rw [hrows] at hp
    have H25 : Hold (∀ W, InB B W (some ⟨ab, af, none⟩) d lo l → Calls Tryd.prog 25 #[dyV (some ⟨ab, af, none⟩) d.bl.length cap d, .slice lo l.length lcap] W fun e w' => ∃ a1 n1 k1, e = .returned (.tuple #[.slice a1 n1 k1, .int .i64 c, .int .i64 0]) ∧ Mod noB W w') := ⟨fun W h => (plan_any B (some ⟨ab, af, none⟩) cap d lo lcap l W h).mono fun e w' h => by
      rw [hpl] at h
      obtain ⟨a1, k1, he, hi, _, _, hm⟩ := h
      exact ⟨a1, _, k1, he, hm⟩⟩
    have H20 : Hold (∀ W, InB B W (some ⟨ab, af, none⟩) d lo l → Calls Tryd.prog 20 #[dyV (some ⟨ab, af, none⟩) d.bl.length cap d, .slice lo l.length lcap] W fun e w' => ∃ a1 k1 a2 k2, e = .returned (.tuple #[.slice a1 rows.length k1, .slice a2 rows.length k2, .int .i64 0]) ∧ ListAt w'.heap.size w' 2 spC a1 (rows.map rowP) ∧ IntsAt w' a2 (rows.map rowK) ∧ (rows.length ≤ k1 ∧ k1 ≤ 9223372036854775807) ∧ (rows.length ≤ k2 ∧ k2 ≤ 9223372036854775807) ∧ Mod noB W w') := ⟨fun W h => (proof_any B (some ⟨ab, af, none⟩) cap d lo lcap l W h).mono fun e w' h => by
      rw [hp] at h
      have := proof_lists2 h (by show (rows.map rowP).length ≤ 100; rw [List.length_map]; omega) (by simp)
      simp only [List.length_map] at this
      exact this⟩
    have H22 : Hold (∀ (R : List (Int × Int)) a1 k1 a2 k2 W, ListAt W.heap.size W 2 spC a1 R → ListAt W.heap.size W 2 spC a2 R → Calls Tryd.prog 22 #[.slice a1 R.length k1, .slice a2 R.length k2] W fun e w' => e = .returned (.bool true) ∧ Mod noB W w') := ⟨fun R a1 k1 a2 k2 W h1 h2 => callSpans rfl rfl h1 h2⟩
    rcases Nat.eq_zero_or_pos l.length with hz | hz
    · have hnl : ¬ (0 : Int) < (l.length : Int) := by omega
      have hLB := less_blade (w := u % d.bl.length) hd hs (Nat.mod_lt _ (by omega)) hbr
      rw [hc, hrows] at hLB
      have HLB := Hold.mk hLB
      clear hLB
      have HFD := Hold.mk (fun h2 => few_die (w := u % d.bl.length) hd (Nat.mod_lt _ (by omega)) h2)
      have HSS := Hold.mk hs
      clear hd hs
      have hwl : u % d.bl.length < d.bl.length := Nat.mod_lt _ (by omega)
      obtain ⟨wn, hwn⟩ : ∃ wn, u % d.bl.length = wn := ⟨_, rfl⟩
      have hrem : Int.tmod (u : Int) (d.bl.length : Int) = (wn : Int) := by rw [← hwn]; rfl
      rw [hwn] at HLB HFD hwl
      have hne0 : ((d.bl.length : Int) == 0) = false := beq_eq_false_iff_ne.2 (by omega)
      clear hwn
      clear hI h1 h2 hp hpl hrows hc s1 s2 hbr hz
      by_cases hb2 : (d.bl.length : Int) < 2
      all_goals
        go_enter Tryd.func11, Tryd.ntmps11
        go_wp2_with (first
          | (refine wpList_load_row rfl 24 (.tmp 3) rfl w.heap.size rfl 24 _ (0, 0) _ HF.out.now.1 Tryd.underlying24 rfl info24 ?_)
          | (go_at_call 12; refine (H12.out _).mono ?_; rintro e w1 ⟨rfl, hM⟩; have HF := Hold.mk (HF.out.later hM); have hg := HF.out.now.1; have g0 := cellsAt hg 0; have g1 := cellsAt hg 1; have g2 := cellsAt hg 2; have g3 := cellsAt hg 3; clear hM hg)
          | (go_at_call 24; refine (H24.out _).mono ?_; rintro e w2 ⟨⟨b, rfl⟩, hM⟩; have HF := Hold.mk (HF.out.later hM); have hg := HF.out.now.1; have g0 := cellsAt hg 0; have g1 := cellsAt hg 1; have g2 := cellsAt hg 2; have g3 := cellsAt hg 3; clear hM hg; cases b)
          | (go_at_call 27; refine (H27.out _ HF.out.now.2.1).mono ?_; rintro e w3 ⟨rfl, hM⟩; have HF := Hold.mk (HF.out.later hM); clear hM)
          | (go_at_call 28; refine (H28.out _ HF.out.now.2.1).mono ?_; rintro e w4 ⟨rfl, hM⟩; have HF := Hold.mk (HF.out.later hM); clear hM)
          | (go_at_call 25; refine (H25.out _ HF.out.now.2.1).mono ?_; rintro e w5 ⟨a0, n0, k0, rfl, hM⟩; have HF := Hold.mk (HF.out.later hM); clear hM)
          | (go_at_call 20; refine (H20.out _ HF.out.now.2.1).mono ?_; rintro e w6 ⟨a1, k1, a2, k2, rfl, i1, i2, ⟨r1, r2⟩, ⟨r3, r4⟩, hM⟩; have HF := Hold.mk (HF.out.later hM); have HRS := Hold.mk (kept_spans i1); have HKS := Hold.mk (kept_ints i2); have hg := HF.out.now.1; have g0 := cellsAt hg 0; have g1 := cellsAt hg 1; have g2 := cellsAt hg 2; have g3 := cellsAt hg 3; clear hM i1 i2 hg)
          | (go_at_call 13; refine (awake_any _ HF.out.now.2.1.tab).mono ?_; rintro e w9 ⟨rfl, hM⟩; have HF := Hold.mk (HF.out.later hM); clear hM))
      all_goals first
        | (go_ret
           exact ⟨rfl, HF.out.now.2.2⟩)
        | skip
      generalize hW1 : w6.alloc (Obj.cells #[Value.slice (some ⟨ab, af, none⟩) d.bl.length cap, Value.int IntKind.i64 d.bound, Value.int IntKind.i64 d.stop, Value.int IntKind.i64 d.bend] 24) = W1
      have HF1 : Hold (Kept W1 (Lawd w B (some ⟨ab, af, none⟩) cap d lo l)) := ⟨by rw [← hW1]; exact HF.out.later ((Mod.refl noB w6).alloc _)⟩
      have HN1 : Hold (W1.heap[w6.heap.size]? = some (.cells (dyC (some ⟨ab, af, none⟩) d.bl.length cap d) 24)) := ⟨by rw [← hW1]; exact World.alloc_heap_new _ _⟩
      have HM1 : Hold (Mod noB w6 W1) := ⟨by rw [← hW1]; exact (Mod.refl noB w6).alloc _⟩
      have hne : w6.heap.size ≠ w.heap.size := by have := at_ltS HF.out.now.1; omega
      have hle1 : B ≤ w6.heap.size := HF.out.now.2.1.le
      clear hW1
      refine region_few (ab := ab) (af := af) (cap := cap) (wn := wn) (db := w.heap.size) (fb := w6.heap.size) (B := B) (d := d) rfl rfl rfl rfl hwl l5 hbc hbm hne HF1.out.now.1 HN1.out HF1.out.now.2.1.bl HF1.out.now.2.1.le hle1 ?_
      intro vs3 w12 v hfb hown hM
      have HFc := Hold.mk (HF.out.later (HM1.out.then hM (fun i hi e => by omega)))
      obtain ⟨g, cp, hv, _⟩ := hown.2
      subst hv
      have hIn : InB w12.heap.size w12 (some ⟨g, 0, none⟩) (fewD d wn) lo l := ⟨own_blades hown rfl (by have := few_len hwl; omega), HFc.out.now.2.1.st.mono HFc.out.now.2.1.le, Nat.le_refl _, HFc.out.now.2.1.tab, Nat.lt_of_lt_of_le HFc.out.now.2.1.one HFc.out.now.2.1.le⟩
      have HIF : Hold (Kept w12 (fun W => W.heap[w6.heap.size]? = some (.cells (dyC (some ⟨g, 0, none⟩) (fewD d wn).bl.length cp (fewD d wn)) 24) ∧ InB w12.heap.size W (some ⟨g, 0, none⟩) (fewD d wn) lo l)) := ⟨fun W h => ⟨h.at hfb id, hIn.mod h⟩⟩
      have hfd := HFD.out (by omega)
      obtain ⟨hb', hc2, hr2⟩ := HLB.out
      have hplf := plan_ok hfd HSS.out hb'
      have hprf := proof_ok hfd HSS.out hb'
      have hrl2 := rowsR_len (fewD d wn) l 0 0 zeroR
      clear hfb hown hM hIn hfd hb' HF HF1 HN1 HM1 HLB HFD
      obtain ⟨few, hfew⟩ : ∃ few, fewD d wn = few := ⟨_, rfl⟩
      rw [hfew] at HIF hc2 hr2 hplf hprf hrl2
      clear hfew
      obtain ⟨cf, hcf⟩ : ∃ cf, bestC few l = cf := ⟨_, rfl⟩
      obtain ⟨rf, hrf⟩ : ∃ rf, rowsR few 0 0 zeroR l = rf := ⟨_, rfl⟩
      rw [hcf] at hplf hc2
      rw [hrf] at hprf hr2 hrl2
      have hr3 : ¬ (rows.length : Int) < (rf.length : Int) := by omega
      have hc3 : ¬ c < cf := by omega
      have hrf7 : rf.length ≤ 7 := by omega
      have H25f : Hold (∀ W, InB w12.heap.size W (some ⟨g, 0, none⟩) few lo l → Calls Tryd.prog 25 #[dyV (some ⟨g, 0, none⟩) few.bl.length cp few, .slice lo l.length lcap] W fun e w' => ∃ a1 n1 k1, e = .returned (.tuple #[.slice a1 n1 k1, .int .i64 cf, .int .i64 0]) ∧ Mod noB W w') := ⟨fun W h => (plan_any w12.heap.size _ cp few lo lcap l W h).mono fun e w' h => by
        rw [hplf] at h
        obtain ⟨a1, k1, he, hi, _, _, hm⟩ := h
        exact ⟨a1, _, k1, he, hm⟩⟩
      have H20f : Hold (∀ W, InB w12.heap.size W (some ⟨g, 0, none⟩) few lo l → Calls Tryd.prog 20 #[dyV (some ⟨g, 0, none⟩) few.bl.length cp few, .slice lo l.length lcap] W fun e w' => ∃ a1 k1 a2 k2, e = .returned (.tuple #[.slice a1 rf.length k1, .slice a2 rf.length k2, .int .i64 0]) ∧ Mod noB W w') := ⟨fun W h => (proof_any w12.heap.size _ cp few lo lcap l W h).mono fun e w' h => by
        rw [hprf] at h
        obtain ⟨a1, k1, a2, k2, he, _, _, hm⟩ := proof_lists h (by show (rf.map rowP).length ≤ 100; rw [List.length_map]; omega) (by simp)
        simp only [List.length_map] at he
        exact ⟨a1, k1, a2, k2, he, hm⟩⟩
      clear hplf hprf hrl2 hcf hrf hr2 hc2 g0 g1 g2 g3
      simp only [fwDs, List.foldl_cons, List.foldl_nil, Act.put, List.setIfInBounds_toArray, List.set_cons_succ, List.set_cons_zero]
      go_wp2_with (first
        | (refine wpList_load_row rfl 24 (.tmp 20) rfl w6.heap.size rfl 24 _ (0, 0) _ HIF.out.now.1 Tryd.underlying24 rfl info24 ?_)
        | (go_at_call 25; refine (H25f.out _ HIF.out.now.2).mono ?_; rintro e w13 ⟨a5, n5, k5, rfl, hM⟩; have HFc := Hold.mk (HFc.out.later hM); have HIF := Hold.mk (HIF.out.later hM); clear hM)
        | (go_at_call 20; refine (H20f.out _ HIF.out.now.2).mono ?_; rintro e w14 ⟨a6, k6, a7, k7, rfl, hM⟩; have HFc := Hold.mk (HFc.out.later hM); have HIF := Hold.mk (HIF.out.later hM); clear hM)
        | (go_at_call 13; refine (awake_any _ HFc.out.now.2.1.tab).mono ?_; rintro e w15 ⟨rfl, hM⟩; have HFc := Hold.mk (HFc.out.later hM); clear hM))
      go_ret
      exact ⟨rfl, HFc.out.now.2.2⟩
    · obtain ⟨m, hm⟩ : ∃ m, l.length = m + 1 := ⟨l.length - 1, by omega⟩
      have hld : l = l.take m ++ [l[m]'(by omega)] := by
        rw [← List.take_succ_eq_append_getElem (by omega), ← hm, List.take_length]
      obtain ⟨l', hl'⟩ : ∃ l', l.take m = l' := ⟨_, rfl⟩
      have hlen' : l'.length = m := by rw [← hl', List.length_take]; omega
      have hls : bestC d l' ≤ c ∧ ∃ e : List Row, rows = rowsR d 0 0 zeroR l' ++ e ∧ e.length ≤ 1 := by
        have := less_stint (d := d) (l := l') (s := l[m]'(by omega)) hd (by rw [← hl', ← hld]; exact hbr)
        rw [← hl', ← hld, hc, hrows] at this
        rw [← hl']; exact this
      have hs' : stintsB l' = true := by
        simp only [stintsB, Bool.and_eq_true, List.all_eq_true, decide_eq_true_eq] at hs ⊢
        exact ⟨by omega, fun x hx => hs.2 x (by rw [← hl'] at hx; exact List.mem_of_mem_take hx)⟩
      have hbr' : ∀ x ∈ l', failing d zeroR x = none := fun x hx => hbr x (by rw [← hl'] at hx; exact List.mem_of_mem_take hx)
      have hpl' := plan_ok hd hs' hbr'
      have hpr' := proof_ok hd hs' hbr'
      obtain ⟨c', hc'⟩ : ∃ c', bestC d l' = c' := ⟨_, rfl⟩
      obtain ⟨rows', hrows'⟩ : ∃ rows', rowsR d 0 0 zeroR l' = rows' := ⟨_, rfl⟩
      rw [hc'] at hpl' hls
      rw [hrows'] at hpr' hls
      obtain ⟨hcc, ex, hex, hexl⟩ := hls
      have hm6 : m ≤ 6 := by omega
      have HB25 : Hold (∀ W, InB B W (some ⟨ab, af, none⟩) d lo l → Calls Tryd.prog 25 #[dyV (some ⟨ab, af, none⟩) d.bl.length cap d, .slice lo m lcap] W fun e w' => (∃ x y z, e = .returned (.tuple #[x, y, z]) ∧ Kept w' (PlanP c' x y z)) ∧ Mod noB W w') := ⟨fun W h => by
        have hI' := h.take m
        rw [hl'] at hI'
        have := plan_any B (some ⟨ab, af, none⟩) cap d lo lcap l' W hI'
        rw [hlen', hpl'] at this
        exact this.mono fun e w' ⟨a1, k1, he, hi, _, _, hm⟩ => ⟨⟨_, _, _, he, fun _ _ => ⟨rfl, rfl⟩⟩, hm⟩⟩
      have HB20 : Hold (∀ W, InB B W (some ⟨ab, af, none⟩) d lo l → Calls Tryd.prog 20 #[dyV (some ⟨ab, af, none⟩) d.bl.length cap d, .slice lo m lcap] W fun e w' => (∃ x y z, e = .returned (.tuple #[x, y, z]) ∧ Kept w' (ProofP (rows'.map rowP) (rows'.map rowK) x y z)) ∧ Mod noB W w') := ⟨fun W h => by
        have hI' := h.take m
        rw [hl'] at hI'
        have := proof_any B (some ⟨ab, af, none⟩) cap d lo lcap l' W hI'
        rw [hlen', hpr'] at this
        exact this.mono fun e w' hh => by
          have hrl' : rows'.length ≤ l'.length := by rw [← hrows']; exact rowsR_len _ _ _ _ _
          obtain ⟨a1, k1, a2, k2, he, i1, i2, hm⟩ := proof_lists hh (by show (rows'.map rowP).length ≤ 100; rw [List.length_map]; omega) (by simp)
          exact ⟨⟨_, _, _, he, proofP_kept ⟨a1, k1, a2, k2, rfl, rfl, rfl, i1, i2⟩⟩, hm⟩⟩
      have hmI : (0 : Int) < (l.length : Int) := by omega
      have hLB := less_blade (w := u % d.bl.length) hd hs (Nat.mod_lt _ (by omega)) hbr
      rw [hc, hrows] at hLB
      have HLB := Hold.mk hLB
      clear hLB
      have HEX := Hold.mk hex
      have hrr : rows'.length ≤ rows.length ∧ rows.length ≤ rows'.length + 1 := by rw [hex, List.length_append]; omega
      have HHM := Hold.mk hm
      have HBR := Hold.mk hbr
      clear hI h1 h2 hp hpl hpl' hpr' hs' hbr' hld hl' hlen' hex hexl hrows hrows' hc hc' s1 s2 hm
      go_enter Tryd.func11, Tryd.ntmps11
      go_wp2_with (first
        | (refine wpList_load_row rfl 24 (.tmp 3) rfl w.heap.size rfl 24 _ (0, 0) _ HF.out.now.1 Tryd.underlying24 rfl info24 ?_)
        | (go_at_call 12; refine (H12.out _).mono ?_; rintro e w1 ⟨rfl, hM⟩; have HF := Hold.mk (HF.out.later hM); have hg := HF.out.now.1; have g0 := cellsAt hg 0; have g1 := cellsAt hg 1; have g2 := cellsAt hg 2; have g3 := cellsAt hg 3; clear hM hg)
        | (go_at_call 24; refine (H24.out _).mono ?_; rintro e w2 ⟨⟨b, rfl⟩, hM⟩; have HF := Hold.mk (HF.out.later hM); have hg := HF.out.now.1; have g0 := cellsAt hg 0; have g1 := cellsAt hg 1; have g2 := cellsAt hg 2; have g3 := cellsAt hg 3; clear hM hg; cases b)
        | (go_at_call 27; refine (H27.out _ HF.out.now.2.1).mono ?_; rintro e w3 ⟨rfl, hM⟩; have HF := Hold.mk (HF.out.later hM); clear hM)
        | (go_at_call 28; refine (H28.out _ HF.out.now.2.1).mono ?_; rintro e w4 ⟨rfl, hM⟩; have HF := Hold.mk (HF.out.later hM); clear hM)
        | (go_at_call 25; refine (H25.out _ HF.out.now.2.1).mono ?_; rintro e w5 ⟨a0, n0, k0, rfl, hM⟩; have HF := Hold.mk (HF.out.later hM); clear hM)
        | (go_at_call 20; refine (H20.out _ HF.out.now.2.1).mono ?_; rintro e w6 ⟨a1, k1, a2, k2, rfl, i1, i2, ⟨r1, r2⟩, ⟨r3, r4⟩, hM⟩; have HF := Hold.mk (HF.out.later hM); have HRS := Hold.mk (kept_spans i1); have HKS := Hold.mk (kept_ints i2); clear hM i1 i2)
        | (go_at_call 13; refine (awake_any _ HF.out.now.2.1.tab).mono ?_; rintro e w9 ⟨rfl, hM⟩; have HF := Hold.mk (HF.out.later hM); clear hM))
      all_goals first
        | (go_ret
           exact ⟨rfl, HF.out.now.2.2⟩)
        | skip
      obtain ⟨lb, lf, hlo⟩ : ∃ lb lf, lo = some ⟨lb, lf, none⟩ := by
        obtain ⟨b, off, e, _⟩ := HF.out.now.2.1.st.lies (fun e => by rw [e] at hz; simp at hz)
        exact ⟨b, off, e⟩
      refine region_cu (ao := some ⟨ab, af, none⟩) (cap := cap) (d := d) (lo := lo) (lb := lb) (lf := lf) (n := l.length) (lcap := lcap) (db := w.heap.size) (P := PlanP c') rfl rfl rfl hlo hz hlc hlm (by omega) HF.out.now.1 (fun W h => by rw [HHM.out]; exact HB25.out W (HF.out.later h).now.2.1) ?_
      intro vs w7 x y z e11 e12 e13 hK hM
      obtain ⟨rfl, rfl⟩ := hK.now
      have HF := Hold.mk (HF.out.later hM)
      have HRS := Hold.mk (HRS.out.later hM)
      have HKS := Hold.mk (HKS.out.later hM)
      clear hK hM g0 g1 g2 g3
      simp only [cuDs, List.foldl_cons, List.foldl_nil, Act.put, List.setIfInBounds_toArray, List.set_cons_succ, List.set_cons_zero, e12, e13]
      clear e11 e12 e13
      go_wp2
      refine region_cv (ao := some ⟨ab, af, none⟩) (cap := cap) (d := d) (lo := lo) (lb := lb) (lf := lf) (n := l.length) (lcap := lcap) (db := w.heap.size) (P := ProofP (rows'.map rowP) (rows'.map rowK)) rfl rfl rfl hlo hz hlc hlm (by omega) HF.out.now.1 (fun W h => by rw [HHM.out]; exact HB20.out W (HF.out.later h).now.2.1) ?_
      intro vs2 w8 x y z e11 e12 e13 hK hM
      obtain ⟨a3, k3, a4, k4, rfl, rfl, rfl, j1, j2⟩ := hK.now
      have HR2 := Hold.mk (kept_spans j1)
      have HK2 := Hold.mk (kept_ints j2)
      have HF := Hold.mk (HF.out.later hM)
      have HRS := Hold.mk (HRS.out.later hM)
      have HKS := Hold.mk (HKS.out.later hM)
      clear hK hM j1 j2
      simp only [cvDs, List.foldl_cons, List.foldl_nil, Act.put, List.setIfInBounds_toArray, List.set_cons_succ, List.set_cons_zero, e11, e12, e13, List.length_map]
      clear e11 e12 e13
      have hrI : (rows'.length : Int) ≤ (rows.length : Int) := by omega
      have hx1 : ¬ c < c' := by omega
      have hx2 : ¬ rows.length < rows'.length := by omega
      have hx3 : ¬ (rows'.length : Int) < (rows.length : Int) - 1 := by omega
      have hk1 : rows'.length ≤ k1 := by omega
      have hk2 : rows'.length ≤ k2 := by omega
      have HRT := Hold.mk (show Kept w8 (fun W => ListAt W.heap.size W 2 spC a1 (rows'.map rowP)) from fun W h => by
        have := (HRS.out W h).take rows'.length
        rwa [HEX.out, List.map_append, List.take_left' (by simp)] at this)
      have HKT := Hold.mk (show Kept w8 (fun W => IntsAt W a2 (rows'.map rowK)) from fun W h => by
        have := (HKS.out W h).take rows'.length
        rwa [HEX.out, List.map_append, List.take_left' (by simp)] at this)
      have HFD := Hold.mk (fun h2 => few_die (w := u % d.bl.length) hd (Nat.mod_lt _ (by omega)) h2)
      have HSS := Hold.mk hs
      clear hd hs
      have hwl : u % d.bl.length < d.bl.length := Nat.mod_lt _ (by omega)
      obtain ⟨wn, hwn⟩ : ∃ wn, u % d.bl.length = wn := ⟨_, rfl⟩
      have hrem : Int.tmod (u : Int) (d.bl.length : Int) = (wn : Int) := by rw [← hwn]; rfl
      rw [hwn] at HLB HFD hwl
      have hne0 : ((d.bl.length : Int) == 0) = false := beq_eq_false_iff_ne.2 (by omega)
      clear hwn
      by_cases hb2 : (d.bl.length : Int) < 2
      all_goals
        go_wp2_with (first
          | (refine wpList_load_row rfl 24 (.tmp 3) rfl w.heap.size rfl 24 _ (0, 0) _ HF.out.now.1 Tryd.underlying24 rfl info24 ?_)
          | (go_at_call 22; refine (callSpans (L := rows'.map rowP) (by rw [List.length_map]) (by rw [List.length_map]) HR2.out.now HRT.out.now).mono ?_; rintro e w9 ⟨rfl, hM⟩; have HF := Hold.mk (HF.out.later hM); have HK2 := Hold.mk (HK2.out.later hM); have HKT := Hold.mk (HKT.out.later hM); clear hM)
          | (go_at_call 23; refine (callInts (L := rows'.map rowK) (by rw [List.length_map]) (by rw [List.length_map]) HK2.out.now HKT.out.now).mono ?_; rintro e w10 ⟨rfl, hM⟩; have HF := Hold.mk (HF.out.later hM); have hg := HF.out.now.1; have g0 := cellsAt hg 0; have g1 := cellsAt hg 1; have g2 := cellsAt hg 2; have g3 := cellsAt hg 3; clear hM hg)
          | (go_at_call 13; refine (awake_any _ HF.out.now.2.1.tab).mono ?_; rintro e w11 ⟨rfl, hM⟩; have HF := Hold.mk (HF.out.later hM); clear hM))
      all_goals first
        | (go_ret
           exact ⟨rfl, HF.out.now.2.2⟩)
        | skip
      generalize hW1 : w10.alloc (Obj.cells #[Value.slice (some ⟨ab, af, none⟩) d.bl.length cap, Value.int IntKind.i64 d.bound, Value.int IntKind.i64 d.stop, Value.int IntKind.i64 d.bend] 24) = W1
      have HF1 : Hold (Kept W1 (Lawd w B (some ⟨ab, af, none⟩) cap d lo l)) := ⟨by rw [← hW1]; exact HF.out.later ((Mod.refl noB w10).alloc _)⟩
      have HN1 : Hold (W1.heap[w10.heap.size]? = some (.cells (dyC (some ⟨ab, af, none⟩) d.bl.length cap d) 24)) := ⟨by rw [← hW1]; exact World.alloc_heap_new _ _⟩
      have HM1 : Hold (Mod noB w10 W1) := ⟨by rw [← hW1]; exact (Mod.refl noB w10).alloc _⟩
      have hne : w10.heap.size ≠ w.heap.size := by have := at_ltS HF.out.now.1; omega
      have hle1 : B ≤ w10.heap.size := HF.out.now.2.1.le
      clear hW1
      refine region_few (ab := ab) (af := af) (cap := cap) (wn := wn) (db := w.heap.size) (fb := w10.heap.size) (B := B) (d := d) rfl rfl rfl rfl hwl l5 hbc hbm hne HF1.out.now.1 HN1.out HF1.out.now.2.1.bl HF1.out.now.2.1.le hle1 ?_
      intro vs3 w12 v hfb hown hM
      have HFc := Hold.mk (HF.out.later (HM1.out.then hM (fun i hi e => by omega)))
      obtain ⟨g, cp, hv, _⟩ := hown.2
      subst hv
      subst hlo
      have hIn : InB w12.heap.size w12 (some ⟨g, 0, none⟩) (fewD d wn) (some ⟨lb, lf, none⟩) l := ⟨own_blades hown rfl (by have := few_len hwl; omega), HFc.out.now.2.1.st.mono HFc.out.now.2.1.le, Nat.le_refl _, HFc.out.now.2.1.tab, Nat.lt_of_lt_of_le HFc.out.now.2.1.one HFc.out.now.2.1.le⟩
      have HIF : Hold (Kept w12 (fun W => W.heap[w10.heap.size]? = some (.cells (dyC (some ⟨g, 0, none⟩) (fewD d wn).bl.length cp (fewD d wn)) 24) ∧ InB w12.heap.size W (some ⟨g, 0, none⟩) (fewD d wn) (some ⟨lb, lf, none⟩) l)) := ⟨fun W h => ⟨h.at hfb id, hIn.mod h⟩⟩
      have hfd := HFD.out (by omega)
      obtain ⟨hb', hc2, hr2⟩ := HLB.out
      have hplf := plan_ok hfd HSS.out hb'
      have hprf := proof_ok hfd HSS.out hb'
      have hrl2 := rowsR_len (fewD d wn) l 0 0 zeroR
      clear hfb hown hM hIn hfd hb' HF HF1 HN1 HM1 HLB HFD
      obtain ⟨few, hfew⟩ : ∃ few, fewD d wn = few := ⟨_, rfl⟩
      rw [hfew] at HIF hc2 hr2 hplf hprf hrl2
      clear hfew
      obtain ⟨cf, hcf⟩ : ∃ cf, bestC few l = cf := ⟨_, rfl⟩
      obtain ⟨rf, hrf⟩ : ∃ rf, rowsR few 0 0 zeroR l = rf := ⟨_, rfl⟩
      rw [hcf] at hplf hc2
      rw [hrf] at hprf hr2 hrl2
      have hr3 : ¬ (rows.length : Int) < (rf.length : Int) := by omega
      have hc3 : ¬ c < cf := by omega
      have hrf7 : rf.length ≤ 7 := by omega
      have H25f : Hold (∀ W, InB w12.heap.size W (some ⟨g, 0, none⟩) few (some ⟨lb, lf, none⟩) l → Calls Tryd.prog 25 #[dyV (some ⟨g, 0, none⟩) few.bl.length cp few, .slice (some ⟨lb, lf, none⟩) l.length lcap] W fun e w' => ∃ a1 n1 k1, e = .returned (.tuple #[.slice a1 n1 k1, .int .i64 cf, .int .i64 0]) ∧ Mod noB W w') := ⟨fun W h => (plan_any w12.heap.size _ cp few (some ⟨lb, lf, none⟩) lcap l W h).mono fun e w' h => by
        rw [hplf] at h
        obtain ⟨a1, k1, he, hi, _, _, hm⟩ := h
        exact ⟨a1, _, k1, he, hm⟩⟩
      have H20f : Hold (∀ W, InB w12.heap.size W (some ⟨g, 0, none⟩) few (some ⟨lb, lf, none⟩) l → Calls Tryd.prog 20 #[dyV (some ⟨g, 0, none⟩) few.bl.length cp few, .slice (some ⟨lb, lf, none⟩) l.length lcap] W fun e w' => ∃ a1 k1 a2 k2, e = .returned (.tuple #[.slice a1 rf.length k1, .slice a2 rf.length k2, .int .i64 0]) ∧ Mod noB W w') := ⟨fun W h => (proof_any w12.heap.size _ cp few (some ⟨lb, lf, none⟩) lcap l W h).mono fun e w' h => by
        rw [hprf] at h
        obtain ⟨a1, k1, a2, k2, he, _, _, hm⟩ := proof_lists h (by show (rf.map rowP).length ≤ 100; rw [List.length_map]; omega) (by simp)
        simp only [List.length_map] at he
        exact ⟨a1, k1, a2, k2, he, hm⟩⟩
      clear hplf hprf hrl2 hcf hrf hr2 hc2 g0 g1 g2 g3
      simp only [fwDs, List.foldl_cons, List.foldl_nil, Act.put, List.setIfInBounds_toArray, List.set_cons_succ, List.set_cons_zero]
      clear HEX HRS HKS HR2 HK2 HRT HKT HHM HBR H25 H20 H22 HB25 HB20 H12 H24 H27 H28 HSS hx1 hx2 hx3 hk1 hk2 r1 r2 r3 r4 hrr hrI hcc hrl
      go_wp2_with (first
        | (refine wpList_load_row rfl 24 (.tmp 20) rfl w10.heap.size rfl 24 _ (0, 0) _ HIF.out.now.1 Tryd.underlying24 rfl info24 ?_)
        | (go_at_call 25; refine (H25f.out _ HIF.out.now.2).mono ?_; rintro e w13 ⟨a5, n5, k5, rfl, hM⟩; have HFc := Hold.mk (HFc.out.later hM); have HIF := Hold.mk (HIF.out.later hM); clear hM)
        | (go_at_call 20; refine (H20f.out _ HIF.out.now.2).mono ?_; rintro e w14 ⟨a6, k6, a7, k7, rfl, hM⟩; have HFc := Hold.mk (HFc.out.later hM); have HIF := Hold.mk (HIF.out.later hM); clear hM)
        | (go_at_call 13; refine (awake_any _ HFc.out.now.2.1.tab).mono ?_; rintro e w15 ⟨rfl, hM⟩; have HFc := Hold.mk (HFc.out.later hM); clear hM))
      go_ret
      exact ⟨rfl, HFc.out.now.2.2⟩
end Go.Proofs.YtdncppempgpooaaDoor

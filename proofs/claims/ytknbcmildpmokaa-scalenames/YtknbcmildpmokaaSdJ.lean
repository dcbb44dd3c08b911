/- alive: the region in which what was found is compared. (The operations, and a bullet for each: written by wip/tools.) -/
import Derived.Test.YtknbcmildpmokaaSdI
set_option linter.unusedSimpArgs false
set_option linter.unusedVariables false
namespace Go.Proofs.Ytknbcmildpmokaa
open Go.RowKit Go.Shelf

@[reducible] def av0 : Oper := { dst := some 67, op := Op.load 24 (Operand.tmp 1), type := 24, pos := "outright.go:38", after := #[], guard := none }
@[reducible] def av1 : Oper := { dst := some 68, op := Op.call { callee := Callee.value (Operand.func 31), args := #[Operand.const (Value.int IntKind.i64 109450), Operand.const (Value.int IntKind.i64 109739)], argTypes := #[3, 3] }, type := 24, pos := "outright.go:38", after := #[], guard := none }
@[reducible] def av2 : Oper := { dst := some 69, op := Op.binOp BinOp.neq 24 (Operand.tmp 67) (Operand.tmp 68) 24, type := 4, pos := "outright.go:38", after := #[{ on := 0, ground := Ground.data }, { on := 1, ground := Ground.data }], guard := none }
@[reducible] def av3 : Oper := { dst := some 70, op := Op.move (Operand.tmp 69), type := 4, pos := "outright.go:38", after := #[{ on := 2, ground := Ground.data }, { on := 1, ground := Ground.chain }], guard := none }
@[reducible] def av4 : Oper := { dst := some 71, op := Op.move (Operand.tmp 2), type := 33, pos := "outright.go:38", after := #[{ on := 3, ground := Ground.guard }], guard := some (3, false) }
@[reducible] def av5 : Oper := { dst := some 72, op := Op.binOp BinOp.neq 33 (Operand.tmp 71) (Operand.const (Value.int IntKind.i64 0)) 33, type := 4, pos := "outright.go:38", after := #[{ on := 4, ground := Ground.data }, { on := 3, ground := Ground.guard }], guard := some (3, false) }
@[reducible] def av6 : Oper := { dst := some 73, op := Op.pick (Operand.tmp 70) (Operand.const (Value.bool true)) (Operand.tmp 72), type := 4, pos := "outright.go:38", after := #[{ on := 3, ground := Ground.data }, { on := 5, ground := Ground.data }], guard := none }
@[reducible] def av7 : Oper := { dst := some 74, op := Op.move (Operand.tmp 73), type := 4, pos := "outright.go:38", after := #[{ on := 6, ground := Ground.data }, { on := 3, ground := Ground.chain }], guard := none }
@[reducible] def av8 : Oper := { dst := some 75, op := Op.move (Operand.tmp 3), type := 3, pos := "outright.go:38", after := #[{ on := 7, ground := Ground.guard }], guard := some (7, false) }
@[reducible] def av9 : Oper := { dst := some 76, op := Op.binOp BinOp.neq 3 (Operand.tmp 75) (Operand.const (Value.int IntKind.i64 1)) 3, type := 4, pos := "outright.go:38", after := #[{ on := 8, ground := Ground.data }, { on := 7, ground := Ground.guard }], guard := some (7, false) }
@[reducible] def av10 : Oper := { dst := some 77, op := Op.pick (Operand.tmp 74) (Operand.const (Value.bool true)) (Operand.tmp 76), type := 4, pos := "outright.go:38", after := #[{ on := 7, ground := Ground.data }, { on := 9, ground := Ground.data }], guard := none }
@[reducible] def av11 : Oper := { dst := some 78, op := Op.move (Operand.tmp 77), type := 4, pos := "outright.go:38", after := #[{ on := 10, ground := Ground.data }, { on := 7, ground := Ground.chain }], guard := none }
@[reducible] def av12 : Oper := { dst := some 79, op := Op.move (Operand.tmp 4), type := 33, pos := "outright.go:38", after := #[{ on := 11, ground := Ground.guard }], guard := some (11, false) }
@[reducible] def av13 : Oper := { dst := some 80, op := Op.binOp BinOp.neq 33 (Operand.tmp 79) (Operand.const (Value.int IntKind.i64 0)) 33, type := 4, pos := "outright.go:38", after := #[{ on := 12, ground := Ground.data }, { on := 11, ground := Ground.guard }], guard := some (11, false) }
@[reducible] def av14 : Oper := { dst := some 81, op := Op.pick (Operand.tmp 78) (Operand.const (Value.bool true)) (Operand.tmp 80), type := 4, pos := "outright.go:38", after := #[{ on := 11, ground := Ground.data }, { on := 13, ground := Ground.data }], guard := none }
@[reducible] def av15 : Oper := { dst := some 82, op := Op.move (Operand.tmp 81), type := 4, pos := "outright.go:38", after := #[{ on := 14, ground := Ground.data }, { on := 11, ground := Ground.chain }], guard := none }
@[reducible] def av16 : Oper := { dst := some 83, op := Op.move (Operand.tmp 5), type := 38, pos := "outright.go:38", after := #[{ on := 15, ground := Ground.guard }], guard := some (15, false) }
@[reducible] def av17 : Oper := { dst := some 84, op := Op.call { callee := Callee.value (Operand.func 31), args := #[Operand.const (Value.int IntKind.i64 (-1)), Operand.const (Value.int IntKind.i64 1)], argTypes := #[3, 3] }, type := 24, pos := "outright.go:38", after := #[{ on := 15, ground := Ground.chain }, { on := 15, ground := Ground.guard }], guard := some (15, false) }
@[reducible] def av18 : Oper := { dst := some 85, op := Op.call { callee := Callee.value (Operand.func 31), args := #[Operand.const (Value.int IntKind.i64 (-1)), Operand.const (Value.int IntKind.i64 1)], argTypes := #[3, 3] }, type := 24, pos := "outright.go:38", after := #[{ on := 17, ground := Ground.chain }, { on := 15, ground := Ground.guard }], guard := some (15, false) }
@[reducible] def av19 : Oper := { dst := some 86, op := Op.buildSlice 38 2 #[(0, Operand.tmp 84), (1, Operand.tmp 85)], type := 38, pos := "outright.go:38", after := #[{ on := 17, ground := Ground.data }, { on := 18, ground := Ground.data }, { on := 15, ground := Ground.guard }], guard := some (15, false) }
@[reducible] def av20 : Oper := { dst := some 87, op := Op.call { callee := Callee.value (Operand.func 20), args := #[Operand.tmp 83, Operand.tmp 86], argTypes := #[38, 38] }, type := 4, pos := "outright.go:38", after := #[{ on := 16, ground := Ground.data }, { on := 19, ground := Ground.data }, { on := 18, ground := Ground.chain }, { on := 15, ground := Ground.guard }], guard := some (15, false) }
@[reducible] def av21 : Oper := { dst := some 88, op := Op.unOp UnOp.not 4 (Operand.tmp 87), type := 4, pos := "outright.go:38", after := #[{ on := 20, ground := Ground.data }, { on := 15, ground := Ground.guard }], guard := some (15, false) }
@[reducible] def av22 : Oper := { dst := some 89, op := Op.pick (Operand.tmp 82) (Operand.const (Value.bool true)) (Operand.tmp 88), type := 4, pos := "outright.go:38", after := #[{ on := 15, ground := Ground.data }, { on := 21, ground := Ground.data }], guard := none }
@[reducible] def av23 : Oper := { dst := some 90, op := Op.move (Operand.tmp 89), type := 4, pos := "outright.go:38", after := #[{ on := 22, ground := Ground.data }, { on := 20, ground := Ground.chain }], guard := none }
@[reducible] def av24 : Oper := { dst := some 91, op := Op.move (Operand.tmp 6), type := 33, pos := "outright.go:38", after := #[{ on := 23, ground := Ground.guard }], guard := some (23, false) }
@[reducible] def av25 : Oper := { dst := some 92, op := Op.binOp BinOp.neq 33 (Operand.tmp 91) (Operand.const (Value.int IntKind.i64 0)) 33, type := 4, pos := "outright.go:38", after := #[{ on := 24, ground := Ground.data }, { on := 23, ground := Ground.guard }], guard := some (23, false) }
@[reducible] def av26 : Oper := { dst := some 93, op := Op.pick (Operand.tmp 90) (Operand.const (Value.bool true)) (Operand.tmp 92), type := 4, pos := "outright.go:38", after := #[{ on := 23, ground := Ground.data }, { on := 25, ground := Ground.data }], guard := none }
@[reducible] def avOps : List Oper := av0 :: av1 :: av2 :: av3 :: av4 :: av5 :: av6 :: av7 :: av8 :: av9 :: av10 :: av11 :: av12 :: av13 :: av14 :: av15 :: av16 :: av17 :: av18 :: av19 :: av20 :: av21 :: av22 :: av23 :: av24 :: av25 :: av26 :: []
@[reducible] def avDs : List (Nat × Nat) := (0, 67) :: (1, 68) :: (2, 69) :: (3, 70) :: (4, 71) :: (5, 72) :: (6, 73) :: (7, 74) :: (8, 75) :: (9, 76) :: (10, 77) :: (11, 78) :: (12, 79) :: (13, 80) :: (14, 81) :: (15, 82) :: (16, 83) :: (17, 84) :: (18, 85) :: (19, 86) :: (20, 87) :: (21, 88) :: (22, 89) :: (23, 90) :: (24, 91) :: (25, 92) :: (26, 93) :: []
@[reducible] def avY (a5 : Option Addr) (k5 : Nat) : List Yld := .val (Value.agg #[Value.int IntKind.i64 109450, Value.int IntKind.i64 109739]) :: .val (Value.agg #[Value.int IntKind.i64 109450, Value.int IntKind.i64 109739]) :: .val (Value.bool false) :: .val (Value.bool false) :: .val (Value.int IntKind.i64 0) :: .val (Value.bool false) :: .val (Value.bool false) :: .val (Value.bool false) :: .val (Value.int IntKind.i64 1) :: .val (Value.bool false) :: .val (Value.bool false) :: .val (Value.bool false) :: .val (Value.int IntKind.i64 0) :: .val (Value.bool false) :: .val (Value.bool false) :: .val (Value.bool false) :: .val (Value.slice a5 2 k5) :: .val (Value.agg #[Value.int IntKind.i64 (-1), Value.int IntKind.i64 1]) :: .val (Value.agg #[Value.int IntKind.i64 (-1), Value.int IntKind.i64 1]) :: .blk 2 #[Value.int IntKind.i64 (-1), Value.int IntKind.i64 1, Value.int IntKind.i64 (-1), Value.int IntKind.i64 1] 24 :: .val (Value.bool true) :: .val (Value.bool false) :: .val (Value.bool false) :: .val (Value.bool false) :: .val (Value.int IntKind.i64 0) :: .val (Value.bool false) :: .val (Value.bool false) :: []
theorem avLow : lowB avOps = true := by kernel_rfl
theorem avOk : slotsB avOps avDs 121 = true := by decide +kernel
theorem avGu (a5 k5) : guardsB avOps (avY a5 k5) = true := by kernel_rfl
theorem enter31 : ∀ args w, (callFunc 31 args).run Try.prog w = .ok (.enter 31 args) w := enters_of Try.func31 (by kernel_rfl) rfl
theorem enter20 : ∀ args w, (callFunc 20 args).run Try.prog w = .ok (.enter 20 args) w := enters_of Try.func20 (by kernel_rfl) rfl
theorem callSpans {ao bo : Option Addr} {L : List (Int × Int)} {n m c d : Nat} (hn : n = L.length) (hm : m = L.length) {w : World} (ha : ListAt w.heap.size w 2 spC ao L) (hb : ListAt w.heap.size w 2 spC bo L) : Calls Try.prog 20 #[.slice ao n c, .slice bo m d] w fun e w' => e = .returned (.bool true) ∧ Mod noB w w' := by
  subst hn; subst hm
  exact (spans_any ao bo L L c d w ha hb).mono fun e w' hh => by simpa using hh
theorem spans_lit2 {w : World} {b : Nat} (h : w.heap[b]? = some (.cells #[.int .i64 (-1), .int .i64 1, .int .i64 (-1), .int .i64 1] 24)) : ListAt w.heap.size w 2 spC (some ⟨b, 0, none⟩) [(-1, 1), (-1, 1)] :=
  ⟨fun _ => ⟨b, 0, rfl, at_ltS h, fun k x hx j hj => by
    rw [cellsAt h]
    rcases (by have := (List.getElem?_eq_some_iff.1 hx).1; simp at this; omega : k = 0 ∨ k = 1) with rfl | rfl
    all_goals
      simp only [List.getElem?_cons_zero, List.getElem?_cons_succ, Option.some.injEq] at hx
      subst hx
      rcases (by omega : j = 0 ∨ j = 1) with rfl | rfl <;> rfl⟩, by decide⟩
section
variable {o : Oper} {a : Act} {w : World} {x y z : Operand}
theorem run_load24 (hop : o.op = .load 24 x) {b : Nat} (hx : a.eval x = .pointer (some ⟨b, 0, none⟩)) {s : Int × Int} (hb : w.heap[b]? = some (.cells (spC s) 24)) : (execOp a.eval o).run Try.prog w = .ok (.value (spV s)) w := by
  have h0 := cellsAt hb 0
  have h1 := cellsAt hb 1
  simp only [execOp, hop, hx]
  go_simp
  done
theorem run_neq3 (hop : o.op = .binOp .neq 3 x y 3) {A : Int} (hx : a.eval x = .int .i64 A) (hy : a.eval y = .int .i64 A) : (execOp a.eval o).run Try.prog w = .ok (.value (.bool false)) w := by
  simp only [execOp, hop, hx, hy]
  go_simp
  done
theorem run_neq33 (hop : o.op = .binOp .neq 33 x y 33) {A : Int} (hx : a.eval x = .int .i64 A) (hy : a.eval y = .int .i64 A) : (execOp a.eval o).run Try.prog w = .ok (.value (.bool false)) w := by
  simp only [execOp, hop, hx, hy]
  go_simp
  done
theorem run_neq24 (hop : o.op = .binOp .neq 24 x y 24) {A B : Int} (hx : a.eval x = .agg #[.int .i64 A, .int .i64 B]) (hy : a.eval y = .agg #[.int .i64 A, .int .i64 B]) : (execOp a.eval o).run Try.prog w = .ok (.value (.bool false)) w := by
  simp only [execOp, hop, hx, hy]
  go_simp
  done
theorem run_pickX (hop : o.op = .pick x y z) {v : Value} (hx : a.eval x = .bool false) (hz : a.eval z = v) : (execOp a.eval o).run Try.prog w = .ok (.value v) w := by
  simp only [execOp, hop, hx, hz]
  rfl
theorem run_not (hop : o.op = .unOp .not 4 x) (hx : a.eval x = .bool true) : (execOp a.eval o).run Try.prog w = .ok (.value (.bool false)) w := by
  simp only [execOp, hop, hx]
  go_simp
  done
end
/-- A drawn region whose operations all yield what is known: the frame behind it is written out. -/
theorem region_awakeF {rid n : Nat} {Q : Exit → Act → World → Prop} {a0 : Act} {w : World} {l : List Oper} (hlow : lowB l = true) (ds : List (Nat × Nat)) (hsz : a0.tmps.size = n) (hok : slotsB l ds n = true) (Y : List Yld) (hY : guardsB l Y = true)
    (hs : ∀ i o (ρ : Act) w', i < l.length → l[i]? = some o → Mod noB w w' → (∀ j s y, waitsB o j = true → (j, s) ∈ ds → Y[j]? = some y → y.Is (ρ.eval (.tmp s)) w') → (∀ s, s ∉ ds.map Prod.snd → ρ.eval (.tmp s) = a0.eval (.tmp s)) →
      wpList Try.prog l.toArray (only fun a' w2 => ∃ v, a' = ρ.put o.dst v ∧ Mod noB w' w2 ∧ ∃ y, Y[i]? = some y ∧ y.Is v w2) [{ o with guard := none }] ρ w')
    (hend : ∀ (vs : Nat → Value) w', (∀ j s y, (j, s) ∈ ds → Y[j]? = some y → y.Is (vs j) w') → Mod noB w w' → Q .normal (ds.foldl (fun a x => a.put (some x.2) (vs x.1)) a0) w') : (Code.region rid l.toArray true).wp Try.prog Q a0 w := by
  simp only [slotsB, Bool.and_eq_true, decide_eq_true_eq, List.all_eq_true, List.mem_range] at hok
  obtain ⟨⟨⟨n1, n2⟩, n3⟩, n4⟩ := hok
  have hin : ∀ i o s, l[i]? = some o → o.dst = some s → (i, s) ∈ ds := fun i o s ho hd => by
    have := n4 i (List.getElem?_eq_some_iff.1 ho).1
    simpa [ho, hd] using this
  refine region_predW hlow ds (fun j v w => ∃ y, Y[j]? = some y ∧ y.Is v w) (fun _ w' => Mod noB w w') (fun w1 w2 => Mod noB w1 w2) (fun j v w1 w2 ⟨y, h1, h2⟩ hm => ⟨y, h1, h2.mod hm⟩) n1 n2 (fun x hx => by rw [hsz]; exact (n3 x hx).1) hin (fun i o ho hd => ?_) (fun x hx => (n3 x hx).2) (Mod.refl noB w).drew ?_ ?_
  · have := n4 i (List.getElem?_eq_some_iff.1 ho).1
    simpa [ho, hd] using this
  · intro D i o ρ w' hcl ho hD hdep hP hA hM
    have kn : ∀ j s y, waitsB o j = true → (j, s) ∈ ds → Y[j]? = some y → y.Is (ρ.eval (.tmp s)) w' := fun j s y hw hm hy => by
      obtain ⟨e, he, hb, hj⟩ : ∃ e ∈ o.after, Region.binds .any e = true ∧ e.on = j := by
        obtain ⟨k, hk, hh⟩ := Array.any_eq_true.1 hw
        simp only [Bool.and_eq_true, beq_iff_eq] at hh
        exact ⟨_, Array.getElem_mem hk, hh.1, hh.2⟩
      obtain ⟨y', h1, h2⟩ := hP j s hm (hj ▸ hdep e he hb)
      rw [hy] at h1
      obtain rfl := Option.some.inj h1
      exact h2
    have hst := hs i o ρ w' (List.getElem?_eq_some_iff.1 ho).1 ho hM kn (fun s hns => hA s fun x hx e => absurd (e ▸ List.mem_map.2 ⟨x, hx, rfl⟩ : s ∈ ds.map Prod.snd) hns)
    have hwant : Region.wanted o (yielded l.toArray ρ.tmps) = true := by
      have hg := List.all_eq_true.1 hY o (List.mem_of_getElem? ho)
      unfold Region.wanted
      cases hgu : o.guard with
      | none => rfl
      | some jw =>
        obtain ⟨j, want⟩ := jw
        simp only [hgu, Bool.and_eq_true] at hg
        obtain ⟨⟨g1, g2⟩, g3⟩ := hg
        cases hoj : l[j]? with
        | none => simp [hoj] at g2
        | some oj =>
          simp only [hoj] at g2
          obtain ⟨s, hds⟩ := Option.isSome_iff_exists.1 g2
          cases hyj : Y[j]? with
          | none => simp [hyj, Yld.isBool] at g3
          | some y =>
            rw [hyj] at g3
            unfold Yld.isBool at g3
            split at g3
            · rename_i _ c heq
              obtain rfl := Option.some.inj heq
              have hv := kn j s _ g1 (hin j oj s hoj hds) hyj
              have hc : c = want := by simpa using g3
              subst hc
              have := eval_bool_at hv
              simp only [yielded, List.getElem?_toArray, hoj, Option.bind_some, hds, this]
              simp
            · cases g3
    refine wpList_strike hwant (wpList_mono1W ?_ hst)
    rintro a' w2 ⟨v, rfl, hm, y, hy, hv⟩
    exact ⟨⟨v, rfl, fun _ => ⟨y, hy, hv⟩⟩, hm, hM.trans hm⟩
  · intro vs D w' hall hP hM
    exact hend vs w' (fun j s y hm hy => by
      obtain ⟨y', h1, h2⟩ := hP _ hm
      rw [hy] at h1
      obtain rfl := Option.some.inj h1
      exact h2) hM

set_option maxRecDepth 100000 in
set_option maxHeartbeats 8000000 in
theorem alive_region {rid : Nat} {Q : Exit → Act → World → Prop} {a0 : Act} {w : World} {b1 : Nat} {a5 : Option Addr} {k5 : Nat} (hsz : a0.tmps.size = 121) (x1 : a0.eval (.tmp 1) = .pointer (some ⟨b1, 0, none⟩)) (x2 : a0.eval (.tmp 2) = Value.int IntKind.i64 0) (x3 : a0.eval (.tmp 3) = Value.int IntKind.i64 1) (x4 : a0.eval (.tmp 4) = Value.int IntKind.i64 0) (x5 : a0.eval (.tmp 5) = Value.slice a5 2 k5) (x6 : a0.eval (.tmp 6) = Value.int IntKind.i64 0)
    (h1 : Kept w fun W => W.heap[b1]? = some (.cells (spC (109450, 109739)) 24)) (h5 : Kept w fun W => ListAt W.heap.size W 2 spC a5 [(-1, 1), (-1, 1)])
    (hend : ∀ (vs : Nat → Value) w', vs 26 = .bool false → Mod noB w w' → Q .normal (avDs.foldl (fun a x => a.put (some x.2) (vs x.1)) a0) w') : (Code.region rid avOps.toArray true).wp Try.prog Q a0 w := by
  refine region_awakeF avLow avDs hsz avOk (avY a5 k5) (avGu _ _) ?_ (fun vs w' h hm => hend vs w' (h 26 93 (.val (.bool false)) (by decide +kernel) rfl) hm)
  intro i o ρ w' hi ho hM kn far
  have hlt : i < 27 := hi
  rcases (by omega : i = 0 ∨ i = 1 ∨ i = 2 ∨ i = 3 ∨ i = 4 ∨ i = 5 ∨ i = 6 ∨ i = 7 ∨ i = 8 ∨ i = 9 ∨ i = 10 ∨ i = 11 ∨ i = 12 ∨ i = 13 ∨ i = 14 ∨ i = 15 ∨ i = 16 ∨ i = 17 ∨ i = 18 ∨ i = 19 ∨ i = 20 ∨ i = 21 ∨ i = 22 ∨ i = 23 ∨ i = 24 ∨ i = 25 ∨ i = 26) with rfl | rfl | rfl | rfl | rfl | rfl | rfl | rfl | rfl | rfl | rfl | rfl | rfl | rfl | rfl | rfl | rfl | rfl | rfl | rfl | rfl | rfl | rfl | rfl | rfl | rfl | rfl
  all_goals (obtain rfl := Option.some.inj ho)
  · refine step_run rfl _ _ (run_load24 rfl ((far 1 (by decide +kernel)).trans x1) (h1 _ hM)) ⟨_, rfl, Mod.refl _ _, _, rfl, rfl⟩
  · refine step_call rfl 31 _ _ rfl enter31 ?_; simp only [List.map_toArray, List.map_cons, List.map_nil]; refine (span_any (109450) (109739) w').mono ?_; rintro e w2 ⟨h1, h2⟩; exact ⟨_, h1, _, rfl, h2, _, rfl, rfl⟩
  · refine step_run rfl (.bool false) _ (run_neq24 rfl (kn 0 67 (.val (Value.agg #[Value.int IntKind.i64 109450, Value.int IntKind.i64 109739])) (by decide +kernel) (by decide +kernel) rfl) (kn 1 68 (.val (Value.agg #[Value.int IntKind.i64 109450, Value.int IntKind.i64 109739])) (by decide +kernel) (by decide +kernel) rfl)) ⟨_, rfl, Mod.refl _ _, _, rfl, rfl⟩
  · refine step_run rfl _ _ (run_move rfl (kn 2 69 (.val (Value.bool false)) (by decide +kernel) (by decide +kernel) rfl)) ⟨_, rfl, Mod.refl _ _, _, rfl, rfl⟩
  · refine step_run rfl _ _ (run_move rfl ((far 2 (by decide +kernel)).trans x2)) ⟨_, rfl, Mod.refl _ _, _, rfl, rfl⟩
  · refine step_run rfl (.bool false) _ (run_neq33 rfl (kn 4 71 (.val (Value.int IntKind.i64 0)) (by decide +kernel) (by decide +kernel) rfl) rfl) ⟨_, rfl, Mod.refl _ _, _, rfl, rfl⟩
  · refine step_run rfl _ _ (run_pickX rfl (kn 3 70 (.val (Value.bool false)) (by decide +kernel) (by decide +kernel) rfl) (kn 5 72 (.val (Value.bool false)) (by decide +kernel) (by decide +kernel) rfl)) ⟨_, rfl, Mod.refl _ _, _, rfl, rfl⟩
  · refine step_run rfl _ _ (run_move rfl (kn 6 73 (.val (Value.bool false)) (by decide +kernel) (by decide +kernel) rfl)) ⟨_, rfl, Mod.refl _ _, _, rfl, rfl⟩
  · refine step_run rfl _ _ (run_move rfl ((far 3 (by decide +kernel)).trans x3)) ⟨_, rfl, Mod.refl _ _, _, rfl, rfl⟩
  · refine step_run rfl (.bool false) _ (run_neq3 rfl (kn 8 75 (.val (Value.int IntKind.i64 1)) (by decide +kernel) (by decide +kernel) rfl) rfl) ⟨_, rfl, Mod.refl _ _, _, rfl, rfl⟩
  · refine step_run rfl _ _ (run_pickX rfl (kn 7 74 (.val (Value.bool false)) (by decide +kernel) (by decide +kernel) rfl) (kn 9 76 (.val (Value.bool false)) (by decide +kernel) (by decide +kernel) rfl)) ⟨_, rfl, Mod.refl _ _, _, rfl, rfl⟩
  · refine step_run rfl _ _ (run_move rfl (kn 10 77 (.val (Value.bool false)) (by decide +kernel) (by decide +kernel) rfl)) ⟨_, rfl, Mod.refl _ _, _, rfl, rfl⟩
  · refine step_run rfl _ _ (run_move rfl ((far 4 (by decide +kernel)).trans x4)) ⟨_, rfl, Mod.refl _ _, _, rfl, rfl⟩
  · refine step_run rfl (.bool false) _ (run_neq33 rfl (kn 12 79 (.val (Value.int IntKind.i64 0)) (by decide +kernel) (by decide +kernel) rfl) rfl) ⟨_, rfl, Mod.refl _ _, _, rfl, rfl⟩
  · refine step_run rfl _ _ (run_pickX rfl (kn 11 78 (.val (Value.bool false)) (by decide +kernel) (by decide +kernel) rfl) (kn 13 80 (.val (Value.bool false)) (by decide +kernel) (by decide +kernel) rfl)) ⟨_, rfl, Mod.refl _ _, _, rfl, rfl⟩
  · refine step_run rfl _ _ (run_move rfl (kn 14 81 (.val (Value.bool false)) (by decide +kernel) (by decide +kernel) rfl)) ⟨_, rfl, Mod.refl _ _, _, rfl, rfl⟩
  · refine step_run rfl _ _ (run_move rfl ((far 5 (by decide +kernel)).trans x5)) ⟨_, rfl, Mod.refl _ _, _, rfl, rfl⟩
  · refine step_call rfl 31 _ _ rfl enter31 ?_; simp only [List.map_toArray, List.map_cons, List.map_nil]; refine (span_any (-1) (1) w').mono ?_; rintro e w2 ⟨h1, h2⟩; exact ⟨_, h1, _, rfl, h2, _, rfl, rfl⟩
  · refine step_call rfl 31 _ _ rfl enter31 ?_; simp only [List.map_toArray, List.map_cons, List.map_nil]; refine (span_any (-1) (1) w').mono ?_; rintro e w2 ⟨h1, h2⟩; exact ⟨_, h1, _, rfl, h2, _, rfl, rfl⟩
  · have e0 : ρ.eval (.tmp 84) = Value.agg #[Value.int IntKind.i64 (-1), Value.int IntKind.i64 1] := (kn 17 84 (.val (Value.agg #[Value.int IntKind.i64 (-1), Value.int IntKind.i64 1])) (by decide +kernel) (by decide +kernel) rfl); have e1 : ρ.eval (.tmp 85) = Value.agg #[Value.int IntKind.i64 (-1), Value.int IntKind.i64 1] := (kn 18 85 (.val (Value.agg #[Value.int IntKind.i64 (-1), Value.int IntKind.i64 1])) (by decide +kernel) (by decide +kernel) rfl); have q0 : ρ.tmps[84]?.getD undef = Value.agg #[Value.int IntKind.i64 (-1), Value.int IntKind.i64 1] := by simpa [Act.eval] using e0
    have q1 : ρ.tmps[85]?.getD undef = Value.agg #[Value.int IntKind.i64 (-1), Value.int IntKind.i64 1] := by simpa [Act.eval] using e1
    exact step_run rfl (.slice (some ⟨w'.heap.size, 0, none⟩) 2 2) (w'.alloc (.cells #[Value.int IntKind.i64 (-1), Value.int IntKind.i64 1, Value.int IntKind.i64 (-1), Value.int IntKind.i64 1] 24)) (by simp only [execOp]; go_simp) ⟨_, rfl, (Mod.refl _ _).alloc _, _, rfl, _, rfl, World.alloc_heap_new _ _⟩
  · have e0 : ρ.eval (.tmp 83) = Value.slice a5 2 k5 := (kn 16 83 (.val (Value.slice a5 2 k5)) (by decide +kernel) (by decide +kernel) rfl); obtain ⟨b, e1, hb⟩ := (kn 19 86 (.blk 2 #[Value.int IntKind.i64 (-1), Value.int IntKind.i64 1, Value.int IntKind.i64 (-1), Value.int IntKind.i64 1] 24) (by decide +kernel) (by decide +kernel) rfl); refine step_call rfl 20 _ _ rfl enter20 ?_; simp only [List.map_toArray, List.map_cons, List.map_nil, e0, e1]; refine (callSpans (L := [(-1, 1), (-1, 1)]) (n := 2) (m := 2) rfl rfl (h5 _ hM) (spans_lit2 hb)).mono ?_; rintro e w2 ⟨h1, h2⟩; exact ⟨_, h1, _, rfl, h2, _, rfl, rfl⟩
  · refine step_run rfl (.bool false) _ (run_not rfl (kn 20 87 (.val (Value.bool true)) (by decide +kernel) (by decide +kernel) rfl)) ⟨_, rfl, Mod.refl _ _, _, rfl, rfl⟩
  · refine step_run rfl _ _ (run_pickX rfl (kn 15 82 (.val (Value.bool false)) (by decide +kernel) (by decide +kernel) rfl) (kn 21 88 (.val (Value.bool false)) (by decide +kernel) (by decide +kernel) rfl)) ⟨_, rfl, Mod.refl _ _, _, rfl, rfl⟩
  · refine step_run rfl _ _ (run_move rfl (kn 22 89 (.val (Value.bool false)) (by decide +kernel) (by decide +kernel) rfl)) ⟨_, rfl, Mod.refl _ _, _, rfl, rfl⟩
  · refine step_run rfl _ _ (run_move rfl ((far 6 (by decide +kernel)).trans x6)) ⟨_, rfl, Mod.refl _ _, _, rfl, rfl⟩
  · refine step_run rfl (.bool false) _ (run_neq33 rfl (kn 24 91 (.val (Value.int IntKind.i64 0)) (by decide +kernel) (by decide +kernel) rfl) rfl) ⟨_, rfl, Mod.refl _ _, _, rfl, rfl⟩
  · refine step_run rfl _ _ (run_pickX rfl (kn 23 90 (.val (Value.bool false)) (by decide +kernel) (by decide +kernel) rfl) (kn 25 92 (.val (Value.bool false)) (by decide +kernel) (by decide +kernel) rfl)) ⟨_, rfl, Mod.refl _ _, _, rfl, rfl⟩

end Go.Proofs.Ytknbcmildpmokaa

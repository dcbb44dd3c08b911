/- mount: the statement that appends what a blade's functions are. -/
import Derived.Test.YtdncppempgpooaaDoorRxB
import Derived.Test.YtdncppempgpooaaDoorGev
import Derived.Maps.AppendAt
set_option linter.unusedSimpArgs false
set_option linter.unusedVariables false
namespace Go.Proofs.YtdncppempgpooaaDoor
open Go.RowKit Go.Shelf

@[reducible] def m0 : Oper := { dst := some 26, op := Op.fieldAddr 87 (Operand.tmp 6) 1, type := 0, pos := "press.go:30", after := #[], guard := none }
@[reducible] def m1 : Oper := { dst := some 27, op := Op.load 83 (Operand.tmp 26), type := 83, pos := "press.go:30", after := #[{ on := 0, ground := Ground.data }], guard := none }
@[reducible] def m2 : Oper := { dst := some 28, op := Op.load 53 (Operand.tmp 8), type := 53, pos := "press.go:30", after := #[], guard := none }
@[reducible] def m3 : Oper := { dst := some 29, op := Op.call { callee := Callee.value (Operand.func 42), args := #[Operand.tmp 28], argTypes := #[53] }, type := 78, pos := "press.go:30", after := #[{ on := 2, ground := Ground.data }], guard := none }
@[reducible] def m4 : Oper := { dst := some 30, op := Op.buildSlice 83 1 #[(0, Operand.tmp 29)], type := 83, pos := "press.go:30", after := #[{ on := 3, ground := Ground.data }], guard := none }
@[reducible] def m5 : Oper := { dst := some 31, op := Op.call { callee := Callee.builtin Builtin.append, args := #[Operand.tmp 27, Operand.tmp 30], argTypes := #[83, 83] }, type := 83, pos := "press.go:30", after := #[{ on := 1, ground := Ground.data }, { on := 4, ground := Ground.data }, { on := 3, ground := Ground.chain }], guard := none }
@[reducible] def m6 : Oper := { dst := some 32, op := Op.fieldAddr 87 (Operand.tmp 6) 1, type := 0, pos := "press.go:30", after := #[{ on := 0, ground := Ground.phase }, { on := 1, ground := Ground.phase }, { on := 2, ground := Ground.phase }, { on := 3, ground := Ground.phase }, { on := 4, ground := Ground.phase }, { on := 5, ground := Ground.phase }], guard := none }
@[reducible] def m7 : Oper := { dst := none, op := Op.store 83 (Operand.tmp 32) (Operand.tmp 31), type := 0, pos := "press.go:30", after := #[{ on := 6, ground := Ground.data }, { on := 5, ground := Ground.data }, { on := 5, ground := Ground.chain }, { on := 0, ground := Ground.phase }, { on := 1, ground := Ground.phase }, { on := 2, ground := Ground.phase }, { on := 3, ground := Ground.phase }, { on := 4, ground := Ground.phase }, { on := 5, ground := Ground.phase }], guard := none }
@[reducible] def opsM : List Oper := [m0, m1, m2, m3, m4, m5, m6, m7]
@[reducible] def dsM : List (Nat × Nat) := [(0, 26), (1, 27), (2, 28), (3, 29), (4, 30), (5, 31), (6, 32)]

/-- The die on the press, with some slice for its functions. -/
@[reducible] def mtD (ao : Option Addr) (n cap : Nat) (d : Dye) (v : Value) : Array Value :=
  #[.slice ao n cap, .int .i64 d.bound, .int .i64 d.stop, .int .i64 d.bend, v, .int .i64 0, .int .i64 0, .int .i64 0, .int .i64 0, .int .i64 0]

theorem own2_same {base n : Nat} {w w' : World} {v : Value} {xs : List Value} (h : w.ownsRow base 78 2 v n xs) (hs : ∀ r, v.ownBlock = some r → w'.heap[r]? = w.heap[r]?) : w'.ownsRow base 78 2 v n xs := by
  obtain ⟨h1, h2 | ⟨g, cap, cur, hv, hb, hh, hr⟩⟩ := h
  · exact ⟨h1, .inl h2⟩
  · exact ⟨h1, .inr ⟨g, cap, cur, hv, hb, (hs g (by rw [hv]; rfl)).trans hh, hr⟩⟩
theorem own2_block {base n : Nat} {w : World} {v : Value} {xs : List Value} (h : w.ownsRow base 78 2 v n xs) {r : Nat} (hr : v.ownBlock = some r) : base ≤ r ∧ ∃ cur, w.heap[r]? = some (.cells cur 78) := by
  obtain ⟨_, ⟨rfl, _⟩ | ⟨g, cap, cur, rfl, hb, hh, _⟩⟩ := h
  · cases hr
  · have : some g = some r := hr
    cases this
    exact ⟨hb, cur, hh⟩

section
variable {o : Oper} {a : Act} {w : World} {x y z : Operand}
theorem run_offAddr (hop : o.op = .fieldAddr 87 x 1) {b : Nat} (hx : a.eval x = .pointer (some ⟨b, 0, none⟩)) : (execOp a.eval o).run Tryd.prog w = .ok (.value (.pointer (some ⟨b, 4, none⟩))) w := by
  simp only [execOp, hop, hx]
  go_simp
  done
theorem run_load83 (hop : o.op = .load 83 x) {b k : Nat} (hx : a.eval x = .pointer (some ⟨b, k, none⟩)) {v : Value} (hc : w.cell? ⟨b, k, none⟩ = some v) : (execOp a.eval o).run Tryd.prog w = .ok (.value v) w := by
  simp only [execOp, hop, hx]
  go_simp
  done
theorem run_load53 (hop : o.op = .load 53 x) {k : Nat} {b : Bld} (hx : a.eval x = .pointer (some ⟨k, 0, none⟩)) (hc : w.heap[k]? = some (.cells (blC b) 53)) : (execOp a.eval o).run Tryd.prog w = .ok (.value (blV b)) w := by
  have c0 := cellsAt hc 0; have c1 := cellsAt hc 1; have c2 := cellsAt hc 2; have c3 := cellsAt hc 3
  simp only [execOp, hop, hx]
  go_simp
  done
theorem run_build83 (hop : o.op = .buildSlice 83 1 #[(0, x)]) {p : Nat × Nat × Nat × Nat} (hx : a.eval x = offV p) : (execOp a.eval o).run Tryd.prog w = .ok (.value (.slice (some ⟨w.heap.size, 0, none⟩) 1 1)) (w.alloc (.cells (offC p) 78)) := by
  simp only [execOp, hop, List.map_toArray, List.map_cons, List.map_nil, hx]
  go_simp
  done
theorem run_store83 (hop : o.op = .store 83 x y) {b : Nat} {cs : Array Value} {t : TypeId} {ao : Option Addr} {n cap : Nat} (hx : a.eval x = .pointer (some ⟨b, 4, none⟩)) (hy : a.eval y = .slice ao n cap) (hc : w.heap[b]? = some (.cells cs t)) (hs : cs.size = 10) :
    (execOp a.eval o).run Tryd.prog w = .ok .skip (w.setCell ⟨b, 4, none⟩ (.slice ao n cap)) := by
  have f := cells_frozen hc 4
  obtain ⟨v, hv⟩ : ∃ v, w.cell? ⟨b, 4, none⟩ = some v := by rw [cellsAt hc]; exact ⟨_, Array.getElem?_eq_getElem (by omega)⟩
  simp only [execOp, hop, hx, hy]
  go_simp
  done
end

/-- What the statement leaves. -/
def MRes (ao : Option Addr) (n cap : Nat) (d : Dye) (base k : Nat) (v : Value) (xs : List Value) (b : Bld) (mb : Nat) (w w' : World) (v5 : Value) : Prop :=
  ∃ p, OffIs w'.heap.size w' p b ∧ w'.ownsRow base 78 2 v5 (k + 1) (xs ++ (offC p).toList) ∧ w'.heap[mb]? = some (.cells (mtD ao n cap d v5) 87) ∧ Mod (fun j => v.ownBlock = some j ∨ j = mb) w w'

def MBefore (b : Bld) (D : Nat → Bool) (vs : Nat → Value) (w w' : World) : Prop :=
  Mod noB w w' ∧ (D 3 = true → ∃ p, vs 3 = offV p ∧ OffIs w'.heap.size w' p b ∧ (D 4 = true → ∃ g, vs 4 = .slice (some ⟨g, 0, none⟩) 1 1 ∧ w'.heap[g]? = some (.cells (offC p) 78)))
def MAfter (ao : Option Addr) (n cap : Nat) (d : Dye) (base k : Nat) (v : Value) (xs : List Value) (b : Bld) (mb : Nat) (D : Nat → Bool) (vs : Nat → Value) (w w' : World) : Prop :=
  (∃ p, OffIs w'.heap.size w' p b ∧ w'.ownsRow base 78 2 (vs 5) (k + 1) (xs ++ (offC p).toList)) ∧ (D 6 = true → vs 6 = .pointer (some ⟨mb, 4, none⟩)) ∧ (D 7 = false → Mod (fun j => v.ownBlock = some j) w w') ∧
    (D 7 = true → w'.heap[mb]? = some (.cells (mtD ao n cap d (vs 5)) 87) ∧ Mod (fun j => v.ownBlock = some j ∨ j = mb) w w')
def MWord (ao : Option Addr) (n cap : Nat) (d : Dye) (base k : Nat) (v : Value) (xs : List Value) (b : Bld) (mb : Nat) (w : World) (D : Nat → Bool) (vs : Nat → Value) (w' : World) : Prop :=
  (D 0 = true → vs 0 = .pointer (some ⟨mb, 4, none⟩)) ∧ (D 1 = true → vs 1 = v) ∧ (D 2 = true → vs 2 = blV b) ∧ (D 5 = false → MBefore b D vs w w') ∧ (D 5 = true → MAfter ao n cap d base k v xs b mb D vs w w')

theorem off_mod {B : Nat} {w w' : World} {p : Nat × Nat × Nat × Nat} {b : Bld} (h : OffIs B w p b) (hm : ∀ (j : Nat) (cs : Array Value), w.heap[j]? = some (Obj.cells cs 3) → w'.heap[j]? = w.heap[j]?) (hB : B ≤ w'.heap.size) : OffIs w'.heap.size w' p b :=
  ⟨by have := h.l1; omega, by have := h.l2; omega, by have := h.l3; omega, by have := h.l4; omega, (hm _ _ h.c1).trans h.c1, (hm _ _ h.c2).trans h.c2, (hm _ _ h.c3).trans h.c3, (hm _ _ h.c4).trans h.c4⟩
theorem off_noB {B : Nat} {w w' : World} {p : Nat × Nat × Nat × Nat} {b : Bld} (h : OffIs B w p b) (hB : B ≤ w.heap.size) (hm : Mod noB w w') : OffIs w'.heap.size w' p b :=
  off_mod h (fun j cs hj => hm.block j (at_ltS hj) id) (Nat.le_trans hB hm.size)

theorem enter42 : ∀ args w, (callFunc 42 args).run Tryd.prog w = .ok (.enter 42 args) w := enters_of Tryd.func42 (by kernel_rfl) rfl

set_option maxRecDepth 100000 in
set_option maxHeartbeats 8000000 in
theorem region_mount {rid : Nat} {Q : Exit → Act → World → Prop} {a0 : Act} {w : World} {ao : Option Addr} {n cap : Nat} {d : Dye} {base k mb bb : Nat} {v : Value} {xs : List Value} {b : Bld} (hsz : a0.tmps.size = 35)
    (x6 : a0.eval (.tmp 6) = .pointer (some ⟨mb, 0, none⟩)) (x8 : a0.eval (.tmp 8) = .pointer (some ⟨bb, 0, none⟩)) (hmb : w.heap[mb]? = some (.cells (mtD ao n cap d v) 87)) (hbb : w.heap[bb]? = some (.cells (blC b) 53))
    (hown : w.ownsRow base 78 2 v k xs) (hk : k ≤ 100) (hbase : mb < base ∧ base ≤ w.heap.size)
    (hend : ∀ (vs : Nat → Value) w', MRes ao n cap d base k v xs b mb w w' (vs 5) → Q .normal (dsM.foldl (fun a x => a.put (some x.2) (vs x.1)) a0) w') : (Code.region rid opsM.toArray true).wp Tryd.prog Q a0 w := by
  obtain ⟨i0, hi, hz0, hz1, hz2⟩ := info_parts info78
  have hrow : ∀ r, v.ownBlock = some r → r ≠ mb ∧ ∀ cs, w.heap[r]? ≠ some (.cells cs 3) := fun r hr => by
    obtain ⟨h1, cur, h2⟩ := own2_block hown hr
    exact ⟨by omega, fun cs h => by rw [h2] at h; cases h⟩
  refine region_word (by kernel_rfl) dsM (MWord ao n cap d base k v xs b mb w) (by decide) (by decide) ?_ ?_ ?_ ?_ ?_ ?_ ?_
  · intro x hx; rw [hsz]
    simp only [dsM, List.mem_cons, List.not_mem_nil, or_false] at hx
    rcases hx with rfl | rfl | rfl | rfl | rfl | rfl | rfl <;> decide
  · intro i o s ho hs
    have hlt : i < 8 := (List.getElem?_eq_some_iff.1 ho).1
    rcases (by omega : i = 0 ∨ i = 1 ∨ i = 2 ∨ i = 3 ∨ i = 4 ∨ i = 5 ∨ i = 6 ∨ i = 7) with rfl | rfl | rfl | rfl | rfl | rfl | rfl | rfl
    all_goals (obtain rfl := Option.some.inj ho; first | (cases hs; done) | (cases hs; decide))
  · intro i o ho hs
    have hlt : i < 8 := (List.getElem?_eq_some_iff.1 ho).1
    rcases (by omega : i = 0 ∨ i = 1 ∨ i = 2 ∨ i = 3 ∨ i = 4 ∨ i = 5 ∨ i = 6 ∨ i = 7) with rfl | rfl | rfl | rfl | rfl | rfl | rfl | rfl
    all_goals (obtain rfl := Option.some.inj ho; first | (cases hs; done) | decide)
  · intro x hx
    simp only [dsM, List.mem_cons, List.not_mem_nil, or_false] at hx
    rcases hx with rfl | rfl | rfl | rfl | rfl | rfl | rfl <;> decide
  · refine ⟨fun h => absurd h (by decide), fun h => absurd h (by decide), fun h => absurd h (by decide), fun _ => ?_, fun h => absurd h (by decide)⟩
    exact ⟨(Mod.refl _ _).drew, fun h => absurd h (by decide)⟩
  · intro D vs i o ρ w' hcl ho hD hdep EV EO hW
    have hlt : i < 8 := (List.getElem?_eq_some_iff.1 ho).1
    obtain ⟨W0, W1, W2, WB, WA⟩ := hW
    have e6 : ρ.eval (.tmp 6) = .pointer (some ⟨mb, 0, none⟩) := (EO 6 (fun x hx e => absurd (e ▸ List.mem_map.2 ⟨x, hx, rfl⟩ : 6 ∈ dsM.map Prod.snd) (by decide))).trans x6
    have e8 : ρ.eval (.tmp 8) = .pointer (some ⟨bb, 0, none⟩) := (EO 8 (fun x hx e => absurd (e ▸ List.mem_map.2 ⟨x, hx, rfl⟩ : 8 ∈ dsM.map Prod.snd) (by decide))).trans x8
    have c5 : D 5 = true → D 1 = true ∧ D 4 = true ∧ D 3 = true := fun h => ⟨hcl 5 m5 rfl h ⟨1, .data⟩ (by simp) rfl, hcl 5 m5 rfl h ⟨4, .data⟩ (by simp) rfl, hcl 5 m5 rfl h ⟨3, .chain⟩ (by simp) rfl⟩
    have c1 : D 1 = true → D 0 = true := fun h => hcl 1 m1 rfl h ⟨0, .data⟩ (by simp) rfl
    have c3 : D 3 = true → D 2 = true := fun h => hcl 3 m3 rfl h ⟨2, .data⟩ (by simp) rfl
    have c4 : D 4 = true → D 3 = true := fun h => hcl 4 m4 rfl h ⟨3, .data⟩ (by simp) rfl
    have c6 : D 6 = true → D 5 = true := fun h => hcl 6 m6 rfl h ⟨5, .phase⟩ (by simp) rfl
    have c7 : D 7 = true → D 6 = true := fun h => hcl 7 m7 rfl h ⟨6, .data⟩ (by simp) rfl
    have no5 : (D 0 = false ∨ D 1 = false ∨ D 2 = false ∨ D 3 = false ∨ D 4 = false) → D 5 = false := fun h => by
      cases h5 : D 5 with
      | false => rfl
      | true =>
        have h1 := c5 h5
        have h0 := c1 h1.1
        have h2 := c3 h1.2.2
        rcases h with h | h | h | h | h
        · rw [h0] at h; cases h
        · rw [h1.1] at h; cases h
        · rw [h2] at h; cases h
        · rw [h1.2.2] at h; cases h
        · rw [h1.2.1] at h; cases h
    rcases (by omega : i = 0 ∨ i = 1 ∨ i = 2 ∨ i = 3 ∨ i = 4 ∨ i = 5 ∨ i = 6 ∨ i = 7) with rfl | rfl | rfl | rfl | rfl | rfl | rfl | rfl
    all_goals (obtain rfl := Option.some.inj ho)
    · have h5 := no5 (.inl hD)
      refine step_val rfl _ (run_offAddr rfl e6) ⟨_, rfl, fun _ => rfl, W1, W2, fun _ => ?_, fun h => absurd (h.symm.trans h5) (by decide)⟩
      exact WB h5
    · have h5 := no5 (.inr (.inl hD))
      have v0 := (EV 0 26 (by simp) (hdep ⟨0, .data⟩ (by simp) rfl)).trans (W0 (hdep ⟨0, .data⟩ (by simp) rfl))
      have hB := WB h5
      refine step_val rfl v (run_load83 rfl v0 (by rw [cellsAt (hB.1.at hmb id)]; rfl)) ⟨_, rfl, W0, fun _ => rfl, W2, fun _ => ?_, fun h => absurd (h.symm.trans h5) (by decide)⟩
      exact hB
    · have h5 := no5 (.inr (.inr (.inl hD)))
      have hB := WB h5
      refine step_val rfl _ (run_load53 rfl e8 (hB.1.at hbb id)) ⟨_, rfl, W0, W1, fun _ => rfl, fun _ => ?_, fun h => absurd (h.symm.trans h5) (by decide)⟩
      exact hB
    · have h5 := no5 (.inr (.inr (.inr (.inl hD))))
      have hB := WB h5
      have v2 := (EV 2 28 (by simp) (hdep ⟨2, .data⟩ (by simp) rfl)).trans (W2 (hdep ⟨2, .data⟩ (by simp) rfl))
      have h4 : D 4 = false := by
        cases h : D 4 with
        | false => rfl
        | true => rw [c4 h] at hD; cases hD
      refine step_call rfl 42 #[.tmp 28] #[53] rfl enter42 ?_
      rw [show (#[Operand.tmp 28].map ρ.eval) = #[blV b] by simp [v2]]
      refine (offOf_any b w').mono ?_
      rintro e w2 ⟨p, rfl, hp, hm⟩
      refine ⟨_, rfl, _, rfl, W0, W1, W2, fun _ => ⟨hB.1.trans hm, fun _ => ⟨p, rfl, hp, fun h => ?_⟩⟩, fun h => absurd (h.symm.trans h5) (by decide)⟩
      exact absurd (h.symm.trans h4) (by decide)
    · have h5 := no5 (.inr (.inr (.inr (.inr hD))))
      have hB := WB h5
      have d3 := hdep ⟨3, .data⟩ (by simp) rfl
      obtain ⟨p, e3, hp, _⟩ := hB.2 d3
      have v3 := (EV 3 29 (by simp) d3).trans e3
      refine step_run rfl _ _ (run_build83 rfl v3) ⟨_, rfl, W0, W1, W2, fun _ => ⟨hB.1.alloc _, fun _ => ⟨p, e3, off_noB hp (Nat.le_refl _) ((Mod.refl _ _).alloc _), fun _ => ⟨_, rfl, World.alloc_heap_new w' _⟩⟩⟩, fun h => absurd (h.symm.trans h5) (by decide)⟩
    · have hB := WB hD
      have d1 := hdep ⟨1, .data⟩ (by simp) rfl
      have d4 := hdep ⟨4, .data⟩ (by simp) rfl
      obtain ⟨p, e3, hp, h4⟩ := hB.2 (c4 d4)
      obtain ⟨g, e4, hg⟩ := h4 d4
      have v1 := (EV 1 27 (by simp) d1).trans (W1 d1)
      have v4 := (EV 4 30 (by simp) d4).trans e4
      have hown' : w'.ownsRow base 78 2 v k xs := own2_same hown (fun r hr => hB.1.block r (by
        obtain ⟨_, cur, h2⟩ := own2_block hown hr
        exact at_ltS h2) id)
      have h6 : D 6 = false := by
        cases h : D 6 with
        | false => rfl
        | true => rw [c6 h] at hD; cases hD
      have h7 : D 7 = false := by
        cases h : D 7 with
        | false => rfl
        | true => rw [c7 h] at h6; cases h6
      refine wpList_append_own_at _ rfl (.tmp 27) (.tmp 30) 83 rfl base 78 i0 (.agg #[.nilFunc, .nilFunc]) 2 16 Tryd.underlying83 hi hz0 hz1 hz2 rfl (by decide) v k xs v1 hown' ⟨g, 0, none⟩ 1 1 (offC p).toList v4 rfl ?_ ?_ (by unfold maxLen; omega) (by omega) (by have := hB.1.size; omega) ?_
      · intro j u hj
        have ea : Addr.add ⟨g, 0, none⟩ j = ⟨g, j, none⟩ := by simp [Addr.add]; omega
        rw [ea, cellsAt hg, ← Array.getElem?_toList]
        exact hj
      · intro u hu
        simp only [List.mem_cons, List.not_mem_nil, or_false] at hu
        rcases hu with rfl | rfl <;> rfl
      · intro v' w2 hown2 hgr _ _
        have hm : Mod (fun j => v.ownBlock = some j) w' w2 := Mod.of_grownBy hgr (fun r hr _ => hr)
        have hp2 : OffIs w2.heap.size w2 p b := off_mod hp (fun j cs hj => hm.block j (at_ltS hj) (fun hr => by
          obtain ⟨_, cur, h2⟩ := own2_block hown' hr
          rw [h2] at hj; cases hj)) hm.size
        refine ⟨rfl, v', rfl, W0, W1, W2, fun h => ?_, fun _ => ⟨⟨p, hp2, hown2⟩, fun h => ?_, fun _ => (hB.1.wider (fun _ _ h => h.elim)).trans hm, fun h => ?_⟩⟩
        · simp at h
        · exact absurd (h.symm.trans h6) (by decide)
        · exact absurd (h.symm.trans h7) (by decide)
    · have d5 := hdep ⟨5, .phase⟩ (by simp) rfl
      obtain ⟨⟨p, hp, ho5⟩, _, hA, _⟩ := WA d5
      have h7 : D 7 = false := by
        cases h : D 7 with
        | false => rfl
        | true => rw [c7 h] at hD; cases hD
      refine step_val rfl _ (run_offAddr rfl e6) ⟨_, rfl, W0, W1, W2, fun h => absurd (h.symm.trans d5) (by decide), fun _ => ⟨⟨p, hp, ho5⟩, fun _ => rfl, hA, fun h => ?_⟩⟩
      exact absurd (h.symm.trans h7) (by decide)
    · have d5 := hdep ⟨5, .data⟩ (by simp) rfl
      have d6 := hdep ⟨6, .data⟩ (by simp) rfl
      obtain ⟨⟨p, hp, ho5⟩, h6, hA, _⟩ := WA d5
      have hm := hA hD
      have v5 := EV 5 31 (by simp) d5
      have v6 := (EV 6 32 (by simp) d6).trans (h6 d6)
      obtain ⟨ao5, cap5, e5⟩ : ∃ ao5 cap5, vs 5 = .slice ao5 (k + 1) cap5 := by
        obtain ⟨_, ⟨h, h2⟩ | ⟨g, cp, cur, h, _⟩⟩ := ho5
        · omega
        · exact ⟨_, _, h⟩
      have hmb' := hm.at hmb (fun h => (hrow _ h).1 rfl)
      have hm2 : Mod (fun j => j = mb) w' (w'.setCell ⟨mb, 4, none⟩ (.slice ao5 (k + 1) cap5)) := (Mod.refl (fun j => j = mb) w').setCell (p := ⟨mb, 4, none⟩) (fun _ => rfl) _
      refine wpList_plain rfl fun K' hK => ?_
      unfold Oper.wp
      rw [run_store83 rfl v6 (v5.trans e5) hmb' rfl]
      simp only [Oper.upon]
      refine hK _ _ ⟨rfl, undef, rfl, W0, W1, W2, fun h => absurd (h.symm.trans d5) (by decide), fun _ => ⟨⟨p, ?_, ?_⟩, fun _ => ?_, fun h => ?_, fun _ => ⟨?_, ?_⟩⟩⟩
      · exact off_mod hp (fun j cs hj => hm2.block j (at_ltS hj) (fun e => by rw [e, hmb'] at hj; cases hj)) hm2.size
      · refine own2_same ho5 (fun r hr => hm2.block r ?_ ?_)
        · obtain ⟨_, cur, h2⟩ := own2_block ho5 hr
          exact at_ltS h2
        · have := (own2_block ho5 hr).1
          omega
      · exact h6 d6
      · simp at h
      · have := setCell_at hmb' 4 (.slice ao5 (k + 1) cap5)
        rw [this]
        simp only [show ((5 : Nat) = 7) = False by simp, if_false]
        rw [e5]
        rfl
      · exact (hm.wider (fun _ _ h => .inl h)).trans (hm2.wider (fun _ _ h => .inr h))
  · intro vs D w' hall hW
    have h5 := hall 5 (by decide)
    obtain ⟨⟨p, hp, ho5⟩, _, _, h7⟩ := hW.2.2.2.2 h5
    obtain ⟨h7a, h7b⟩ := h7 (hall 7 (by decide))
    exact hend vs w' ⟨p, hp, ho5, h7a, h7b⟩
end Go.Proofs.YtdncppempgpooaaDoor

/- cheapest: a region by its word, with what is mechanical decided; and what is looked up. -/
import Derived.Test.YtdncppempgpooaaDoorRuW
import Derived.Test.YtdncppempgpooaaDoorRuX
import Derived.Test.YtdncppempgpooaaDoorGev
set_option linter.unusedSimpArgs false
set_option linter.unusedVariables false
namespace Go.Proofs.YtdncppempgpooaaDoor
open Go.RowKit Go.Shelf Go.Maps Go.WideMaps

def okB (l : List Oper) (ds : List (Nat × Nat)) (n : Nat) : Bool :=
  decide (ds.map Prod.fst).Nodup && decide (ds.map Prod.snd).Nodup && ds.all (fun x => decide (x.2 < n) && decide (x.1 < l.length)) &&
  (List.range l.length).all (fun i => match l[i]? with | some o => (match o.dst with | some s => decide ((i, s) ∈ ds) | none => decide (i ∉ ds.map Prod.fst)) | none => true)
theorem region_word2 {rid : Nat} {Q : Exit → Act → World → Prop} {a0 : Act} {w : World} {l : List Oper} (hlow : lowB l = true) (ds : List (Nat × Nat)) (n : Nat) (hsz : a0.tmps.size = n) (hok : okB l ds n = true) (WO : (Nat → Bool) → (Nat → Value) → World → Prop)
    (h0 : WO (fun _ => false) (fun _ => undef) w.drew)
    (hs : ∀ D vs i o (ρ : Act) w', i < l.length → (∀ i o, l[i]? = some o → D i = true → ∀ e ∈ o.after, Region.binds .any e = true → D e.on = true) → l[i]? = some o → D i = false → (∀ e ∈ o.after, Region.binds .any e = true → D e.on = true) →
      (∀ j s, (j, s) ∈ ds → D j = true → ρ.eval (.tmp s) = vs j) → (∀ s, (∀ x ∈ ds, x.2 = s → D x.1 = false) → ρ.eval (.tmp s) = a0.eval (.tmp s)) → WO D vs w' →
      wpList Tryd.prog l.toArray (only fun a' w2 => ∃ v, a' = ρ.put o.dst v ∧ WO (fun j => j == i || D j) (fun j => if j = i then v else vs j) w2) [o] ρ w')
    (hend : ∀ (vs : Nat → Value) D w', (∀ j, j < l.length → D j = true) → WO D vs w' → Q .normal (ds.foldl (fun a x => a.put (some x.2) (vs x.1)) a0) w') : (Code.region rid l.toArray true).wp Tryd.prog Q a0 w := by
  simp only [okB, Bool.and_eq_true, decide_eq_true_eq, List.all_eq_true, List.mem_range] at hok
  obtain ⟨⟨⟨n1, n2⟩, n3⟩, n4⟩ := hok
  refine region_word hlow ds WO n1 n2 (fun x hx => by rw [hsz]; exact (n3 x hx).1) (fun i o s ho hd => ?_) (fun i o ho hd => ?_) (fun x hx => (n3 x hx).2) h0
    (fun D vs i o ρ w' a b c d e f g => hs D vs i o ρ w' (List.getElem?_eq_some_iff.1 b).1 a b c d e f g) hend
  · have := n4 i (List.getElem?_eq_some_iff.1 ho).1
    simpa [ho, hd] using this
  · have := n4 i (List.getElem?_eq_some_iff.1 ho).1
    simpa [ho, hd] using this

section
variable {ops : Array Oper} {o : Oper} {a : Act} {w : World} {K : Act → World → Prop} {x y z : Operand}
theorem step_loadRow (hg : o.guard = none) (ty : TypeId) (hop : o.op = .load ty x) (b : Nat) (hx : a.eval x = .pointer (some ⟨b, 0, none⟩)) (cs : Array Value) (t : TypeId) (d : TypeDesc) (hb : w.heap[b]? = some (.cells cs t))
    (hd : (match d with | .struct _ | .array _ _ => true | _ => false) = true) (hu : Tryd.prog.underlying ty = some d) (hi : (Tryd.prog.info? ty).map (·.size) = some cs.size) (h : K (a.put o.dst (.agg cs)) w) : wpList Tryd.prog ops (only K) [o] a w :=
  wpList_load_row hg ty x hop b hx t cs (0, 0) d hb hu (by cases d <;> exact hd) hi (wpList_nil ⟨rfl, h⟩)
theorem step_storeRow (hg : o.guard = none) (ty : TypeId) (hop : o.op = .store ty x y) (b : Nat) (cells : Array Value) (hx : a.eval x = .pointer (some ⟨b, 0, none⟩)) (hy : a.eval y = .agg cells) (t : TypeId) (old : Array Value) (hb : w.heap[b]? = some (.cells old t))
    (hi : (Tryd.prog.info? ty).map (·.size) = some cells.size) (hold : old.size = cells.size) (h1 : cells.all (·.oneCell') = true) (h : K (a.put o.dst undef) (w.putObj b (.cells cells t))) : wpList Tryd.prog ops (only K) [o] a w :=
  wpList_store_row hg ty x y hop b cells hx hy t old hb hi hold h1 (wpList_nil ⟨rfl, by rw [setRow_put hb]; exact h⟩)
theorem run_move (hop : o.op = .move x) {v : Value} (hx : a.eval x = v) : (execOp a.eval o).run Tryd.prog w = .ok (.value v) w := by
  simp only [execOp, hop, hx]; rfl
theorem run_assign (hop : o.op = .assign x) {v : Value} (hx : a.eval x = v) : (execOp a.eval o).run Tryd.prog w = .ok (.value v) w := by
  simp only [execOp, hop, hx]; rfl
theorem run_load114 (hop : o.op = .load 114 x) {b k : Nat} (hx : a.eval x = .pointer (some ⟨b, k, none⟩)) {v : Value} (hc : w.cell? ⟨b, k, none⟩ = some v) : (execOp a.eval o).run Tryd.prog w = .ok (.value v) w := by
  simp only [execOp, hop, hx]
  go_simp
  done
theorem run_load115 (hop : o.op = .load 115 x) {b k : Nat} (hx : a.eval x = .pointer (some ⟨b, k, none⟩)) {v : Value} (hc : w.cell? ⟨b, k, none⟩ = some v) : (execOp a.eval o).run Tryd.prog w = .ok (.value v) w := by
  simp only [execOp, hop, hx]
  go_simp
  done
theorem run_index114 (hop : o.op = .indexAddr 114 x y) {gb n cap i : Nat} (hx : a.eval x = .slice (some ⟨gb, 0, none⟩) n cap) (hy : a.eval y = .int .i64 i) (hi : i < n) : (execOp a.eval o).run Tryd.prog w = .ok (.value (.pointer (some ⟨gb, i, none⟩))) w := by
  have h1 : (i : Int) < n := by omega
  have h0 : (0 : Int) ≤ i := by omega
  simp only [execOp, hop, hx, hy]
  go_simp
  done
theorem run_ranAddr (hop : o.op = .fieldAddr 87 x 2) {b : Nat} (hx : a.eval x = .pointer (some ⟨b, 0, none⟩)) : (execOp a.eval o).run Tryd.prog w = .ok (.value (.pointer (some ⟨b, 5, none⟩))) w := by
  simp only [execOp, hop, hx]
  go_simp
  done
theorem run_load85 (hop : o.op = .load 85 x) {b : Nat} (hx : a.eval x = .pointer (some ⟨b, 5, none⟩)) {ao : Option Addr} {n cap : Nat} {d : Dye} {oo : Option Addr} {oc : Nat} {r : Nat → Int} (hb : w.heap[b]? = some (.cells (mtC ao n cap d oo oc r) 87)) :
    (execOp a.eval o).run Tryd.prog w = .ok (.value (ranV r)) w := by
  obtain ⟨_, _, _, _, _, c5, c6, c7, c8, c9⟩ := mt_cells hb
  simp only [execOp, hop, hx]
  go_simp
  done
theorem run_lookup (hop : o.op = .lookup 115 x y true) {m : Value} {k v : Value} (hx : a.eval x = m) (hy : a.eval y = k) (hl : (Instr.lookup 115 m k true).run Tryd.prog w = .ok v w) : (execOp a.eval o).run Tryd.prog w = .ok (.value v) w := by
  simp only [execOp, hop, hx, hy]
  simp [Sem.run_bind, hl, Result.andThen, Sem.run_pure, Sem.run_map]
  done
theorem run_alloc97 (hop : o.op = .alloc 97) : (execOp a.eval o).run Tryd.prog w = .ok (.value (.pointer (some ⟨w.heap.size, 0, none⟩))) (w.alloc (.cells #[.int .i64 0, .slice none 0 0] 97)) := by
  simp only [execOp, hop]
  go_simp
  done
end
theorem info97 : (Tryd.prog.info? 97).map (·.size) = some 2 := by kernel_rfl

theorem MemoIs.look2 {f : (Nat → Int) → Int × List Nat} {w0 w : World} {b : Nat} (h : MemoIs f w0 b) (hbb : w.heap[b]? = w0.heap[b]?) {r : Nat → Int} (hz : Zer r) (hr : RunB 10000 r) :
    ∃ c ao k cap ok, (Instr.lookup 115 (.map (some b)) (ranV r) true).run Tryd.prog w = .ok (.tuple #[.agg #[.int .i64 c, .slice ao k cap], .bool ok]) w ∧ (ok = true → CrV (f r) (.agg #[.int .i64 c, .slice ao k cap]) w0) := by
  obtain ⟨es, c, hb, hes⟩ := h.ex
  rw [← hbb] at hb
  obtain ⟨l, hl⟩ := key85 (runB_wf hr)
  have hget : (getObj b).run Tryd.prog w = .ok (.map es c) w := by simp [getObj, Sem.run, hb]
  have hks : ∀ e ∈ es.toList, ∃ l, keyOf Tryd.prog 85 e.key = some l := fun e he => by
    obtain ⟨r', hk, _, hr', _⟩ := hes e he
    rw [hk]; exact key85 (runB_wf hr')
  rcases law85.find w hl es.toList hks with ⟨a1, a2⟩ | ⟨j, e, a1, a2, a3⟩
  · refine ⟨0, none, 0, 0, false, ?_, fun h => (by cases h)⟩
    unfold Instr.lookup
    simp [run_underlying Tryd.underlying115, hget, law85.check w _ hl, a1, zero97, Sem.run_bind, Result.andThen, Sem.run_pure]
  · obtain ⟨r', hk, hz', _, hc⟩ := hes e (List.mem_of_getElem? a2)
    have hrr : r = r' := ranV_inj (by rw [← a3, hk]) hz hz'
    subst hrr
    obtain ⟨ao, cap, hv, hi⟩ := hc
    refine ⟨(f r).1, ao, (f r).2.length, cap, true, ?_, fun _ => ⟨ao, cap, rfl, hi⟩⟩
    unfold Instr.lookup
    rw [← hv]
    simp [run_underlying Tryd.underlying115, hget, law85.check w _ hl, a1, Sem.run_bind, Result.andThen, Sem.run_pure]
@[reducible] def ra0 : Oper := { dst := some 22, op := Op.load 114 (Operand.tmp 3), type := 114, pos := "plan.go:26", after := #[], guard := none }
@[reducible] def ra1 : Oper := { dst := some 23, op := Op.move (Operand.tmp 0), type := 3, pos := "plan.go:26", after := #[], guard := none }
@[reducible] def ra2 : Oper := { dst := some 24, op := Op.indexAddr 114 (Operand.tmp 22) (Operand.tmp 23), type := 0, pos := "plan.go:26", after := #[{ on := 0, ground := Ground.data }, { on := 1, ground := Ground.data }], guard := none }
@[reducible] def ra3 : Oper := { dst := some 25, op := Op.load 115 (Operand.tmp 24), type := 115, pos := "plan.go:26", after := #[{ on := 2, ground := Ground.data }], guard := none }
@[reducible] def ra4 : Oper := { dst := some 26, op := Op.fieldAddr 87 (Operand.tmp 6) 2, type := 0, pos := "plan.go:26", after := #[], guard := none }
@[reducible] def ra5 : Oper := { dst := some 27, op := Op.load 85 (Operand.tmp 26), type := 85, pos := "plan.go:26", after := #[{ on := 4, ground := Ground.data }], guard := none }
@[reducible] def ra6 : Oper := { dst := some 28, op := Op.lookup 115 (Operand.tmp 25) (Operand.tmp 27) true, type := 117, pos := "plan.go:26", after := #[{ on := 3, ground := Ground.data }, { on := 5, ground := Ground.data }], guard := none }
@[reducible] def ra7 : Oper := { dst := some 21, op := Op.move (Operand.tmp 28), type := 117, pos := "plan.go:26", after := #[{ on := 6, ground := Ground.data }], guard := none }
@[reducible] def ra8 : Oper := { dst := some 29, op := Op.extract (Operand.tmp 21) 0, type := 97, pos := "plan.go:26", after := #[{ on := 7, ground := Ground.data }], guard := none }
@[reducible] def ra9 : Oper := { dst := some 30, op := Op.extract (Operand.tmp 21) 1, type := 4, pos := "plan.go:26", after := #[{ on := 7, ground := Ground.data }, { on := 11, ground := Ground.gcOnly Departure.lateStores }], guard := none }
@[reducible] def ra10 : Oper := { dst := some 8, op := Op.alloc 97, type := 0, pos := "plan.go:26", after := #[], guard := none }
@[reducible] def ra11 : Oper := { dst := none, op := Op.store 97 (Operand.tmp 8) (Operand.tmp 29), type := 0, pos := "plan.go:26", after := #[{ on := 10, ground := Ground.data }, { on := 8, ground := Ground.data }, { on := 0, ground := Ground.phase }, { on := 1, ground := Ground.phase }, { on := 2, ground := Ground.phase }, { on := 3, ground := Ground.phase }, { on := 4, ground := Ground.phase }, { on := 5, ground := Ground.phase }, { on := 6, ground := Ground.phase }, { on := 7, ground := Ground.phase }, { on := 8, ground := Ground.phase }, { on := 9, ground := Ground.textOnly Departure.lateStores }, { on := 10, ground := Ground.phase }], guard := none }
@[reducible] def ra12 : Oper := { dst := some 9, op := Op.assign (Operand.tmp 30), type := 4, pos := "plan.go:26", after := #[{ on := 9, ground := Ground.data }, { on := 11, ground := Ground.chain }, { on := 0, ground := Ground.phase }, { on := 1, ground := Ground.phase }, { on := 2, ground := Ground.phase }, { on := 3, ground := Ground.phase }, { on := 4, ground := Ground.phase }, { on := 5, ground := Ground.phase }, { on := 6, ground := Ground.phase }, { on := 7, ground := Ground.phase }, { on := 8, ground := Ground.phase }, { on := 9, ground := Ground.phase }, { on := 10, ground := Ground.phase }, { on := 11, ground := Ground.phase }], guard := none }
@[reducible] def raOps : List Oper := [ra0, ra1, ra2, ra3, ra4, ra5, ra6, ra7, ra8, ra9, ra10, ra11, ra12]
@[reducible] def raDs : List (Nat × Nat) := [(0, 22), (1, 23), (2, 24), (3, 25), (4, 26), (5, 27), (6, 28), (7, 21), (8, 29), (9, 30), (10, 8), (12, 9)]
theorem raB : lowB raOps = true := by kernel_rfl
theorem raOk : okB raOps raDs 98 = true := by decide +kernel

/-- What has been looked up. -/
def Looked (f : (Nat → Int) → Int × List Nat) (r : Nat → Int) (v6 : Value) (w : World) : Prop := ∃ (c : Int) (ao : Option Addr) (k cap : Nat) (ok : Bool), v6 = .tuple #[.agg #[.int .i64 c, .slice ao k cap], .bool ok] ∧ (ok = true → CrV (f r) (.agg #[.int .i64 c, .slice ao k cap]) w)
def sndV (v : Value) (i : Nat) : Value := match v with | .tuple vs => vs.getD i undef | _ => undef
structure RaW (gb n cap i m1 mb : Nat) (f : (Nat → Int) → Int × List Nat) (r : Nat → Int) (w : World) (D : Nat → Bool) (vs : Nat → Value) (w' : World) : Prop where
  d0 : D 0 = true → vs 0 = .slice (some ⟨gb, 0, none⟩) n cap
  d1 : D 1 = true → vs 1 = .int .i64 i
  d2 : D 2 = true → vs 2 = .pointer (some ⟨gb, i, none⟩)
  d3 : D 3 = true → vs 3 = .map (some mb)
  d4 : D 4 = true → vs 4 = .pointer (some ⟨m1, 5, none⟩)
  d5 : D 5 = true → vs 5 = ranV r
  d6 : D 6 = true → Looked f r (vs 6) w
  d7 : D 7 = true → vs 7 = vs 6
  d8 : D 8 = true → vs 8 = sndV (vs 6) 0
  d9 : D 9 = true → vs 9 = sndV (vs 6) 1
  d10 : D 10 = true → ∃ pb, vs 10 = .pointer (some ⟨pb, 0, none⟩) ∧ w.heap.size ≤ pb ∧ (D 11 = false → w'.heap[pb]? = some (.cells #[.int .i64 0, .slice none 0 0] 97)) ∧
    (D 11 = true → ∀ cs, sndV (vs 6) 0 = .agg cs → w'.heap[pb]? = some (.cells cs 97))
  d12 : D 12 = true → vs 12 = sndV (vs 6) 1
  m : Mod noB w w'

set_option maxRecDepth 100000 in
set_option maxHeartbeats 4000000 in
theorem region_look {rid : Nat} {Q : Exit → Act → World → Prop} {a0 : Act} {w : World} {bb gb n cap i m1 mb : Nat} {f : (Nat → Int) → Int × List Nat} {ao : Option Addr} {nn acap : Nat} {d : Dye} {oo : Option Addr} {oc : Nat} {r : Nat → Int} (hsz : a0.tmps.size = 98)
    (x3 : a0.eval (.tmp 3) = .pointer (some ⟨bb, 0, none⟩)) (x0 : a0.eval (.tmp 0) = .int .i64 i) (x6 : a0.eval (.tmp 6) = .pointer (some ⟨m1, 0, none⟩)) (hbb : w.cell? ⟨bb, 0, none⟩ = some (.slice (some ⟨gb, 0, none⟩) n cap)) (hgb : w.cell? ⟨gb, i, none⟩ = some (.map (some mb)))
    (hm1 : w.heap[m1]? = some (.cells (mtC ao nn acap d oo oc r) 87)) (hM : MemoIs f w mb) (hz : Zer r) (hr : RunB 10000 r) (hi : i < n)
    (hend : ∀ (vs : Nat → Value) w' c so k cp ok pb, vs 12 = .bool ok → vs 10 = .pointer (some ⟨pb, 0, none⟩) → w.heap.size ≤ pb → w'.heap[pb]? = some (.cells #[.int .i64 c, .slice so k cp] 97) → (ok = true → CrV (f r) (.agg #[.int .i64 c, .slice so k cp]) w') → Mod noB w w' →
      Q .normal (raDs.foldl (fun a x => a.put (some x.2) (vs x.1)) a0) w') : (Code.region rid raOps.toArray true).wp Tryd.prog Q a0 w := by
  have hbl := World.block_lt_of_cell? _ _ hbb
  have hgl := World.block_lt_of_cell? _ _ hgb
  refine region_word2 raB raDs 98 hsz raOk (RaW gb n cap i m1 mb f r w) ?_ ?_ ?_
  · exact ⟨fun h => absurd h (by decide), fun h => absurd h (by decide), fun h => absurd h (by decide), fun h => absurd h (by decide), fun h => absurd h (by decide), fun h => absurd h (by decide), fun h => absurd h (by decide), fun h => absurd h (by decide), fun h => absurd h (by decide), fun h => absurd h (by decide), fun h => absurd h (by decide), fun h => absurd h (by decide), (Mod.refl _ _).drew⟩
  · intro D vs i' o ρ w' hlt hcl ho hD hdep EV EO hW
    have far : ∀ s, s ∉ raDs.map Prod.snd → ρ.eval (.tmp s) = a0.eval (.tmp s) := fun s hs => EO s fun x hx e => absurd (e ▸ List.mem_map.2 ⟨x, hx, rfl⟩ : s ∈ raDs.map Prod.snd) hs
    obtain ⟨W0, W1, W2, W3, W4, W5, W6, W7, W8, W9, W10, W12, WM⟩ := hW
    have c7 : D 7 = true → D 6 = true := fun h => hcl 7 ra7 rfl h ⟨6, .data⟩ (by simp) rfl
    have c8 : D 8 = true → D 6 = true := fun h => c7 (hcl 8 ra8 rfl h ⟨7, .data⟩ (by simp) rfl)
    have c9 : D 9 = true → D 6 = true := fun h => c7 (hcl 9 ra9 rfl h ⟨7, .data⟩ (by simp) rfl)
    have c11 : D 11 = true → D 10 = true ∧ D 6 = true := fun h => ⟨hcl 11 ra11 rfl h ⟨10, .data⟩ (by simp) rfl, c8 (hcl 11 ra11 rfl h ⟨8, .data⟩ (by simp) rfl)⟩
    have c12 : D 12 = true → D 6 = true := fun h => c9 (hcl 12 ra12 rfl h ⟨9, .data⟩ (by simp) rfl)
    have dat : ∀ {j : Nat} {s : Nat}, (∃ e ∈ o.after, Region.binds .any e = true ∧ e.on = j) → (j, s) ∈ raDs → ρ.eval (.tmp s) = vs j ∧ D j = true := fun ⟨e, he, hb, hj⟩ hm => ⟨EV _ _ hm (hj ▸ hdep e he hb), hj ▸ hdep e he hb⟩
    have hlt' : i' < 13 := hlt
    rcases (by omega : i' = 0 ∨ i' = 1 ∨ i' = 2 ∨ i' = 3 ∨ i' = 4 ∨ i' = 5 ∨ i' = 6 ∨ i' = 7 ∨ i' = 8 ∨ i' = 9 ∨ i' = 10 ∨ i' = 11 ∨ i' = 12) with rfl | rfl | rfl | rfl | rfl | rfl | rfl | rfl | rfl | rfl | rfl | rfl | rfl
    all_goals (obtain rfl := Option.some.inj ho)
    · refine step_val rfl _ (run_load114 rfl ((far 3 (by decide)).trans x3) ((cell_same (WM.block bb hbl id) _).trans hbb)) ⟨_, rfl, fun _ => rfl, W1, W2, W3, W4, W5, W6, W7, W8, W9, W10, W12, WM⟩
    · refine step_val rfl _ (run_move rfl ((far 0 (by decide)).trans x0)) ⟨_, rfl, W0, fun _ => rfl, W2, W3, W4, W5, W6, W7, W8, W9, W10, W12, WM⟩
    · obtain ⟨v0, g0⟩ := @dat 0 22 ⟨⟨0, .data⟩, by simp, rfl, rfl⟩ (by decide)
      obtain ⟨v1, g1⟩ := @dat 1 23 ⟨⟨1, .data⟩, by simp, rfl, rfl⟩ (by decide)
      refine step_val rfl _ (run_index114 rfl (v0.trans (W0 g0)) (v1.trans (W1 g1)) hi) ⟨_, rfl, W0, W1, fun _ => rfl, W3, W4, W5, W6, W7, W8, W9, W10, W12, WM⟩
    · obtain ⟨v2, g2⟩ := @dat 2 24 ⟨⟨2, .data⟩, by simp, rfl, rfl⟩ (by decide)
      refine step_val rfl _ (run_load115 rfl (v2.trans (W2 g2)) ((cell_same (WM.block gb hgl id) _).trans hgb)) ⟨_, rfl, W0, W1, W2, fun _ => rfl, W4, W5, W6, W7, W8, W9, W10, W12, WM⟩
    · refine step_val rfl _ (run_ranAddr rfl ((far 6 (by decide)).trans x6)) ⟨_, rfl, W0, W1, W2, W3, fun _ => rfl, W5, W6, W7, W8, W9, W10, W12, WM⟩
    · obtain ⟨v4, g4⟩ := @dat 4 26 ⟨⟨4, .data⟩, by simp, rfl, rfl⟩ (by decide)
      refine step_val rfl _ (run_load85 rfl (v4.trans (W4 g4)) (WM.at hm1 id)) ⟨_, rfl, W0, W1, W2, W3, W4, fun _ => rfl, W6, W7, W8, W9, W10, W12, WM⟩
    · obtain ⟨v3, g3⟩ := @dat 3 25 ⟨⟨3, .data⟩, by simp, rfl, rfl⟩ (by decide)
      obtain ⟨v5, g5⟩ := @dat 5 27 ⟨⟨5, .data⟩, by simp, rfl, rfl⟩ (by decide)
      obtain ⟨c, ao, k, cp, ok, hrun, hok⟩ := hM.look2 (WM.block mb hM.lt id) hz hr
      refine step_val rfl _ (run_lookup rfl (v3.trans (W3 g3)) (v5.trans (W5 g5)) hrun) ⟨_, rfl, W0, W1, W2, W3, W4, W5, fun _ => ⟨c, ao, k, cp, ok, rfl, hok⟩, fun h => ?_, fun h => ?_, fun h => ?_, fun h => ?_, fun h => ?_, WM⟩
      · exact absurd ((c7 h).symm.trans hD) (by decide)
      · exact absurd ((c8 h).symm.trans hD) (by decide)
      · exact absurd ((c9 h).symm.trans hD) (by decide)
      · obtain ⟨pb, h1, h2, h3, _⟩ := W10 h
        exact ⟨pb, h1, h2, h3, fun h11 => absurd ((c11 h11).2.symm.trans hD) (by decide)⟩
      · exact absurd ((c12 h).symm.trans hD) (by decide)
    · obtain ⟨v6, g6⟩ := @dat 6 28 ⟨⟨6, .data⟩, by simp, rfl, rfl⟩ (by decide)
      refine step_val rfl _ (run_move rfl v6) ⟨_, rfl, W0, W1, W2, W3, W4, W5, W6, fun _ => rfl, W8, W9, W10, W12, WM⟩
    · obtain ⟨v7, g7⟩ := @dat 7 21 ⟨⟨7, .data⟩, by simp, rfl, rfl⟩ (by decide)
      obtain ⟨c, ao, k, cp, ok, e6, _⟩ := W6 (c7 g7)
      refine step_val rfl (sndV (vs 6) 0) (run_extract 0 rfl (v7.trans ((W7 g7).trans e6)) (by rw [e6]; rfl)) ⟨_, rfl, W0, W1, W2, W3, W4, W5, W6, W7, fun _ => rfl, W9, W10, W12, WM⟩
    · obtain ⟨v7, g7⟩ := @dat 7 21 ⟨⟨7, .data⟩, by simp, rfl, rfl⟩ (by decide)
      obtain ⟨c, ao, k, cp, ok, e6, _⟩ := W6 (c7 g7)
      refine step_val rfl (sndV (vs 6) 1) (run_extract 1 rfl (v7.trans ((W7 g7).trans e6)) (by rw [e6]; rfl)) ⟨_, rfl, W0, W1, W2, W3, W4, W5, W6, W7, W8, fun _ => rfl, W10, W12, WM⟩
    · refine step_run rfl _ _ (run_alloc97 rfl) ⟨_, rfl, W0, W1, W2, W3, W4, W5, W6, W7, W8, W9, fun _ => ⟨w'.heap.size, rfl, WM.size, fun _ => World.alloc_heap_new _ _, fun h11 => absurd ((c11 h11).1.symm.trans hD) (by decide)⟩, W12, WM.alloc _⟩
    · obtain ⟨v10, g10⟩ := @dat 10 8 ⟨⟨10, .data⟩, by simp, rfl, rfl⟩ (by decide)
      obtain ⟨v8, g8⟩ := @dat 8 29 ⟨⟨8, .data⟩, by simp, rfl, rfl⟩ (by decide)
      obtain ⟨c, ao, k, cp, ok, e6, _⟩ := W6 (c8 g8)
      obtain ⟨pb, h1, h2, h3, _⟩ := W10 g10
      have hb := h3 hD
      refine step_storeRow rfl 97 rfl pb #[.int .i64 c, .slice ao k cp] (v10.trans h1) (v8.trans ((W8 g8).trans (by rw [e6]; rfl))) 97 _ hb info97 rfl (by simp [Value.oneCell']) ⟨undef, rfl, W0, W1, W2, W3, W4, W5, W6, W7, W8, W9, fun _ => ⟨pb, h1, h2, fun h => absurd h (by simp), fun _ cs hcs => ?_⟩, W12, WM.putObj (fun h => by omega) _⟩
      have hcs' : sndV (vs 6) 0 = .agg cs := hcs
      rw [e6] at hcs'
      cases hcs'
      exact World.putObj_heap_same (at_ltS hb)
    · obtain ⟨v9, g9⟩ := @dat 9 30 ⟨⟨9, .data⟩, by simp, rfl, rfl⟩ (by decide)
      refine step_val rfl _ (run_assign rfl (v9.trans (W9 g9))) ⟨_, rfl, W0, W1, W2, W3, W4, W5, W6, W7, W8, W9, W10, fun _ => rfl, WM⟩
  · intro vs D w' hall hW
    obtain ⟨c, so, k, cp, ok, e6, hc⟩ := hW.d6 (hall 6 (by decide))
    obtain ⟨pb, e10, hpb, _, hb⟩ := hW.d10 (hall 10 (by decide))
    refine hend vs w' c so k cp ok pb ?_ e10 hpb ?_ (fun h => (hc h).mod hW.m) hW.m
    · rw [hW.d12 (hall 12 (by decide)), e6]; rfl
    · exact hb (hall 11 (by decide)) _ (by rw [e6]; rfl)
end Go.Proofs.YtdncppempgpooaaDoor

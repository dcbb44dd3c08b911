/- Several texts in one (a claim holds at most 60 files): each has its own words ahead of it. -/
import Derived.Test.YtdncppempgpooaaDoorRnX
import Derived.Test.YtdncppempgpooaaDoorRxJ
set_option linter.unusedSimpArgs false
set_option linter.unusedVariables false

/- RuleMore: the region that lays two copies of the die. -/
namespace Go.Proofs.YtdncppempgpooaaDoor
open Go Go.RowKit Go.Shelf Go.Maps Go.WideMaps

@[reducible] def mc0 : Oper := { dst := some 93, op := Op.load 24 (Operand.tmp 4), type := 24, pos := "outright.go:209", after := #[], guard := none }
@[reducible] def mc1 : Oper := { dst := some 94, op := Op.load 24 (Operand.tmp 4), type := 24, pos := "outright.go:209", after := #[{ on := 4, ground := Ground.gcOnly Departure.lateStores }], guard := none }
@[reducible] def mc2 : Oper := { dst := some 15, op := Op.alloc 24, type := 0, pos := "outright.go:209", after := #[], guard := none }
@[reducible] def mc3 : Oper := { dst := some 16, op := Op.alloc 24, type := 0, pos := "outright.go:209", after := #[], guard := none }
@[reducible] def mc4 : Oper := { dst := none, op := Op.store 24 (Operand.tmp 15) (Operand.tmp 93), type := 0, pos := "outright.go:209", after := #[{ on := 2, ground := Ground.data }, { on := 0, ground := Ground.data }, { on := 0, ground := Ground.phase }, { on := 1, ground := Ground.textOnly Departure.lateStores }, { on := 2, ground := Ground.phase }, { on := 3, ground := Ground.phase }], guard := none }
@[reducible] def mc5 : Oper := { dst := none, op := Op.store 24 (Operand.tmp 16) (Operand.tmp 94), type := 0, pos := "outright.go:209", after := #[{ on := 3, ground := Ground.data }, { on := 1, ground := Ground.data }, { on := 4, ground := Ground.chain }, { on := 0, ground := Ground.phase }, { on := 1, ground := Ground.phase }, { on := 2, ground := Ground.phase }, { on := 3, ground := Ground.phase }, { on := 4, ground := Ground.phase }], guard := none }
@[reducible] def mcOps : List Oper := [mc0, mc1, mc2, mc3, mc4, mc5]
@[reducible] def mcDs : List (Nat × Nat) := [(0, 93), (1, 94), (2, 15), (3, 16)]
theorem mcB : lowB mcOps = true := by kernel_rfl
theorem mcOk : okB mcOps mcDs 256 = true := by decide +kernel
@[reducible] def zeroD : Array Value := #[.slice none 0 0, .int .i64 0, .int .i64 0, .int .i64 0]
theorem run_alloc24 {o : Oper} {a : Act} {w : World} (hop : o.op = .alloc 24) : (execOp a.eval o).run Tryd.prog w = .ok (.value (.pointer (some ⟨w.heap.size, 0, none⟩))) (w.alloc (.cells zeroD 24)) := by
  simp only [execOp, hop]
  go_simp
  done
/-- Two new blocks, and what lies in them. -/
structure McW (ao : Option Addr) (cap : Nat) (d : Dye) (w : World) (D : Nat → Bool) (vs : Nat → Value) (w' : World) : Prop where
  c0 : D 0 = true → vs 0 = dyV ao d.bl.length cap d
  c1 : D 1 = true → vs 1 = dyV ao d.bl.length cap d
  p2 : D 2 = true → ∃ b, vs 2 = .pointer (some ⟨b, 0, none⟩) ∧ w.heap.size ≤ b ∧ w'.heap[b]? = some (.cells (if D 4 = true then dyC ao d.bl.length cap d else zeroD) 24)
  p3 : D 3 = true → ∃ b, vs 3 = .pointer (some ⟨b, 0, none⟩) ∧ w.heap.size ≤ b ∧ w'.heap[b]? = some (.cells (if D 5 = true then dyC ao d.bl.length cap d else zeroD) 24)
  ne : D 2 = true → D 3 = true → vs 2 ≠ vs 3
  m : Mod noB w w'
theorem at_lt' {w : World} {b : Nat} {o : Obj} (h : w.heap[b]? = some o) : b < w.heap.size := (Array.getElem?_eq_some_iff.1 h).1
theorem putObj_at {w : World} {b c : Nat} {o p : Obj} (hb : w.heap[b]? = some p) : (w.putObj b o).heap[c]? = if c = b then some o else w.heap[c]? := by
  have hl := at_lt' hb
  show (w.heap.setIfInBounds b o)[c]? = _
  rw [Array.getElem?_setIfInBounds]
  by_cases h : c = b
  · subst h; simp [hl]
  · rw [if_neg (fun e => h e.symm), if_neg h]

set_option maxRecDepth 100000 in
set_option maxHeartbeats 4000000 in
theorem region_mc {rid : Nat} {Q : Exit → Act → World → Prop} {a0 : Act} {w : World} {ao : Option Addr} {cap db : Nat} {d : Dye} (hsz : a0.tmps.size = 256) (x4 : a0.eval (.tmp 4) = .pointer (some ⟨db, 0, none⟩)) (hdie : w.heap[db]? = some (.cells (dyC ao d.bl.length cap d) 24))
    (hend : ∀ (vs : Nat → Value) w' b c, vs 0 = dyV ao d.bl.length cap d → vs 1 = dyV ao d.bl.length cap d → vs 2 = .pointer (some ⟨b, 0, none⟩) → vs 3 = .pointer (some ⟨c, 0, none⟩) → b ≠ c → w.heap.size ≤ b → w.heap.size ≤ c → w'.heap[b]? = some (.cells (dyC ao d.bl.length cap d) 24) → w'.heap[c]? = some (.cells (dyC ao d.bl.length cap d) 24) → Mod noB w w' → Q .normal (mcDs.foldl (fun a x => a.put (some x.2) (vs x.1)) a0) w') : (Code.region rid mcOps.toArray true).wp Tryd.prog Q a0 w := by
  refine region_word2 mcB mcDs 256 hsz mcOk (McW ao cap d w) ?_ ?_ ?_
  · exact ⟨fun h => (by cases h), fun h => (by cases h), fun h => (by cases h), fun h => (by cases h), fun h => (by cases h), (Mod.refl _ _).drew⟩
  · intro D vs i' o ρ w' hlt hcl ho hD hdep EV EO hW
    have far : ∀ s, s ∉ mcDs.map Prod.snd → ρ.eval (.tmp s) = a0.eval (.tmp s) := fun s hs => EO s fun x hx e => absurd (e ▸ List.mem_map.2 ⟨x, hx, rfl⟩ : s ∈ mcDs.map Prod.snd) hs
    have k4 : D 4 = true → D 2 = true := fun h => hcl 4 mc4 rfl h ⟨2, .data⟩ (by simp) rfl
    have k5 : D 5 = true → D 3 = true := fun h => hcl 5 mc5 rfl h ⟨3, .data⟩ (by simp) rfl
    have hlt' : i' < 6 := hlt
    rcases (by omega : i' = 0 ∨ i' = 1 ∨ i' = 2 ∨ i' = 3 ∨ i' = 4 ∨ i' = 5) with rfl | rfl | rfl | rfl | rfl | rfl
    all_goals (obtain rfl := Option.some.inj ho)
    · exact step_loadRow rfl 24 rfl db ((far 4 (by decide)).trans x4) _ 24 _ (hW.m.at hdie id) rfl Tryd.underlying24 info24 ⟨_, rfl, ⟨fun _ => rfl, hW.c1, hW.p2, hW.p3, hW.ne, hW.m⟩⟩
    · exact step_loadRow rfl 24 rfl db ((far 4 (by decide)).trans x4) _ 24 _ (hW.m.at hdie id) rfl Tryd.underlying24 info24 ⟨_, rfl, ⟨hW.c0, fun _ => rfl, hW.p2, hW.p3, hW.ne, hW.m⟩⟩
    · have n4 : D 4 = false := by cases h : D 4 with | false => rfl | true => rw [k4 h] at hD; cases hD
      refine step_run rfl _ _ (run_alloc24 rfl) ⟨_, rfl, ⟨hW.c0, hW.c1, fun _ => ⟨w'.heap.size, rfl, hW.m.size, ?_⟩, fun h => ?_, fun _ h e => ?_, hW.m.alloc _⟩⟩
      · show (w'.alloc _).heap[w'.heap.size]? = some (.cells (if (4 == 2 || D 4) = true then _ else _) 24)
        rw [n4]
        exact World.alloc_heap_new _ _
      · obtain ⟨c, h1, h2, h3⟩ := hW.p3 h
        exact ⟨c, h1, h2, ((Mod.refl noB w').alloc _).at h3 id⟩
      · obtain ⟨c, h1, h2, h3⟩ := hW.p3 h
        have e' : vs 3 = .pointer (some ⟨w'.heap.size, 0, none⟩) := e.symm
        rw [h1] at e'
        have := at_lt' h3
        simp at e' <;> omega
    · have n5 : D 5 = false := by cases h : D 5 with | false => rfl | true => rw [k5 h] at hD; cases hD
      refine step_run rfl _ _ (run_alloc24 rfl) ⟨_, rfl, ⟨hW.c0, hW.c1, fun h => ?_, fun _ => ⟨w'.heap.size, rfl, hW.m.size, ?_⟩, fun h _ e => ?_, hW.m.alloc _⟩⟩
      · obtain ⟨c, h1, h2, h3⟩ := hW.p2 h
        exact ⟨c, h1, h2, ((Mod.refl noB w').alloc _).at h3 id⟩
      · show (w'.alloc _).heap[w'.heap.size]? = some (.cells (if (5 == 3 || D 5) = true then _ else _) 24)
        rw [n5]
        exact World.alloc_heap_new _ _
      · obtain ⟨c, h1, h2, h3⟩ := hW.p2 h
        have e' : vs 2 = .pointer (some ⟨w'.heap.size, 0, none⟩) := e
        rw [h1] at e'
        have := at_lt' h3
        simp at e' <;> omega
    · have g2 : D 2 = true := hdep ⟨2, .data⟩ (by simp) rfl
      have g0 : D 0 = true := hdep ⟨0, .data⟩ (by simp) rfl
      obtain ⟨b, h1, h2, h3⟩ := hW.p2 g2
      refine step_storeRow rfl 24 rfl b (dyC ao d.bl.length cap d) ((EV 2 15 (by decide) g2).trans h1) ((EV 0 93 (by decide) g0).trans (hW.c0 g0)) 24 _ h3 (by kernel_rfl) (by split <;> rfl) (by simp [Value.oneCell']) ⟨_, rfl, ⟨hW.c0, hW.c1, fun _ => ⟨b, h1, h2, ?_⟩, fun h => ?_, hW.ne, hW.m.putObj (fun hh => by omega) _⟩⟩
      · rw [putObj_at h3]; simp
      · obtain ⟨c, e1, e2, e3⟩ := hW.p3 h
        refine ⟨c, e1, e2, ?_⟩
        have hbc : c ≠ b := fun e => hW.ne g2 h (by rw [h1, e1, e])
        rw [putObj_at h3, if_neg hbc]
        exact e3
    · have g3 : D 3 = true := hdep ⟨3, .data⟩ (by simp) rfl
      have g1 : D 1 = true := hdep ⟨1, .data⟩ (by simp) rfl
      obtain ⟨c, h1, h2, h3⟩ := hW.p3 g3
      refine step_storeRow rfl 24 rfl c (dyC ao d.bl.length cap d) ((EV 3 16 (by decide) g3).trans h1) ((EV 1 94 (by decide) g1).trans (hW.c1 g1)) 24 _ h3 (by kernel_rfl) (by split <;> rfl) (by simp [Value.oneCell']) ⟨_, rfl, ⟨hW.c0, hW.c1, fun h => ?_, fun _ => ⟨c, h1, h2, ?_⟩, hW.ne, hW.m.putObj (fun hh => by omega) _⟩⟩
      · obtain ⟨b, e1, e2, e3⟩ := hW.p2 h
        refine ⟨b, e1, e2, ?_⟩
        have hbc : b ≠ c := fun e => hW.ne h g3 (by rw [h1, e1, e])
        rw [putObj_at h3, if_neg hbc]
        exact e3
      · rw [putObj_at h3]; simp
  · intro vs D w' hall hW
    obtain ⟨b, h1, h2, h3⟩ := hW.p2 (hall 2 (by decide))
    obtain ⟨c, e1, e2, e3⟩ := hW.p3 (hall 3 (by decide))
    rw [if_pos (hall 4 (by decide))] at h3
    rw [if_pos (hall 5 (by decide))] at e3
    exact hend vs w' b c (hW.c0 (hall 0 (by decide))) (hW.c1 (hall 1 (by decide))) h1 e1 (fun e => hW.ne (hall 2 (by decide)) (hall 3 (by decide)) (by rw [h1, e1, e])) h2 e2 h3 e3 hW.m
end Go.Proofs.YtdncppempgpooaaDoor

/- RuleMore: append of stints to a new list. -/
namespace Go.Proofs.YtdncppempgpooaaDoor
open Go Go.RowKit Go.Shelf

def flatS (L : List (Int × Int)) : List Value := L.flatMap fun b => (spC b).toList
theorem flatS_len (L : List (Int × Int)) : (flatS L).length = L.length * 2 := by
  induction L with
  | nil => rfl
  | cons b L ih => simp only [flatS, List.flatMap_cons, List.length_append] at ih ⊢; rw [ih]; simp; omega
theorem flatS_one (L : List (Int × Int)) : ∀ u ∈ flatS L, u.oneCell' = true := by
  intro u hu
  obtain ⟨b, _, h⟩ := List.mem_flatMap.1 hu
  simp at h
  rcases h with rfl | rfl <;> rfl
theorem info58s : (Tryd.prog.info? 58).map (fun i => (i.zero, i.size, i.bytes)) = some (some (.agg #[.int .i64 0, .int .i64 0]), 2, 16) := by kernel_rfl
/-- A list of stints of one's own. -/
def OwnS (base : Nat) (v : Value) (n : Nat) (L : List (Int × Int)) (W : World) : Prop := W.ownsRow base 58 2 v n (flatS L) ∧ ∃ g cap, v = .slice (some ⟨g, 0, none⟩) n cap ∧ n ≤ cap
theorem flatS_cell {u : Value} : ∀ (L : List (Int × Int)) (j : Nat), (flatS L)[j]? = some u → ∃ x, L[j / 2]? = some x ∧ (spC x)[j % 2]? = some u := by
  intro L
  induction L with
  | nil => intro j h; simp [flatS] at h
  | cons b L ih =>
    intro j h
    have e : flatS (b :: L) = (spC b).toList ++ flatS L := by simp [flatS]
    rw [e] at h
    rcases Nat.lt_or_ge j 2 with hj | hj
    · rw [List.getElem?_append_left (by simpa using hj)] at h
      refine ⟨b, by rw [show j / 2 = 0 by omega]; rfl, ?_⟩
      rw [show j % 2 = j by omega]
      simpa using h
    · rw [List.getElem?_append_right (by simpa using hj)] at h
      obtain ⟨x, h1, h2⟩ := ih (j - 2) (by simpa using h)
      refine ⟨x, ?_, ?_⟩
      · rw [show j / 2 = (j - 2) / 2 + 1 by omega, List.getElem?_cons_succ]; exact h1
      · rw [show j % 2 = (j - 2) % 2 by omega]; exact h2
theorem ownS_le {base n cap g : Nat} {W : World} {xs : List Value} (h : W.ownsRow base 58 2 (.slice (some ⟨g, 0, none⟩) n cap) n xs) : n ≤ cap := by
  rcases h.2 with ⟨h, _⟩ | ⟨g', cap', cur, hv, _, _, h1, _⟩
  · cases h
  · cases hv; exact h1
set_option maxHeartbeats 1000000 in
theorem app_stints {ops : Array Oper} {rest : List Oper} {o : Oper} {ρ : Act} {Q : Exit → Act → World → Prop} {W : World} {s x : Operand} {base g B c : Nat} {lo : Option Addr} {l : List (Int × Int)} (hgd : o.guard = none)
    (hop : o.op = Op.call { callee := Callee.builtin Builtin.append, args := #[s, x], argTypes := #[33, 33] }) (hs : ρ.eval s = .slice (some ⟨g, 0, none⟩) 0 0) (hg : W.heap[g]? = some (.cells #[] 58)) (hbg : base ≤ g) (hx : ρ.eval x = .slice lo l.length c) (hst : StintsAt B W lo l) (hsm : l.length ≤ 100) (hcn : lo = none → c = 0) (hb : base ≤ W.heap.size)
    (h : ∀ v' w', OwnS base v' l.length l w' → Mod (fun j => base ≤ j) W w' → wpList Tryd.prog ops Q rest (ρ.put o.dst v') w') : wpList Tryd.prog ops Q (o :: rest) ρ W := by
  obtain ⟨i0, hi, hz0, hz1, hz2⟩ := info_parts info58s
  have hown : W.ownsRow base 58 2 (.slice (some ⟨g, 0, none⟩) 0 0) 0 [] := ⟨by rfl, .inr ⟨g, 0, #[], rfl, hbg, hg, Nat.le_refl _, Nat.zero_le _, rfl, rfl⟩⟩
  by_cases hl : l = []
  · subst hl
    cases lo with
    | none =>
      obtain rfl := hcn rfl
      refine wpList_append_own_none hgd s x 33 hop base 58 i0 2 Tryd.underlying33 hi _ 0 [] hs hown hx (h _ _ ⟨hown, g, 0, rfl, Nat.le_refl _⟩ (Mod.refl _ _))
    | some ad =>
      refine wpList_append_arg W hgd s x 33 hop 58 i0 (.agg #[.int .i64 0, .int .i64 0]) 2 16 Tryd.underlying33 hi hz0 hz1 hz2 rfl (by decide) g 0 0 0 [] hs rfl (fun j u hj => by simp at hj) ad 0 c [] hx rfl (fun j u hj => by simp at hj) (fun u hu => by simp at hu) (fun _ j hj => by simp at hj) (by unfold maxLen; omega) (by omega) ?_ (fun hh => by omega)
      intro _
      exact h _ _ ⟨hown, g, 0, rfl, Nat.le_refl _⟩ (Mod.refl _ _)
  · obtain ⟨b, off, rfl, hb2, hc⟩ := hst.lies hl
    have hlp : 0 < l.length := List.length_pos_iff.2 hl
    refine wpList_append_own_at _ hgd s x 33 hop base 58 i0 (.agg #[.int .i64 0, .int .i64 0]) 2 16 Tryd.underlying33 hi hz0 hz1 hz2 rfl (by decide) _ 0 [] hs hown ⟨b, off, none⟩ l.length c (flatS l) hx (flatS_len l) (fun j u hj => ?_) (flatS_one _) (by unfold maxLen; omega) (by omega) hb ?_
    · obtain ⟨y, h1, h2⟩ := flatS_cell l j hj
      have := hc _ y h1 (j % 2) (by omega)
      rw [h2] at this
      rw [Addr.add_lit, ← this, show off + j / 2 * 2 + j % 2 = off + j by omega]
    · intro v' w2 hown2 hgr _ _
      rw [List.nil_append, Nat.zero_add] at hown2
      rcases hown2.2 with ⟨_, hz⟩ | ⟨g2, cap2, _, rfl, _⟩
      · omega
      exact h _ _ ⟨hown2, g2, cap2, rfl, ownS_le hown2⟩ (Mod.of_grownBy hgr fun r hr _ => own_ge hown hr)
section
open Go.ChangeShapes Go.WideShapes Go.ChangeAt Go.Joins
variable {H : Type} {enc : TypeId × Value → H} {W : World} {base : Nat} {sp : Nat → Bool} {held : Bool}
/-- A slice that came in and lies nowhere has no room. -/
theorem stints_none {b0 : Nat} {n cap : Nat} {d : DataW H} {p : List MemPlace} (h : DataW.Trod enc Tryd.prog W b0 sp held 33 (.slice none n cap) d p) : cap = 0 := by
  obtain ⟨fuel, hf⟩ := h
  have hf' : DataW.trod enc Tryd.prog W b0 sp held fuel 33 [.slice none n cap] = some (d, p) := hf
  rcases DataW.trod_slice Tryd.underlying33 hf' with ⟨e, _⟩ | ⟨a, len, cap', elems, rest, k, _, e, _⟩
  · simp only [List.cons.injEq, and_true, Value.slice.injEq] at e
    omega
  · simp only [List.cons.injEq, and_true, Value.slice.injEq] at e
    exact absurd e.1 (by simp)
end
end Go.Proofs.YtdncppempgpooaaDoor

/- RuleMore: the region that finds the blade to be made better. (The operations, and a step for each: written by wip/tools.) -/
namespace Go.Proofs.YtdncppempgpooaaDoor
open Go Go.RowKit Go.Shelf

section
variable {o : Oper} {a : Act} {w : World} {x y z : Operand}
theorem run_idx22 (hop : o.op = .indexAddr 22 x y) {b f n c i : Nat} (hx : a.eval x = .slice (some ⟨b, f, none⟩) n c) (hy : a.eval y = .int .i64 (i : Int)) (hi : i < n) : (execOp a.eval o).run Tryd.prog w = .ok (.value (.pointer (some ⟨b, f + i * 4, none⟩))) w := by
  have h1 : (i : Int) < (n : Int) := by omega
  simp only [execOp, hop, hx, hy]
  go_simp
  done
theorem run_conv5N (hop : o.op = .convert 5 3 x) {u : Nat} (hx : a.eval x = .int .u8 (u : Int)) (hu : u ≤ 255) : (execOp a.eval o).run Tryd.prog w = .ok (.value (.int .i64 (u : Int))) w := by
  have hw : IntKind.i64.wrap (u : Int) = (u : Int) := IntWalk.i64_in _ (by omega)
  simp only [execOp, hop, hx]
  go_simp
  done
end
@[reducible] def mb0 : Oper := { dst := some 100, op := Op.fieldAddr 24 (Operand.tmp 15) 0, type := 0, pos := "outright.go:211", after := #[], guard := none }
@[reducible] def mb1 : Oper := { dst := some 101, op := Op.load 22 (Operand.tmp 100), type := 22, pos := "outright.go:211", after := #[{ on := 0, ground := Ground.data }], guard := none }
@[reducible] def mb2 : Oper := { dst := some 102, op := Op.move (Operand.tmp 2), type := 5, pos := "outright.go:211", after := #[], guard := none }
@[reducible] def mb3 : Oper := { dst := some 103, op := Op.convert 5 3 (Operand.tmp 102), type := 3, pos := "outright.go:211", after := #[{ on := 2, ground := Ground.data }], guard := none }
@[reducible] def mb4 : Oper := { dst := some 104, op := Op.fieldAddr 24 (Operand.tmp 4) 0, type := 0, pos := "outright.go:211", after := #[], guard := none }
@[reducible] def mb5 : Oper := { dst := some 105, op := Op.load 22 (Operand.tmp 104), type := 22, pos := "outright.go:211", after := #[{ on := 4, ground := Ground.data }], guard := none }
@[reducible] def mb6 : Oper := { dst := some 106, op := Op.call { callee := Callee.builtin Builtin.len, args := #[Operand.tmp 105], argTypes := #[22] }, type := 3, pos := "outright.go:211", after := #[{ on := 5, ground := Ground.data }], guard := none }
@[reducible] def mb7 : Oper := { dst := some 107, op := Op.binOp BinOp.rem 3 (Operand.tmp 103) (Operand.tmp 106) 3, type := 3, pos := "outright.go:211", after := #[{ on := 3, ground := Ground.data }, { on := 6, ground := Ground.data }], guard := none }
@[reducible] def mb8 : Oper := { dst := some 108, op := Op.indexAddr 22 (Operand.tmp 101) (Operand.tmp 107), type := 0, pos := "outright.go:211", after := #[{ on := 1, ground := Ground.data }, { on := 7, ground := Ground.data }], guard := none }
@[reducible] def mb9 : Oper := { dst := some 17, op := Op.assign (Operand.tmp 108), type := 67, pos := "outright.go:211", after := #[{ on := 8, ground := Ground.data }, { on := 0, ground := Ground.phase }, { on := 1, ground := Ground.phase }, { on := 2, ground := Ground.phase }, { on := 3, ground := Ground.phase }, { on := 4, ground := Ground.phase }, { on := 5, ground := Ground.phase }, { on := 6, ground := Ground.phase }, { on := 7, ground := Ground.phase }, { on := 8, ground := Ground.phase }], guard := none }
@[reducible] def mbOps : List Oper := [mb0, mb1, mb2, mb3, mb4, mb5, mb6, mb7, mb8, mb9]
@[reducible] def mbDs : List (Nat × Nat) := [(0, 100), (1, 101), (2, 102), (3, 103), (4, 104), (5, 105), (6, 106), (7, 107), (8, 108), (9, 17)]
theorem mbB : lowB mbOps = true := by kernel_rfl
theorem mbOk : slotsB mbOps mbDs 256 = true := by decide +kernel
@[reducible] def mbC (sb db g n gc cap u wn : Nat) (ao : Option Addr) : Nat → Value := fun idx => ([Value.pointer (some ⟨sb, 0, none⟩), Value.slice (some ⟨g, 0, none⟩) n gc, Value.int .u8 u, Value.int .i64 (u), Value.pointer (some ⟨db, 0, none⟩), Value.slice ao n cap, Value.int .i64 (n), Value.int .i64 (wn), Value.pointer (some ⟨g, 0 + wn * 4, none⟩), Value.pointer (some ⟨g, 0 + wn * 4, none⟩)] : List Value).getD idx undef
theorem mbG (sb db g n gc cap u wn : Nat) (ao : Option Addr) : guardsC mbOps (mbC sb db g n gc cap u wn ao) = true := by kernel_rfl
set_option maxRecDepth 100000 in
set_option maxHeartbeats 4000000 in
theorem region_mb {rid : Nat} {Q : Exit → Act → World → Prop} {a0 : Act} {w : World} {sb db g n gc cap u wn : Nat} {ao : Option Addr} (hsz : a0.tmps.size = 256) (x2 : a0.eval (.tmp 2) = Value.int .u8 u) (x4 : a0.eval (.tmp 4) = Value.pointer (some ⟨db, 0, none⟩)) (x15 : a0.eval (.tmp 15) = Value.pointer (some ⟨sb, 0, none⟩))
    (F0 : ∀ W', Mod noB w W' → W'.cell? ⟨sb, 0, none⟩ = some (.slice (some ⟨g, 0, none⟩) n gc)) (F1 : ∀ W', Mod noB w W' → W'.cell? ⟨db, 0, none⟩ = some (.slice ao n cap)) (hn : ¬ n = 0) (hr : Int.tmod (u : Int) (n : Int) = (wn : Int)) (hw : wn < n) (hu : u ≤ 255) (hn5 : n ≤ 5)
    (hend : ∀ w', Mod noB w w' → Q .normal (mbDs.foldl (fun a x => a.put (some x.2) (mbC sb db g n gc cap u wn ao x.1)) a0) w') : (Code.region rid mbOps.toArray true).wp Tryd.prog Q a0 w := by
  refine region_known mbB mbDs hsz mbOk (mbC sb db g n gc cap u wn ao) (mbG sb db g n gc cap u wn ao) ?_ hend
  intro i o ρ w' hi ho hM kn far
  have hlt : i < 10 := hi
  rcases (by omega : i = 0 ∨ i = 1 ∨ i = 2 ∨ i = 3 ∨ i = 4 ∨ i = 5 ∨ i = 6 ∨ i = 7 ∨ i = 8 ∨ i = 9) with rfl | rfl | rfl | rfl | rfl | rfl | rfl | rfl | rfl | rfl
  all_goals (obtain rfl := Option.some.inj ho)
  · have e15 : ρ.eval (.tmp 15) = Value.pointer (some ⟨sb, 0, none⟩) := (far 15 (by decide +kernel)).trans x15
    refine step_run rfl (Value.pointer (some ⟨sb, 0, none⟩)) _ ?_ ⟨rfl, Mod.refl _ _⟩
    simp only [execOp, e15]
    go_simp
  · have e100 : ρ.eval (.tmp 100) = Value.pointer (some ⟨sb, 0, none⟩) := kn 0 100 (by decide +kernel) (by decide +kernel)
    have c := F0 _ hM
    refine step_run rfl (Value.slice (some ⟨g, 0, none⟩) n gc) _ ?_ ⟨rfl, Mod.refl _ _⟩
    simp only [execOp, e100]
    go_simp
  · have e2 : ρ.eval (.tmp 2) = Value.int .u8 u := (far 2 (by decide +kernel)).trans x2
    exact step_run rfl _ _ (run_move rfl e2) ⟨rfl, Mod.refl _ _⟩
  · have e102 : ρ.eval (.tmp 102) = Value.int .u8 u := kn 2 102 (by decide +kernel) (by decide +kernel)
    exact step_run rfl _ _ (run_conv5N rfl e102 hu) ⟨rfl, Mod.refl _ _⟩
  · have e4 : ρ.eval (.tmp 4) = Value.pointer (some ⟨db, 0, none⟩) := (far 4 (by decide +kernel)).trans x4
    refine step_run rfl (Value.pointer (some ⟨db, 0, none⟩)) _ ?_ ⟨rfl, Mod.refl _ _⟩
    simp only [execOp, e4]
    go_simp
  · have e104 : ρ.eval (.tmp 104) = Value.pointer (some ⟨db, 0, none⟩) := kn 4 104 (by decide +kernel) (by decide +kernel)
    have c := F1 _ hM
    refine step_run rfl (Value.slice ao n cap) _ ?_ ⟨rfl, Mod.refl _ _⟩
    simp only [execOp, e104]
    go_simp
  · have e105 : ρ.eval (.tmp 105) = Value.slice ao n cap := kn 5 105 (by decide +kernel) (by decide +kernel)
    have q : ρ.tmps[105]?.getD undef = Value.slice ao n cap := by simpa [Act.eval] using e105
    refine step_run rfl (Value.int .i64 (n)) _ ?_ ⟨rfl, Mod.refl _ _⟩
    simp only [execOp]
    go_simp
  · have e103 : ρ.eval (.tmp 103) = Value.int .i64 (u) := kn 3 103 (by decide +kernel) (by decide +kernel)
    have e106 : ρ.eval (.tmp 106) = Value.int .i64 (n) := kn 6 106 (by decide +kernel) (by decide +kernel)
    exact step_run rfl _ _ (run_remN rfl e103 e106 hn hr (by omega)) ⟨rfl, Mod.refl _ _⟩
  · have e101 : ρ.eval (.tmp 101) = Value.slice (some ⟨g, 0, none⟩) n gc := kn 1 101 (by decide +kernel) (by decide +kernel)
    have e107 : ρ.eval (.tmp 107) = Value.int .i64 (wn) := kn 7 107 (by decide +kernel) (by decide +kernel)
    exact step_run rfl _ _ (run_idx22 rfl e101 e107 hw) ⟨rfl, Mod.refl _ _⟩
  · have e108 : ρ.eval (.tmp 108) = Value.pointer (some ⟨g, 0 + wn * 4, none⟩) := kn 8 108 (by decide +kernel) (by decide +kernel)
    exact step_run rfl _ _ (run_assign rfl e108) ⟨rfl, Mod.refl _ _⟩
end Go.Proofs.YtdncppempgpooaaDoor

/- A drawn region each of whose operations yields a known value, and whose last one stores a known value at a known place. -/
namespace Go.Proofs.YtdncppempgpooaaDoor
open Go Go.RowKit Go.Shelf

theorem anc_done {l : List Oper} {D : Nat → Bool} (hc : ∀ i o, l[i]? = some o → D i = true → ∀ e ∈ o.after, Region.binds .any e = true → D e.on = true) : ∀ (f i j : Nat), D i = true → ancB l f i j = true → D j = true := by
  intro f
  induction f with
  | zero => intro i j hi h; simp only [ancB, beq_iff_eq] at h; exact h ▸ hi
  | succ f ih =>
    intro i j hi h
    simp only [ancB, Bool.or_eq_true, beq_iff_eq] at h
    rcases h with h | h
    · exact h ▸ hi
    · cases ho : l[i]? with
      | none => rw [ho] at h; cases h
      | some o =>
        rw [ho] at h
        simp only [List.any_eq_true, Bool.and_eq_true] at h
        obtain ⟨e, he, hb, ha⟩ := h
        exact ih _ _ (hc i o ho hi e (by simpa using he) hb) ha
theorem region_knownS {rid n : Nat} {Q : Exit → Act → World → Prop} {a0 : Act} {w : World} {l : List Oper} (hlow : lowB l = true) (ds : List (Nat × Nat)) (hsz : a0.tmps.size = n) (hok : slotsB l ds n = true) (C : Nat → Value) (hY : guardsC l C = true)
    (L : Nat) (oL : Oper) (hL : l[L]? = some oL) (hlen : l.length = L + 1) (hdst : oL.dst = none) (hgL : oL.guard = none) (hlast : coverB l L = true) (p : Addr) (x : Value)
    (hs : ∀ i o (ρ : Act) w', i < L → l[i]? = some o → Mod noB w w' → (∀ j s, waitsB o j = true → (j, s) ∈ ds → ρ.eval (.tmp s) = C j) → (∀ s, s ∉ ds.map Prod.snd → ρ.eval (.tmp s) = a0.eval (.tmp s)) →
      wpList Tryd.prog l.toArray (only fun a' w2 => a' = ρ.put o.dst (C i) ∧ Mod noB w' w2) [{ o with guard := none }] ρ w')
    (hst : ∀ (ρ : Act) w', Mod noB w w' → (∀ j s, waitsB oL j = true → (j, s) ∈ ds → ρ.eval (.tmp s) = C j) → (∀ s, s ∉ ds.map Prod.snd → ρ.eval (.tmp s) = a0.eval (.tmp s)) →
      wpList Tryd.prog l.toArray (only fun a' w2 => a' = ρ.put oL.dst undef ∧ w2 = w'.setCell p x) [oL] ρ w')
    (hend : ∀ w', Mod noB w w' → Q .normal (ds.foldl (fun a x => a.put (some x.2) (C x.1)) a0) (w'.setCell p x)) : (Code.region rid l.toArray true).wp Tryd.prog Q a0 w := by
  simp only [slotsB, Bool.and_eq_true, decide_eq_true_eq, List.all_eq_true, List.mem_range] at hok
  obtain ⟨⟨⟨n1, n2⟩, n3⟩, n4⟩ := hok
  have hin : ∀ i o s, l[i]? = some o → o.dst = some s → (i, s) ∈ ds := fun i o s ho hd => by
    have := n4 i (List.getElem?_eq_some_iff.1 ho).1
    simpa [ho, hd] using this
  refine region_predW hlow ds (fun j v w => v = C j) (fun D w' => if D L = true then ∃ w1, Mod noB w w1 ∧ w' = w1.setCell p x else Mod noB w w') (fun _ _ => True) (fun j v w1 w2 h hm => h) n1 n2 (fun x hx => by rw [hsz]; exact (n3 x hx).1) hin (fun i o ho hd => ?_) (fun x hx => (n3 x hx).2) (by rw [if_neg (by simp)]; exact (Mod.refl noB w).drew) ?_ ?_
  · have := n4 i (List.getElem?_eq_some_iff.1 ho).1
    simpa [ho, hd] using this
  · intro D i o ρ w' hcl ho hD hdep hP hA hW
    have kn : ∀ j s, waitsB o j = true → (j, s) ∈ ds → ρ.eval (.tmp s) = C j := fun j s hw hm => by
      obtain ⟨e, he, hb, hj⟩ : ∃ e ∈ o.after, Region.binds .any e = true ∧ e.on = j := by
        obtain ⟨k, hk, hh⟩ := Array.any_eq_true.1 hw
        simp only [Bool.and_eq_true, beq_iff_eq] at hh
        exact ⟨_, Array.getElem_mem hk, hh.1, hh.2⟩
      exact hP j s hm (hj ▸ hdep e he hb)
    have far : ∀ s, s ∉ ds.map Prod.snd → ρ.eval (.tmp s) = a0.eval (.tmp s) := fun s hns => hA s fun x hx e => absurd (e ▸ List.mem_map.2 ⟨x, hx, rfl⟩ : s ∈ ds.map Prod.snd) hns
    by_cases hi : i = L
    · subst hi
      obtain rfl := Option.some.inj (hL.symm.trans ho)
      rw [if_neg (by rw [hD]; simp)] at hW
      refine wpList_mono1W ?_ (hst ρ w' hW kn far)
      rintro a' w2 ⟨rfl, rfl⟩
      exact ⟨⟨undef, rfl, fun h => absurd hdst h⟩, trivial, by rw [if_pos (by simp)]; exact ⟨w', hW, rfl⟩⟩
    · have hDL : D L = false := by
        cases h : D L with
        | false => rfl
        | true =>
          have hil : i < L := by have := (List.getElem?_eq_some_iff.1 ho).1; omega
          have hl := hlast
          simp only [coverB, hL] at hl
          have := List.all_eq_true.1 hl i (List.mem_range.2 hil)
          obtain ⟨e, he, hh⟩ := List.any_eq_true.1 this
          rw [Bool.and_eq_true] at hh
          have := anc_done hcl _ _ _ (hcl L oL hL h e (by simpa using he) hh.1) hh.2
          rw [hD] at this
          cases this
      rw [if_neg (by rw [hDL]; simp)] at hW
      have hil : i < L := by have := (List.getElem?_eq_some_iff.1 ho).1; omega
      have hst2 := hs i o ρ w' hil ho hW kn far
      have hwant : Region.wanted o (yielded l.toArray ρ.tmps) = true := by
        have hg := List.all_eq_true.1 hY o (List.mem_of_getElem? ho)
        unfold Region.wanted
        cases hgu : o.guard with
        | none => rfl
        | some jw =>
          obtain ⟨j, want⟩ := jw
          simp only [hgu, Bool.and_eq_true] at hg
          obtain ⟨⟨g1, g2⟩, g3⟩ := hg
          cases hoj : l[j]? with
          | none => simp [hoj] at g2
          | some oj =>
            simp only [hoj] at g2
            obtain ⟨s, hds⟩ := Option.isSome_iff_exists.1 g2
            have hv := kn j s g1 (hin j oj s hoj hds)
            split at g3
            · rename_i c heq
              rw [heq] at hv
              have hc : c = want := by simpa using g3
              subst hc
              have := eval_bool_at hv
              simp only [yielded, List.getElem?_toArray, hoj, Option.bind_some, hds, this]
              simp
            · cases g3
      refine wpList_strike hwant (wpList_mono1W ?_ hst2)
      rintro a' w2 ⟨rfl, hm⟩
      have hne : (L == i) = false := by simp; omega
      exact ⟨⟨C i, rfl, fun _ => rfl⟩, trivial, by rw [if_neg (by simp [hne, hDL])]; exact hW.trans hm⟩
  · intro vs D w' hall hP hW
    have e : ∀ (ds' : List (Nat × Nat)) (a : Act), (∀ x ∈ ds', x ∈ ds) → ds'.foldl (fun a x => a.put (some x.2) (vs x.1)) a = ds'.foldl (fun a x => a.put (some x.2) (C x.1)) a := by
      intro ds'
      induction ds' with
      | nil => intro a _; rfl
      | cons x ds' ih =>
        intro a hx
        simp only [List.foldl_cons]
        rw [hP x (hx x (by simp))]
        exact ih _ fun y hy => hx y (by simp [hy])
    rw [e ds a0 fun x hx => hx]
    rw [if_pos (hall L (by omega))] at hW
    obtain ⟨w1, hm, rfl⟩ := hW
    exact hend w1 hm
/-- A number is stored in a cell that is there. -/
theorem step_store3 {ops : Array Oper} {K : Act → World → Prop} {o : Oper} {a : Act} {w : World} {x y : Operand} (hg : o.guard = none) (hop : o.op = .store 3 x y) {b k : Nat} (hx : a.eval x = .pointer (some ⟨b, k, none⟩)) {v : Int} (hy : a.eval y = .int .i64 v) {cs : Array Value} {t : TypeId} {u : Value} (hb : w.heap[b]? = some (.cells cs t)) (hu : cs[k]? = some u) (h : K (a.put o.dst undef) (w.setCell ⟨b, k, none⟩ (.int .i64 v))) : wpList Tryd.prog ops (only K) [o] a w := by
  refine wpList_plain hg fun K' hK => ?_
  have c0 : w.cell? ⟨b, k, none⟩ = some u := (cellsAt hb k).trans hu
  have f0 := frozen_at hb k
  unfold Oper.wp
  simp only [execOp, hop, hx, hy]
  go_simp
  exact hK _ _ ⟨rfl, h⟩
end Go.Proofs.YtdncppempgpooaaDoor

/- RuleMore: the regions that make a blade better. (The operations, and a step for each: written by wip/tools.) -/
namespace Go.Proofs.YtdncppempgpooaaDoor
open Go Go.RowKit Go.Shelf

theorem run_max {o : Oper} {a : Act} {w : World} {s r : Nat} (hop : o.op = .call { callee := Callee.builtin Builtin.max, args := #[.tmp s, .tmp r], argTypes := #[3, 3] }) {A B C : Int} (hx : a.eval (.tmp s) = .int .i64 A) (hy : a.eval (.tmp r) = .int .i64 B) (hC : max A B = C) : (execOp a.eval o).run Tryd.prog w = .ok (.value (.int .i64 C)) w := by
  have q1 : a.tmps[s]?.getD undef = .int .i64 A := by simpa [Act.eval] using hx
  have q2 : a.tmps[r]?.getD undef = .int .i64 B := by simpa [Act.eval] using hy
  subst hC
  by_cases h : A < B
  · have h' : max A B = B := by omega
    rw [h']
    simp only [execOp, hop]
    go_simp
    try omega
  · have h' : max A B = A := by omega
    have h2 : ¬ A < B := by omega
    rw [h']
    simp only [execOp, hop]
    go_simp
    try omega
@[reducible] def me0 : Oper := { dst := some 109, op := Op.move (Operand.tmp 17), type := 67, pos := "outright.go:212", after := #[], guard := none }
@[reducible] def me1 : Oper := { dst := some 110, op := Op.move (Operand.tmp 17), type := 67, pos := "outright.go:212", after := #[], guard := none }
@[reducible] def me2 : Oper := { dst := some 111, op := Op.nilCheck (Operand.tmp 110), type := 0, pos := "outright.go:212", after := #[{ on := 1, ground := Ground.data }], guard := none }
@[reducible] def me3 : Oper := { dst := some 112, op := Op.fieldAddr 53 (Operand.tmp 111) 0, type := 0, pos := "outright.go:212", after := #[{ on := 2, ground := Ground.data }], guard := none }
@[reducible] def me4 : Oper := { dst := some 113, op := Op.fieldAddr 28 (Operand.tmp 112) 0, type := 0, pos := "outright.go:212", after := #[{ on := 3, ground := Ground.data }], guard := none }
@[reducible] def me5 : Oper := { dst := some 114, op := Op.load 3 (Operand.tmp 113), type := 3, pos := "outright.go:212", after := #[{ on := 4, ground := Ground.data }], guard := none }
@[reducible] def me6 : Oper := { dst := some 115, op := Op.move (Operand.tmp 17), type := 67, pos := "outright.go:212", after := #[], guard := none }
@[reducible] def me7 : Oper := { dst := some 116, op := Op.nilCheck (Operand.tmp 115), type := 0, pos := "outright.go:212", after := #[{ on := 6, ground := Ground.data }], guard := none }
@[reducible] def me8 : Oper := { dst := some 117, op := Op.fieldAddr 53 (Operand.tmp 116) 0, type := 0, pos := "outright.go:212", after := #[{ on := 7, ground := Ground.data }], guard := none }
@[reducible] def me9 : Oper := { dst := some 118, op := Op.fieldAddr 28 (Operand.tmp 117) 1, type := 0, pos := "outright.go:212", after := #[{ on := 8, ground := Ground.data }], guard := none }
@[reducible] def me10 : Oper := { dst := some 119, op := Op.load 3 (Operand.tmp 118), type := 3, pos := "outright.go:212", after := #[{ on := 9, ground := Ground.data }], guard := none }
@[reducible] def me11 : Oper := { dst := some 120, op := Op.move (Operand.tmp 3), type := 5, pos := "outright.go:212", after := #[], guard := none }
@[reducible] def me12 : Oper := { dst := some 121, op := Op.convert 5 3 (Operand.tmp 120), type := 3, pos := "outright.go:212", after := #[{ on := 11, ground := Ground.data }], guard := none }
@[reducible] def me13 : Oper := { dst := some 122, op := Op.binOp BinOp.rem 3 (Operand.tmp 121) (Operand.const (Value.int IntKind.i64 5)) 3, type := 3, pos := "outright.go:212", after := #[{ on := 12, ground := Ground.data }], guard := none }
@[reducible] def me14 : Oper := { dst := some 123, op := Op.binOp BinOp.sub 3 (Operand.tmp 119) (Operand.tmp 122) 3, type := 3, pos := "outright.go:212", after := #[{ on := 10, ground := Ground.data }, { on := 13, ground := Ground.data }], guard := none }
@[reducible] def me15 : Oper := { dst := some 124, op := Op.call { callee := Callee.builtin Builtin.max, args := #[Operand.tmp 114, Operand.tmp 123], argTypes := #[3, 3] }, type := 3, pos := "outright.go:212", after := #[{ on := 5, ground := Ground.data }, { on := 14, ground := Ground.data }], guard := none }
@[reducible] def me16 : Oper := { dst := some 125, op := Op.nilCheck (Operand.tmp 109), type := 0, pos := "outright.go:212", after := #[{ on := 0, ground := Ground.data }, { on := 0, ground := Ground.phase }, { on := 1, ground := Ground.phase }, { on := 2, ground := Ground.phase }, { on := 3, ground := Ground.phase }, { on := 4, ground := Ground.phase }, { on := 5, ground := Ground.phase }, { on := 6, ground := Ground.phase }, { on := 7, ground := Ground.phase }, { on := 8, ground := Ground.phase }, { on := 9, ground := Ground.phase }, { on := 10, ground := Ground.phase }, { on := 11, ground := Ground.phase }, { on := 12, ground := Ground.phase }, { on := 13, ground := Ground.phase }, { on := 14, ground := Ground.phase }, { on := 15, ground := Ground.phase }], guard := none }
@[reducible] def me17 : Oper := { dst := some 126, op := Op.fieldAddr 53 (Operand.tmp 125) 0, type := 0, pos := "outright.go:212", after := #[{ on := 16, ground := Ground.data }, { on := 0, ground := Ground.phase }, { on := 1, ground := Ground.phase }, { on := 2, ground := Ground.phase }, { on := 3, ground := Ground.phase }, { on := 4, ground := Ground.phase }, { on := 5, ground := Ground.phase }, { on := 6, ground := Ground.phase }, { on := 7, ground := Ground.phase }, { on := 8, ground := Ground.phase }, { on := 9, ground := Ground.phase }, { on := 10, ground := Ground.phase }, { on := 11, ground := Ground.phase }, { on := 12, ground := Ground.phase }, { on := 13, ground := Ground.phase }, { on := 14, ground := Ground.phase }, { on := 15, ground := Ground.phase }], guard := none }
@[reducible] def me18 : Oper := { dst := some 127, op := Op.fieldAddr 28 (Operand.tmp 126) 1, type := 0, pos := "outright.go:212", after := #[{ on := 17, ground := Ground.data }, { on := 0, ground := Ground.phase }, { on := 1, ground := Ground.phase }, { on := 2, ground := Ground.phase }, { on := 3, ground := Ground.phase }, { on := 4, ground := Ground.phase }, { on := 5, ground := Ground.phase }, { on := 6, ground := Ground.phase }, { on := 7, ground := Ground.phase }, { on := 8, ground := Ground.phase }, { on := 9, ground := Ground.phase }, { on := 10, ground := Ground.phase }, { on := 11, ground := Ground.phase }, { on := 12, ground := Ground.phase }, { on := 13, ground := Ground.phase }, { on := 14, ground := Ground.phase }, { on := 15, ground := Ground.phase }], guard := none }
@[reducible] def me19 : Oper := { dst := none, op := Op.store 3 (Operand.tmp 127) (Operand.tmp 124), type := 0, pos := "outright.go:212", after := #[{ on := 18, ground := Ground.data }, { on := 15, ground := Ground.data }, { on := 0, ground := Ground.phase }, { on := 1, ground := Ground.phase }, { on := 2, ground := Ground.phase }, { on := 3, ground := Ground.phase }, { on := 4, ground := Ground.phase }, { on := 5, ground := Ground.phase }, { on := 6, ground := Ground.phase }, { on := 7, ground := Ground.phase }, { on := 8, ground := Ground.phase }, { on := 9, ground := Ground.phase }, { on := 10, ground := Ground.phase }, { on := 11, ground := Ground.phase }, { on := 12, ground := Ground.phase }, { on := 13, ground := Ground.phase }, { on := 14, ground := Ground.phase }, { on := 15, ground := Ground.phase }], guard := none }
@[reducible] def meOps : List Oper := [me0, me1, me2, me3, me4, me5, me6, me7, me8, me9, me10, me11, me12, me13, me14, me15, me16, me17, me18, me19]
@[reducible] def meDs : List (Nat × Nat) := [(0, 109), (1, 110), (2, 111), (3, 112), (4, 113), (5, 114), (6, 115), (7, 116), (8, 117), (9, 118), (10, 119), (11, 120), (12, 121), (13, 122), (14, 123), (15, 124), (16, 125), (17, 126), (18, 127)]
theorem meB : lowB meOps = true := by kernel_rfl
theorem meOk : slotsB meOps meDs 256 = true := by decide +kernel
@[reducible] def meC (g f u t : Nat) (p0 p1 mx : Int) : Nat → Value := fun idx => ([Value.pointer (some ⟨g, f, none⟩), Value.pointer (some ⟨g, f, none⟩), Value.pointer (some ⟨g, f, none⟩), Value.pointer (some ⟨g, f, none⟩), Value.pointer (some ⟨g, f, none⟩), Value.int .i64 (p0), Value.pointer (some ⟨g, f, none⟩), Value.pointer (some ⟨g, f, none⟩), Value.pointer (some ⟨g, f, none⟩), Value.pointer (some ⟨g, f + 1, none⟩), Value.int .i64 (p1), Value.int .u8 u, Value.int .i64 (u), Value.int .i64 (t), Value.int .i64 (p1 - t), Value.int .i64 (mx), Value.pointer (some ⟨g, f, none⟩), Value.pointer (some ⟨g, f, none⟩), Value.pointer (some ⟨g, f + 1, none⟩), undef] : List Value).getD idx undef
theorem meG (g f u t : Nat) (p0 p1 mx : Int) : guardsC meOps (meC g f u t p0 p1 mx) = true := by kernel_rfl
set_option maxRecDepth 100000 in
set_option maxHeartbeats 4000000 in
theorem region_me {rid : Nat} {Q : Exit → Act → World → Prop} {a0 : Act} {w : World} {g f u t : Nat} {p0 p1 mx : Int} (hsz : a0.tmps.size = 256) (x3 : a0.eval (.tmp 3) = Value.int .u8 u) (x17 : a0.eval (.tmp 17) = Value.pointer (some ⟨g, f, none⟩))
    (F0 : ∀ W', Mod noB w W' → W'.cell? ⟨g, f, none⟩ = some (.int .i64 p0)) (F1 : ∀ W', Mod noB w W' → W'.cell? ⟨g, f + 1, none⟩ = some (.int .i64 p1)) (HB : ∀ W', Mod noB w W' → ∃ cs ty u0, W'.heap[g]? = some (.cells cs ty) ∧ cs[f + 1]? = some u0) (hr : Int.tmod (u : Int) 5 = (t : Int)) (hu : u ≤ 255) (ht : t ≤ 255) (h0 : 0 ≤ p0 ∧ p0 ≤ 10000) (h1 : 0 ≤ p1 ∧ p1 ≤ 10000) (hmx : max p0 (p1 - t) = mx)
    (hend : ∀ w', Mod noB w w' → Q .normal (meDs.foldl (fun a x => a.put (some x.2) (meC g f u t p0 p1 mx x.1)) a0) (w'.setCell ⟨g, f + 1, none⟩ (Value.int .i64 (mx)))) : (Code.region rid meOps.toArray true).wp Tryd.prog Q a0 w := by
  refine region_knownS meB meDs hsz meOk (meC g f u t p0 p1 mx) (meG g f u t p0 p1 mx) 19 me19 rfl rfl rfl rfl (by kernel_rfl) ⟨g, f + 1, none⟩ (Value.int .i64 (mx)) ?_ ?_ hend
  · intro i o ρ w' hi ho hM kn far
    rcases (by omega : i = 0 ∨ i = 1 ∨ i = 2 ∨ i = 3 ∨ i = 4 ∨ i = 5 ∨ i = 6 ∨ i = 7 ∨ i = 8 ∨ i = 9 ∨ i = 10 ∨ i = 11 ∨ i = 12 ∨ i = 13 ∨ i = 14 ∨ i = 15 ∨ i = 16 ∨ i = 17 ∨ i = 18) with rfl | rfl | rfl | rfl | rfl | rfl | rfl | rfl | rfl | rfl | rfl | rfl | rfl | rfl | rfl | rfl | rfl | rfl | rfl
    all_goals (obtain rfl := Option.some.inj ho)
    · have e17 : ρ.eval (.tmp 17) = Value.pointer (some ⟨g, f, none⟩) := (far 17 (by decide +kernel)).trans x17
      exact step_run rfl _ _ (run_move rfl e17) ⟨rfl, Mod.refl _ _⟩
    · have e17 : ρ.eval (.tmp 17) = Value.pointer (some ⟨g, f, none⟩) := (far 17 (by decide +kernel)).trans x17
      exact step_run rfl _ _ (run_move rfl e17) ⟨rfl, Mod.refl _ _⟩
    · have e110 : ρ.eval (.tmp 110) = Value.pointer (some ⟨g, f, none⟩) := kn 1 110 (by decide +kernel) (by decide +kernel)
      refine step_run rfl (Value.pointer (some ⟨g, f, none⟩)) _ ?_ ⟨rfl, Mod.refl _ _⟩
      simp only [execOp, e110]
      go_simp
    · have e111 : ρ.eval (.tmp 111) = Value.pointer (some ⟨g, f, none⟩) := kn 2 111 (by decide +kernel) (by decide +kernel)
      refine step_run rfl (Value.pointer (some ⟨g, f, none⟩)) _ ?_ ⟨rfl, Mod.refl _ _⟩
      simp only [execOp, e111]
      go_simp
    · have e112 : ρ.eval (.tmp 112) = Value.pointer (some ⟨g, f, none⟩) := kn 3 112 (by decide +kernel) (by decide +kernel)
      refine step_run rfl (Value.pointer (some ⟨g, f, none⟩)) _ ?_ ⟨rfl, Mod.refl _ _⟩
      simp only [execOp, e112]
      go_simp
    · have e113 : ρ.eval (.tmp 113) = Value.pointer (some ⟨g, f, none⟩) := kn 4 113 (by decide +kernel) (by decide +kernel)
      have c := F0 _ hM
      refine step_run rfl (Value.int .i64 (p0)) _ ?_ ⟨rfl, Mod.refl _ _⟩
      simp only [execOp, e113]
      go_simp
    · have e17 : ρ.eval (.tmp 17) = Value.pointer (some ⟨g, f, none⟩) := (far 17 (by decide +kernel)).trans x17
      exact step_run rfl _ _ (run_move rfl e17) ⟨rfl, Mod.refl _ _⟩
    · have e115 : ρ.eval (.tmp 115) = Value.pointer (some ⟨g, f, none⟩) := kn 6 115 (by decide +kernel) (by decide +kernel)
      refine step_run rfl (Value.pointer (some ⟨g, f, none⟩)) _ ?_ ⟨rfl, Mod.refl _ _⟩
      simp only [execOp, e115]
      go_simp
    · have e116 : ρ.eval (.tmp 116) = Value.pointer (some ⟨g, f, none⟩) := kn 7 116 (by decide +kernel) (by decide +kernel)
      refine step_run rfl (Value.pointer (some ⟨g, f, none⟩)) _ ?_ ⟨rfl, Mod.refl _ _⟩
      simp only [execOp, e116]
      go_simp
    · have e117 : ρ.eval (.tmp 117) = Value.pointer (some ⟨g, f, none⟩) := kn 8 117 (by decide +kernel) (by decide +kernel)
      refine step_run rfl (Value.pointer (some ⟨g, f + 1, none⟩)) _ ?_ ⟨rfl, Mod.refl _ _⟩
      simp only [execOp, e117]
      go_simp
    · have e118 : ρ.eval (.tmp 118) = Value.pointer (some ⟨g, f + 1, none⟩) := kn 9 118 (by decide +kernel) (by decide +kernel)
      have c := F1 _ hM
      refine step_run rfl (Value.int .i64 (p1)) _ ?_ ⟨rfl, Mod.refl _ _⟩
      simp only [execOp, e118]
      go_simp
    · have e3 : ρ.eval (.tmp 3) = Value.int .u8 u := (far 3 (by decide +kernel)).trans x3
      exact step_run rfl _ _ (run_move rfl e3) ⟨rfl, Mod.refl _ _⟩
    · have e120 : ρ.eval (.tmp 120) = Value.int .u8 u := kn 11 120 (by decide +kernel) (by decide +kernel)
      exact step_run rfl _ _ (run_conv5N rfl e120 hu) ⟨rfl, Mod.refl _ _⟩
    · have e121 : ρ.eval (.tmp 121) = Value.int .i64 (u) := kn 12 121 (by decide +kernel) (by decide +kernel)
      exact step_run rfl _ _ (run_remN (m := 5) rfl e121 rfl (by omega) hr (by omega)) ⟨rfl, Mod.refl _ _⟩
    · have e119 : ρ.eval (.tmp 119) = Value.int .i64 (p1) := kn 10 119 (by decide +kernel) (by decide +kernel)
      have e122 : ρ.eval (.tmp 122) = Value.int .i64 (t) := kn 13 122 (by decide +kernel) (by decide +kernel)
      exact step_run rfl _ _ (run_sub rfl e119 e122 rfl (by omega) (by omega)) ⟨rfl, Mod.refl _ _⟩
    · have e114 : ρ.eval (.tmp 114) = Value.int .i64 (p0) := kn 5 114 (by decide +kernel) (by decide +kernel)
      have e123 : ρ.eval (.tmp 123) = Value.int .i64 (p1 - t) := kn 14 123 (by decide +kernel) (by decide +kernel)
      exact step_run rfl _ _ (run_max rfl e114 e123 hmx) ⟨rfl, Mod.refl _ _⟩
    · have e109 : ρ.eval (.tmp 109) = Value.pointer (some ⟨g, f, none⟩) := kn 0 109 (by decide +kernel) (by decide +kernel)
      refine step_run rfl (Value.pointer (some ⟨g, f, none⟩)) _ ?_ ⟨rfl, Mod.refl _ _⟩
      simp only [execOp, e109]
      go_simp
    · have e125 : ρ.eval (.tmp 125) = Value.pointer (some ⟨g, f, none⟩) := kn 16 125 (by decide +kernel) (by decide +kernel)
      refine step_run rfl (Value.pointer (some ⟨g, f, none⟩)) _ ?_ ⟨rfl, Mod.refl _ _⟩
      simp only [execOp, e125]
      go_simp
    · have e126 : ρ.eval (.tmp 126) = Value.pointer (some ⟨g, f, none⟩) := kn 17 126 (by decide +kernel) (by decide +kernel)
      refine step_run rfl (Value.pointer (some ⟨g, f + 1, none⟩)) _ ?_ ⟨rfl, Mod.refl _ _⟩
      simp only [execOp, e126]
      go_simp
  · intro ρ w' hM kn far
    have e1 : ρ.eval (.tmp 127) = Value.pointer (some ⟨g, f + 1, none⟩) := kn 18 127 (by decide +kernel) (by decide +kernel)
    have e2 : ρ.eval (.tmp 124) = Value.int .i64 (mx) := kn 15 124 (by decide +kernel) (by decide +kernel)
    obtain ⟨cs, ty, u0, h1, h2⟩ := HB w' hM
    exact step_store3 rfl rfl e1 e2 h1 h2 ⟨rfl, rfl⟩
@[reducible] def mf0 : Oper := { dst := some 128, op := Op.move (Operand.tmp 17), type := 67, pos := "outright.go:213", after := #[], guard := none }
@[reducible] def mf1 : Oper := { dst := some 129, op := Op.move (Operand.tmp 17), type := 67, pos := "outright.go:213", after := #[], guard := none }
@[reducible] def mf2 : Oper := { dst := some 130, op := Op.nilCheck (Operand.tmp 129), type := 0, pos := "outright.go:213", after := #[{ on := 1, ground := Ground.data }], guard := none }
@[reducible] def mf3 : Oper := { dst := some 131, op := Op.fieldAddr 53 (Operand.tmp 130) 1, type := 0, pos := "outright.go:213", after := #[{ on := 2, ground := Ground.data }], guard := none }
@[reducible] def mf4 : Oper := { dst := some 132, op := Op.fieldAddr 28 (Operand.tmp 131) 0, type := 0, pos := "outright.go:213", after := #[{ on := 3, ground := Ground.data }], guard := none }
@[reducible] def mf5 : Oper := { dst := some 133, op := Op.load 3 (Operand.tmp 132), type := 3, pos := "outright.go:213", after := #[{ on := 4, ground := Ground.data }], guard := none }
@[reducible] def mf6 : Oper := { dst := some 134, op := Op.move (Operand.tmp 17), type := 67, pos := "outright.go:213", after := #[], guard := none }
@[reducible] def mf7 : Oper := { dst := some 135, op := Op.nilCheck (Operand.tmp 134), type := 0, pos := "outright.go:213", after := #[{ on := 6, ground := Ground.data }], guard := none }
@[reducible] def mf8 : Oper := { dst := some 136, op := Op.fieldAddr 53 (Operand.tmp 135) 1, type := 0, pos := "outright.go:213", after := #[{ on := 7, ground := Ground.data }], guard := none }
@[reducible] def mf9 : Oper := { dst := some 137, op := Op.fieldAddr 28 (Operand.tmp 136) 1, type := 0, pos := "outright.go:213", after := #[{ on := 8, ground := Ground.data }], guard := none }
@[reducible] def mf10 : Oper := { dst := some 138, op := Op.load 3 (Operand.tmp 137), type := 3, pos := "outright.go:213", after := #[{ on := 9, ground := Ground.data }], guard := none }
@[reducible] def mf11 : Oper := { dst := some 139, op := Op.move (Operand.tmp 3), type := 5, pos := "outright.go:213", after := #[], guard := none }
@[reducible] def mf12 : Oper := { dst := some 140, op := Op.convert 5 3 (Operand.tmp 139), type := 3, pos := "outright.go:213", after := #[{ on := 11, ground := Ground.data }], guard := none }
@[reducible] def mf13 : Oper := { dst := some 141, op := Op.binOp BinOp.rem 3 (Operand.tmp 140) (Operand.const (Value.int IntKind.i64 3)) 3, type := 3, pos := "outright.go:213", after := #[{ on := 12, ground := Ground.data }], guard := none }
@[reducible] def mf14 : Oper := { dst := some 142, op := Op.binOp BinOp.sub 3 (Operand.tmp 138) (Operand.tmp 141) 3, type := 3, pos := "outright.go:213", after := #[{ on := 10, ground := Ground.data }, { on := 13, ground := Ground.data }], guard := none }
@[reducible] def mf15 : Oper := { dst := some 143, op := Op.call { callee := Callee.builtin Builtin.max, args := #[Operand.tmp 133, Operand.tmp 142], argTypes := #[3, 3] }, type := 3, pos := "outright.go:213", after := #[{ on := 5, ground := Ground.data }, { on := 14, ground := Ground.data }], guard := none }
@[reducible] def mf16 : Oper := { dst := some 144, op := Op.nilCheck (Operand.tmp 128), type := 0, pos := "outright.go:213", after := #[{ on := 0, ground := Ground.data }, { on := 0, ground := Ground.phase }, { on := 1, ground := Ground.phase }, { on := 2, ground := Ground.phase }, { on := 3, ground := Ground.phase }, { on := 4, ground := Ground.phase }, { on := 5, ground := Ground.phase }, { on := 6, ground := Ground.phase }, { on := 7, ground := Ground.phase }, { on := 8, ground := Ground.phase }, { on := 9, ground := Ground.phase }, { on := 10, ground := Ground.phase }, { on := 11, ground := Ground.phase }, { on := 12, ground := Ground.phase }, { on := 13, ground := Ground.phase }, { on := 14, ground := Ground.phase }, { on := 15, ground := Ground.phase }], guard := none }
@[reducible] def mf17 : Oper := { dst := some 145, op := Op.fieldAddr 53 (Operand.tmp 144) 1, type := 0, pos := "outright.go:213", after := #[{ on := 16, ground := Ground.data }, { on := 0, ground := Ground.phase }, { on := 1, ground := Ground.phase }, { on := 2, ground := Ground.phase }, { on := 3, ground := Ground.phase }, { on := 4, ground := Ground.phase }, { on := 5, ground := Ground.phase }, { on := 6, ground := Ground.phase }, { on := 7, ground := Ground.phase }, { on := 8, ground := Ground.phase }, { on := 9, ground := Ground.phase }, { on := 10, ground := Ground.phase }, { on := 11, ground := Ground.phase }, { on := 12, ground := Ground.phase }, { on := 13, ground := Ground.phase }, { on := 14, ground := Ground.phase }, { on := 15, ground := Ground.phase }], guard := none }
@[reducible] def mf18 : Oper := { dst := some 146, op := Op.fieldAddr 28 (Operand.tmp 145) 1, type := 0, pos := "outright.go:213", after := #[{ on := 17, ground := Ground.data }, { on := 0, ground := Ground.phase }, { on := 1, ground := Ground.phase }, { on := 2, ground := Ground.phase }, { on := 3, ground := Ground.phase }, { on := 4, ground := Ground.phase }, { on := 5, ground := Ground.phase }, { on := 6, ground := Ground.phase }, { on := 7, ground := Ground.phase }, { on := 8, ground := Ground.phase }, { on := 9, ground := Ground.phase }, { on := 10, ground := Ground.phase }, { on := 11, ground := Ground.phase }, { on := 12, ground := Ground.phase }, { on := 13, ground := Ground.phase }, { on := 14, ground := Ground.phase }, { on := 15, ground := Ground.phase }], guard := none }
@[reducible] def mf19 : Oper := { dst := none, op := Op.store 3 (Operand.tmp 146) (Operand.tmp 143), type := 0, pos := "outright.go:213", after := #[{ on := 18, ground := Ground.data }, { on := 15, ground := Ground.data }, { on := 0, ground := Ground.phase }, { on := 1, ground := Ground.phase }, { on := 2, ground := Ground.phase }, { on := 3, ground := Ground.phase }, { on := 4, ground := Ground.phase }, { on := 5, ground := Ground.phase }, { on := 6, ground := Ground.phase }, { on := 7, ground := Ground.phase }, { on := 8, ground := Ground.phase }, { on := 9, ground := Ground.phase }, { on := 10, ground := Ground.phase }, { on := 11, ground := Ground.phase }, { on := 12, ground := Ground.phase }, { on := 13, ground := Ground.phase }, { on := 14, ground := Ground.phase }, { on := 15, ground := Ground.phase }], guard := none }
@[reducible] def mfOps : List Oper := [mf0, mf1, mf2, mf3, mf4, mf5, mf6, mf7, mf8, mf9, mf10, mf11, mf12, mf13, mf14, mf15, mf16, mf17, mf18, mf19]
@[reducible] def mfDs : List (Nat × Nat) := [(0, 128), (1, 129), (2, 130), (3, 131), (4, 132), (5, 133), (6, 134), (7, 135), (8, 136), (9, 137), (10, 138), (11, 139), (12, 140), (13, 141), (14, 142), (15, 143), (16, 144), (17, 145), (18, 146)]
theorem mfB : lowB mfOps = true := by kernel_rfl
theorem mfOk : slotsB mfOps mfDs 256 = true := by decide +kernel
@[reducible] def mfC (g f u t : Nat) (p0 p1 mx : Int) : Nat → Value := fun idx => ([Value.pointer (some ⟨g, f, none⟩), Value.pointer (some ⟨g, f, none⟩), Value.pointer (some ⟨g, f, none⟩), Value.pointer (some ⟨g, f + 2, none⟩), Value.pointer (some ⟨g, f + 2, none⟩), Value.int .i64 (p0), Value.pointer (some ⟨g, f, none⟩), Value.pointer (some ⟨g, f, none⟩), Value.pointer (some ⟨g, f + 2, none⟩), Value.pointer (some ⟨g, f + 3, none⟩), Value.int .i64 (p1), Value.int .u8 u, Value.int .i64 (u), Value.int .i64 (t), Value.int .i64 (p1 - t), Value.int .i64 (mx), Value.pointer (some ⟨g, f, none⟩), Value.pointer (some ⟨g, f + 2, none⟩), Value.pointer (some ⟨g, f + 3, none⟩), undef] : List Value).getD idx undef
theorem mfG (g f u t : Nat) (p0 p1 mx : Int) : guardsC mfOps (mfC g f u t p0 p1 mx) = true := by kernel_rfl
set_option maxRecDepth 100000 in
set_option maxHeartbeats 4000000 in
theorem region_mf {rid : Nat} {Q : Exit → Act → World → Prop} {a0 : Act} {w : World} {g f u t : Nat} {p0 p1 mx : Int} (hsz : a0.tmps.size = 256) (x3 : a0.eval (.tmp 3) = Value.int .u8 u) (x17 : a0.eval (.tmp 17) = Value.pointer (some ⟨g, f, none⟩))
    (F0 : ∀ W', Mod noB w W' → W'.cell? ⟨g, f + 2, none⟩ = some (.int .i64 p0)) (F1 : ∀ W', Mod noB w W' → W'.cell? ⟨g, f + 3, none⟩ = some (.int .i64 p1)) (HB : ∀ W', Mod noB w W' → ∃ cs ty u0, W'.heap[g]? = some (.cells cs ty) ∧ cs[f + 3]? = some u0) (hr : Int.tmod (u : Int) 3 = (t : Int)) (hu : u ≤ 255) (ht : t ≤ 255) (h0 : 0 ≤ p0 ∧ p0 ≤ 10000) (h1 : 0 ≤ p1 ∧ p1 ≤ 10000) (hmx : max p0 (p1 - t) = mx)
    (hend : ∀ w', Mod noB w w' → Q .normal (mfDs.foldl (fun a x => a.put (some x.2) (mfC g f u t p0 p1 mx x.1)) a0) (w'.setCell ⟨g, f + 3, none⟩ (Value.int .i64 (mx)))) : (Code.region rid mfOps.toArray true).wp Tryd.prog Q a0 w := by
  refine region_knownS mfB mfDs hsz mfOk (mfC g f u t p0 p1 mx) (mfG g f u t p0 p1 mx) 19 mf19 rfl rfl rfl rfl (by kernel_rfl) ⟨g, f + 3, none⟩ (Value.int .i64 (mx)) ?_ ?_ hend
  · intro i o ρ w' hi ho hM kn far
    rcases (by omega : i = 0 ∨ i = 1 ∨ i = 2 ∨ i = 3 ∨ i = 4 ∨ i = 5 ∨ i = 6 ∨ i = 7 ∨ i = 8 ∨ i = 9 ∨ i = 10 ∨ i = 11 ∨ i = 12 ∨ i = 13 ∨ i = 14 ∨ i = 15 ∨ i = 16 ∨ i = 17 ∨ i = 18) with rfl | rfl | rfl | rfl | rfl | rfl | rfl | rfl | rfl | rfl | rfl | rfl | rfl | rfl | rfl | rfl | rfl | rfl | rfl
    all_goals (obtain rfl := Option.some.inj ho)
    · have e17 : ρ.eval (.tmp 17) = Value.pointer (some ⟨g, f, none⟩) := (far 17 (by decide +kernel)).trans x17
      exact step_run rfl _ _ (run_move rfl e17) ⟨rfl, Mod.refl _ _⟩
    · have e17 : ρ.eval (.tmp 17) = Value.pointer (some ⟨g, f, none⟩) := (far 17 (by decide +kernel)).trans x17
      exact step_run rfl _ _ (run_move rfl e17) ⟨rfl, Mod.refl _ _⟩
    · have e129 : ρ.eval (.tmp 129) = Value.pointer (some ⟨g, f, none⟩) := kn 1 129 (by decide +kernel) (by decide +kernel)
      refine step_run rfl (Value.pointer (some ⟨g, f, none⟩)) _ ?_ ⟨rfl, Mod.refl _ _⟩
      simp only [execOp, e129]
      go_simp
    · have e130 : ρ.eval (.tmp 130) = Value.pointer (some ⟨g, f, none⟩) := kn 2 130 (by decide +kernel) (by decide +kernel)
      refine step_run rfl (Value.pointer (some ⟨g, f + 2, none⟩)) _ ?_ ⟨rfl, Mod.refl _ _⟩
      simp only [execOp, e130]
      go_simp
    · have e131 : ρ.eval (.tmp 131) = Value.pointer (some ⟨g, f + 2, none⟩) := kn 3 131 (by decide +kernel) (by decide +kernel)
      refine step_run rfl (Value.pointer (some ⟨g, f + 2, none⟩)) _ ?_ ⟨rfl, Mod.refl _ _⟩
      simp only [execOp, e131]
      go_simp
    · have e132 : ρ.eval (.tmp 132) = Value.pointer (some ⟨g, f + 2, none⟩) := kn 4 132 (by decide +kernel) (by decide +kernel)
      have c := F0 _ hM
      refine step_run rfl (Value.int .i64 (p0)) _ ?_ ⟨rfl, Mod.refl _ _⟩
      simp only [execOp, e132]
      go_simp
    · have e17 : ρ.eval (.tmp 17) = Value.pointer (some ⟨g, f, none⟩) := (far 17 (by decide +kernel)).trans x17
      exact step_run rfl _ _ (run_move rfl e17) ⟨rfl, Mod.refl _ _⟩
    · have e134 : ρ.eval (.tmp 134) = Value.pointer (some ⟨g, f, none⟩) := kn 6 134 (by decide +kernel) (by decide +kernel)
      refine step_run rfl (Value.pointer (some ⟨g, f, none⟩)) _ ?_ ⟨rfl, Mod.refl _ _⟩
      simp only [execOp, e134]
      go_simp
    · have e135 : ρ.eval (.tmp 135) = Value.pointer (some ⟨g, f, none⟩) := kn 7 135 (by decide +kernel) (by decide +kernel)
      refine step_run rfl (Value.pointer (some ⟨g, f + 2, none⟩)) _ ?_ ⟨rfl, Mod.refl _ _⟩
      simp only [execOp, e135]
      go_simp
    · have e136 : ρ.eval (.tmp 136) = Value.pointer (some ⟨g, f + 2, none⟩) := kn 8 136 (by decide +kernel) (by decide +kernel)
      refine step_run rfl (Value.pointer (some ⟨g, f + 3, none⟩)) _ ?_ ⟨rfl, Mod.refl _ _⟩
      simp only [execOp, e136]
      go_simp
    · have e137 : ρ.eval (.tmp 137) = Value.pointer (some ⟨g, f + 3, none⟩) := kn 9 137 (by decide +kernel) (by decide +kernel)
      have c := F1 _ hM
      refine step_run rfl (Value.int .i64 (p1)) _ ?_ ⟨rfl, Mod.refl _ _⟩
      simp only [execOp, e137]
      go_simp
    · have e3 : ρ.eval (.tmp 3) = Value.int .u8 u := (far 3 (by decide +kernel)).trans x3
      exact step_run rfl _ _ (run_move rfl e3) ⟨rfl, Mod.refl _ _⟩
    · have e139 : ρ.eval (.tmp 139) = Value.int .u8 u := kn 11 139 (by decide +kernel) (by decide +kernel)
      exact step_run rfl _ _ (run_conv5N rfl e139 hu) ⟨rfl, Mod.refl _ _⟩
    · have e140 : ρ.eval (.tmp 140) = Value.int .i64 (u) := kn 12 140 (by decide +kernel) (by decide +kernel)
      exact step_run rfl _ _ (run_remN (m := 3) rfl e140 rfl (by omega) hr (by omega)) ⟨rfl, Mod.refl _ _⟩
    · have e138 : ρ.eval (.tmp 138) = Value.int .i64 (p1) := kn 10 138 (by decide +kernel) (by decide +kernel)
      have e141 : ρ.eval (.tmp 141) = Value.int .i64 (t) := kn 13 141 (by decide +kernel) (by decide +kernel)
      exact step_run rfl _ _ (run_sub rfl e138 e141 rfl (by omega) (by omega)) ⟨rfl, Mod.refl _ _⟩
    · have e133 : ρ.eval (.tmp 133) = Value.int .i64 (p0) := kn 5 133 (by decide +kernel) (by decide +kernel)
      have e142 : ρ.eval (.tmp 142) = Value.int .i64 (p1 - t) := kn 14 142 (by decide +kernel) (by decide +kernel)
      exact step_run rfl _ _ (run_max rfl e133 e142 hmx) ⟨rfl, Mod.refl _ _⟩
    · have e128 : ρ.eval (.tmp 128) = Value.pointer (some ⟨g, f, none⟩) := kn 0 128 (by decide +kernel) (by decide +kernel)
      refine step_run rfl (Value.pointer (some ⟨g, f, none⟩)) _ ?_ ⟨rfl, Mod.refl _ _⟩
      simp only [execOp, e128]
      go_simp
    · have e144 : ρ.eval (.tmp 144) = Value.pointer (some ⟨g, f, none⟩) := kn 16 144 (by decide +kernel) (by decide +kernel)
      refine step_run rfl (Value.pointer (some ⟨g, f + 2, none⟩)) _ ?_ ⟨rfl, Mod.refl _ _⟩
      simp only [execOp, e144]
      go_simp
    · have e145 : ρ.eval (.tmp 145) = Value.pointer (some ⟨g, f + 2, none⟩) := kn 17 145 (by decide +kernel) (by decide +kernel)
      refine step_run rfl (Value.pointer (some ⟨g, f + 3, none⟩)) _ ?_ ⟨rfl, Mod.refl _ _⟩
      simp only [execOp, e145]
      go_simp
  · intro ρ w' hM kn far
    have e1 : ρ.eval (.tmp 146) = Value.pointer (some ⟨g, f + 3, none⟩) := kn 18 146 (by decide +kernel) (by decide +kernel)
    have e2 : ρ.eval (.tmp 143) = Value.int .i64 (mx) := kn 15 143 (by decide +kernel) (by decide +kernel)
    obtain ⟨cs, ty, u0, h1, h2⟩ := HB w' hM
    exact step_store3 rfl rfl e1 e2 h1 h2 ⟨rfl, rfl⟩
end Go.Proofs.YtdncppempgpooaaDoor

/- RuleMore: the three pairs that ask no more: a better blade, a greater bound, better stints. -/
namespace Go.Proofs.YtdncppempgpooaaDoor
open Go.RowKit

def sharpB (x : Bld) (t5 t3 : Nat) : Bld := ⟨(x.f.1, max x.f.1 (x.f.2 - t5)), (x.w.1, max x.w.1 (x.w.2 - t3))⟩
@[reducible] def sharpD (d : Dye) (w t5 t3 : Nat) : Dye := { d with bl := d.bl.set w (sharpB (bladeAt d w) t5 t3) }
@[reducible] def looseD (d : Dye) (u : Nat) : Dye := { d with bound := min 100000 (d.bound + u) }
def shortS (t4 t6 : Nat) (s : Int × Int) : Int × Int := (max 1 (s.1 - t4), min 100000 (s.2 + t6))
theorem sharp_at {d : Dye} {w t5 t3 : Nat} (hw : w < d.bl.length) (k : Nat) : bladeAt (sharpD d w t5 t3) k = if k = w then sharpB (bladeAt d w) t5 t3 else bladeAt d k := by
  show ((d.bl.set w (sharpB (bladeAt d w) t5 t3))[k]?).getD ⟨(0, 0), (0, 0)⟩ = if k = w then sharpB (bladeAt d w) t5 t3 else (d.bl[k]?).getD ⟨(0, 0), (0, 0)⟩
  generalize sharpB (bladeAt d w) t5 t3 = y
  simp only [List.getElem?_set]
  by_cases h : w = k
  · subst h; simp [hw]
  · rw [if_neg h, if_neg (fun e => h e.symm)]
theorem stints_pos {l : List (Int × Int)} (hs : stintsB l = true) : ∀ s ∈ l, (1 ≤ s.1 ∧ s.1 ≤ 1000) ∧ 0 ≤ s.2 ∧ s.2 ≤ 100000 := fun s h => by
  simp only [stintsB, Bool.and_eq_true, List.all_eq_true] at hs
  have := hs.2 s h
  simp only [stintB, fromB, Bool.and_eq_true, decide_eq_true_eq] at this
  exact this
theorem sharp_more {d : Dye} {l : List (Int × Int)} {w t5 t3 : Nat} (hd : dieB d = true) (hs : stintsB l = true) (hw : w < d.bl.length) : More (sharpD d w t5 t3) d l l := by
  obtain ⟨_, hbs, _⟩ := dieB_parts hd
  have hb : ∀ k, k < d.bl.length → (0 ≤ (bladeAt d k).f.1 ∧ (bladeAt d k).f.1 ≤ (bladeAt d k).f.2) ∧ 0 ≤ (bladeAt d k).w.1 ∧ (bladeAt d k).w.1 ≤ (bladeAt d k).w.2 := fun k hk => by
    have := hbs _ (List.mem_of_getElem? (bladeAt_some hk)); omega
  refine ⟨⟨fun k hk => by simpa using hk, Int.le_refl _, fun k hk => ?_, fun k hk => ?_, fun k hk => ?_⟩, by simp, rfl, rfl, softL_refl fun s h => by have := stints_pos hs s h; omega⟩
  all_goals
    have hk' : k < d.bl.length := by simpa using hk
    have h1 := hb k hk'
    have h2 := hb w hw
    rw [sharp_at hw]
    by_cases h : k = w
    · subst h
      simp only [if_true, sharpB, id]
      omega
    · simp only [if_neg h, id]
      omega
theorem sharp_die {d : Dye} {w t5 t3 : Nat} (hd : dieB d = true) (hw : w < d.bl.length) : dieB (sharpD d w t5 t3) = true := by
  obtain ⟨_, hbs, _⟩ := dieB_parts hd
  have h2 := hbs _ (List.mem_of_getElem? (bladeAt_some hw))
  simp only [dieB, fromB, Bool.and_eq_true, decide_eq_true_eq, List.all_eq_true] at hd ⊢
  obtain ⟨⟨⟨⟨h1, h3⟩, h4⟩, h5⟩, h6⟩ := hd
  refine ⟨⟨⟨⟨by simpa using h1, fun b hb => ?_⟩, h4⟩, h5⟩, h6⟩
  rcases List.mem_or_eq_of_mem_set hb with hb | rfl
  · exact h3 b hb
  · simp only [bladeB, awayB, Bool.and_eq_true, decide_eq_true_eq]
    simp only [sharpB]
    omega
theorem loose_more {d : Dye} {l : List (Int × Int)} {u : Nat} (hd : dieB d = true) (hs : stintsB l = true) : More (looseD d u) d l l := by
  obtain ⟨_, hbs, ⟨b1, b2⟩, _⟩ := dieB_parts hd
  exact ⟨⟨fun k hk => hk, by show d.bound ≤ min 100000 (d.bound + u); omega, fun k _ => Int.le_refl _, fun k hk => by have := hbs _ (List.mem_of_getElem? (bladeAt_some hk)); show 0 ≤ (bladeAt d k).w.2; omega, fun k _ => Int.le_refl _⟩, rfl, rfl, rfl, softL_refl fun s h => by have := stints_pos hs s h; omega⟩
theorem loose_die {d : Dye} {u : Nat} (hd : dieB d = true) : dieB (looseD d u) = true := by
  simp only [dieB, fromB, Bool.and_eq_true, decide_eq_true_eq] at hd ⊢
  obtain ⟨⟨⟨⟨h1, h3⟩, h4⟩, h5⟩, h6⟩ := hd
  exact ⟨⟨⟨⟨h1, h3⟩, by show 0 ≤ min 100000 (d.bound + u) ∧ min 100000 (d.bound + u) ≤ 100000; omega⟩, h5⟩, h6⟩
theorem short_softL {t4 t6 : Nat} : ∀ {l : List (Int × Int)}, (∀ s ∈ l, (1 ≤ s.1 ∧ s.1 ≤ 1000) ∧ 0 ≤ s.2 ∧ s.2 ≤ 100000) → SoftL (l.map (shortS t4 t6)) l := by
  intro l
  induction l with
  | nil => intro _; trivial
  | cons a l ih =>
    intro h
    have ha := h a (by simp)
    refine ⟨?_, ih fun s hs => h s (by simp [hs])⟩
    simp only [SoftS, shortS]
    omega
theorem short_more {d : Dye} {l : List (Int × Int)} {t4 t6 : Nat} (hd : dieB d = true) (hs : stintsB l = true) : More d d (l.map (shortS t4 t6)) l := by
  obtain ⟨_, hbs, _⟩ := dieB_parts hd
  exact ⟨soft_refl fun b hb => by have := hbs b hb; omega, rfl, rfl, rfl, short_softL (stints_pos hs)⟩
theorem short_stints {l : List (Int × Int)} {t4 t6 : Nat} (hs : stintsB l = true) : stintsB (l.map (shortS t4 t6)) = true := by
  have hp := stints_pos hs
  simp only [stintsB, Bool.and_eq_true, List.all_eq_true, decide_eq_true_eq] at hs ⊢
  refine ⟨by simpa using hs.1, fun x hx => ?_⟩
  obtain ⟨s, h, rfl⟩ := List.mem_map.1 hx
  have := hp s h
  simp only [stintB, fromB, Bool.and_eq_true, decide_eq_true_eq]
  simp only [shortS]
  omega
end Go.Proofs.YtdncppempgpooaaDoor

/- A region that does not draw its order, each of whose operations yields a known value, and whose last one stores a known value at a known place. -/
namespace Go.Proofs.YtdncppempgpooaaDoor
open Go Go.RowKit Go.Shelf

theorem wpList_front {P : Program} {ops : Array Oper} {Q : Exit → Act → World → Prop} {o : Oper} {rest : List Oper} {a : Act} {w : World} (h : wpList P ops (only fun a' w' => wpList P ops Q rest a' w') [o] a w) : wpList P ops Q (o :: rest) a w := by
  unfold wpList at h ⊢
  split at h
  · rename_i hw
    rw [if_pos hw]
    rcases h with h | h
    · exact .inl (wp_only2 (fun a w h => h.2) h)
    · exact absurd h.2 only_lets
  · rename_i hw
    rw [if_neg hw]
    exact h.2
def dsOf : Nat → List Oper → List (Nat × Nat)
  | _, [] => []
  | k, o :: l => (match o.dst with | some s => [(k, s)] | none => []) ++ dsOf (k + 1) l
theorem put_far (a : Act) (o : Option Nat) (v : Value) {t : Nat} (h : o ≠ some t) : (a.put o v).eval (.tmp t) = a.eval (.tmp t) := by
  cases o with
  | none => rfl
  | some s => exact eval_put_ne _ (fun e => h (by rw [e])) _
theorem put_sizeO (a : Act) (o : Option Nat) (v : Value) : (a.put o v).tmps.size = a.tmps.size := by
  cases o with
  | none => rfl
  | some s => simp [Act.put]
theorem nodup_snd {ds : List (Nat × Nat)} (h : (ds.map Prod.snd).Nodup) {i j s : Nat} (h1 : (i, s) ∈ ds) (h2 : (j, s) ∈ ds) : i = j := by
  induction ds with
  | nil => cases h1
  | cons x ds ih =>
    simp only [List.map_cons, List.nodup_cons] at h
    rcases List.mem_cons.1 h1 with rfl | h1' <;> rcases List.mem_cons.1 h2 with e | h2'
    · rw [Prod.mk.injEq] at e; exact e.1.symm
    · exact absurd (List.mem_map.2 ⟨_, h2', rfl⟩) h.1
    · subst e; exact absurd (List.mem_map.2 ⟨_, h1', rfl⟩) h.1
    · exact ih h.2 h1' h2'
theorem nodup_fst {ds : List (Nat × Nat)} (h : (ds.map Prod.fst).Nodup) {i s t : Nat} (h1 : (i, s) ∈ ds) (h2 : (i, t) ∈ ds) : s = t := by
  induction ds with
  | nil => cases h1
  | cons x ds ih =>
    simp only [List.map_cons, List.nodup_cons] at h
    rcases List.mem_cons.1 h1 with rfl | h1' <;> rcases List.mem_cons.1 h2 with e | h2'
    · rw [Prod.mk.injEq] at e; exact e.2.symm
    · exact absurd (List.mem_map.2 ⟨_, h2', rfl⟩) h.1
    · subst e; exact absurd (List.mem_map.2 ⟨_, h1', rfl⟩) h.1
    · exact ih h.2 h1' h2'
theorem list_knownS {rid n : Nat} {Q : Exit → Act → World → Prop} {a0 : Act} {w : World} {l : List Oper} (ds : List (Nat × Nat)) (hsz : a0.tmps.size = n) (hok : slotsB l ds n = true) (hds : ds = dsOf 0 l) (hgd : l.all (fun o => o.guard.isNone) = true) (C : Nat → Value)
    (L : Nat) (oL : Oper) (hL : l[L]? = some oL) (hlen : l.length = L + 1) (hdst : oL.dst = none) (p : Addr) (x : Value)
    (hs : ∀ i o (ρ : Act) w', i < L → l[i]? = some o → Mod noB w w' → (∀ j s, j < i → (j, s) ∈ ds → ρ.eval (.tmp s) = C j) → (∀ s, s ∉ ds.map Prod.snd → ρ.eval (.tmp s) = a0.eval (.tmp s)) →
      wpList Tryd.prog l.toArray (only fun a' w2 => a' = ρ.put o.dst (C i) ∧ Mod noB w' w2) [{ o with guard := none }] ρ w')
    (hst : ∀ (ρ : Act) w', Mod noB w w' → (∀ j s, j < L → (j, s) ∈ ds → ρ.eval (.tmp s) = C j) → (∀ s, s ∉ ds.map Prod.snd → ρ.eval (.tmp s) = a0.eval (.tmp s)) →
      wpList Tryd.prog l.toArray (only fun a' w2 => a' = ρ.put oL.dst undef ∧ w2 = w'.setCell p x) [oL] ρ w')
    (hend : ∀ w', Mod noB w w' → Q .normal (ds.foldl (fun a x => a.put (some x.2) (C x.1)) a0) (w'.setCell p x)) : (Code.region rid l.toArray false).wp Tryd.prog Q a0 w := by
  simp only [slotsB, Bool.and_eq_true, decide_eq_true_eq, List.all_eq_true, List.mem_range] at hok
  obtain ⟨⟨⟨n1, n2⟩, n3⟩, n4⟩ := hok
  have hin : ∀ i o s, l[i]? = some o → o.dst = some s → (i, s) ∈ ds := fun i o s ho hd => by
    have := n4 i (List.getElem?_eq_some_iff.1 ho).1
    simpa [ho, hd] using this
  refine wp_region_lit ?_
  have aux : ∀ (rest : List Oper) (k : Nat) (ρ : Act) (w' : World), (∀ i, rest[i]? = l[k + i]?) → k ≤ L → Mod noB w w' → (∀ j s, j < k → (j, s) ∈ ds → ρ.eval (.tmp s) = C j) → (∀ s, s ∉ ds.map Prod.snd → ρ.eval (.tmp s) = a0.eval (.tmp s)) → ρ.tmps.size = n → (dsOf k rest).foldl (fun a x => a.put (some x.2) (C x.1)) ρ = ds.foldl (fun a x => a.put (some x.2) (C x.1)) a0 → wpList Tryd.prog l.toArray Q rest ρ w' := by
    intro rest
    induction rest with
    | nil =>
      intro k ρ w' hr hk
      have := hr 0
      rw [List.getElem?_nil, eq_comm, List.getElem?_eq_none_iff] at this
      omega
    | cons o rest ih =>
      intro k ρ w' hr hk hM kn far hz hfin
      have ho : l[k]? = some o := by have := hr 0; simpa using this.symm
      by_cases hkL : k = L
      · subst hkL
        obtain rfl := Option.some.inj (hL.symm.trans ho)
        have hre : rest = [] := by
          cases rest with
          | nil => rfl
          | cons o' rest' =>
            have := hr 1
            have h2 := (List.getElem?_eq_some_iff.1 (by simpa using this.symm : l[k + 1]? = some o')).1
            omega
        subst hre
        refine wpList_front (wpList_mono1W ?_ (hst ρ w' hM kn far))
        rintro a' w2 ⟨rfl, rfl⟩
        simp only [dsOf, hdst, List.nil_append, List.foldl_nil] at hfin
        rw [hdst]
        subst hfin
        exact hend w' hM
      · have hog : o.guard = none := by
          have := List.all_eq_true.1 hgd o (List.mem_of_getElem? ho)
          cases h : o.guard with
          | none => rfl
          | some y => rw [h] at this; cases this
        have he : ({ o with guard := none } : Oper) = o := by cases o; simp only at hog; rw [hog]
        have h1 := hs k o ρ w' (by omega) ho hM kn far
        rw [he] at h1
        refine wpList_front (wpList_mono1W ?_ h1)
        rintro a' w2 ⟨rfl, hm⟩
        refine ih (k + 1) _ w2 (fun i => by have := hr (i + 1); rw [List.getElem?_cons_succ] at this; rw [this]; congr 1; omega) (by omega) (hM.trans hm) (fun j s hj hm' => ?_) (fun s hns => ?_) (by rw [put_sizeO]; exact hz) ?_
        · by_cases hjk : j = k
          · subst hjk
            cases hd : o.dst with
            | none =>
              have := n4 j (List.getElem?_eq_some_iff.1 ho).1
              simp only [ho, hd] at this
              exact absurd (List.mem_map.2 ⟨_, hm', rfl⟩ : j ∈ ds.map Prod.fst) (of_decide_eq_true this)
            | some t =>
              have h2 := hin j o t ho hd
              obtain rfl := nodup_fst n1 hm' h2
              exact eval_put_eq _ (by rw [hz]; exact (n3 _ hm').1) _
          · rw [put_far _ _ _ (fun hd => hjk (nodup_snd n2 hm' (hin k o s ho hd)))]
            exact kn j s (by omega) hm'
        · rw [put_far _ _ _ (fun hd => hns (List.mem_map.2 ⟨_, hin k o s ho hd, rfl⟩))]
          exact far s hns
        · rw [← hfin]
          cases hd : o.dst with
          | none => simp only [dsOf, hd, List.nil_append]; rfl
          | some t => simp only [dsOf, hd, List.cons_append, List.nil_append, List.foldl_cons]
  exact aux l 0 a0 w (fun i => by rw [Nat.zero_add]) (Nat.zero_le _) (Mod.refl _ _) (fun j s hj => by omega) (fun s _ => rfl) hsz (by rw [← hds])
end Go.Proofs.YtdncppempgpooaaDoor

/- RuleMore: the region that makes the bound greater, those that make a stint less. (The operations, and a step for each: written by wip/tools.) -/
namespace Go.Proofs.YtdncppempgpooaaDoor
open Go Go.RowKit Go.Shelf

theorem run_minC {o : Oper} {a : Act} {w : World} {r : Nat} {A B C : Int} (hop : o.op = .call { callee := Callee.builtin Builtin.min, args := #[.const (.int .i64 A), .tmp r], argTypes := #[3, 3] }) (hy : a.eval (.tmp r) = .int .i64 B) (hC : min A B = C) : (execOp a.eval o).run Tryd.prog w = .ok (.value (.int .i64 C)) w := by
  have q2 : a.tmps[r]?.getD undef = .int .i64 B := by simpa [Act.eval] using hy
  subst hC
  by_cases h : B < A
  · have h' : min A B = B := by omega
    rw [h']
    simp only [execOp, hop]
    go_simp
    try omega
  · have h' : min A B = A := by omega
    rw [h']
    simp only [execOp, hop]
    go_simp
    try omega
theorem run_maxC {o : Oper} {a : Act} {w : World} {r : Nat} {A B C : Int} (hop : o.op = .call { callee := Callee.builtin Builtin.max, args := #[.const (.int .i64 A), .tmp r], argTypes := #[3, 3] }) (hy : a.eval (.tmp r) = .int .i64 B) (hC : max A B = C) : (execOp a.eval o).run Tryd.prog w = .ok (.value (.int .i64 C)) w := by
  have q2 : a.tmps[r]?.getD undef = .int .i64 B := by simpa [Act.eval] using hy
  subst hC
  by_cases h : A < B
  · have h' : max A B = B := by omega
    rw [h']
    simp only [execOp, hop]
    go_simp
    try omega
  · have h' : max A B = A := by omega
    rw [h']
    simp only [execOp, hop]
    go_simp
    try omega
@[reducible] def mg0 : Oper := { dst := some 147, op := Op.fieldAddr 24 (Operand.tmp 4) 1, type := 0, pos := "outright.go:214", after := #[], guard := none }
@[reducible] def mg1 : Oper := { dst := some 148, op := Op.load 3 (Operand.tmp 147), type := 3, pos := "outright.go:214", after := #[{ on := 0, ground := Ground.data }], guard := none }
@[reducible] def mg2 : Oper := { dst := some 149, op := Op.move (Operand.tmp 3), type := 5, pos := "outright.go:214", after := #[], guard := none }
@[reducible] def mg3 : Oper := { dst := some 150, op := Op.convert 5 3 (Operand.tmp 149), type := 3, pos := "outright.go:214", after := #[{ on := 2, ground := Ground.data }], guard := none }
@[reducible] def mg4 : Oper := { dst := some 151, op := Op.binOp BinOp.add 3 (Operand.tmp 148) (Operand.tmp 150) 3, type := 3, pos := "outright.go:214", after := #[{ on := 1, ground := Ground.data }, { on := 3, ground := Ground.data }], guard := none }
@[reducible] def mg5 : Oper := { dst := some 152, op := Op.call { callee := Callee.builtin Builtin.min, args := #[Operand.const (Value.int IntKind.i64 100000), Operand.tmp 151], argTypes := #[3, 3] }, type := 3, pos := "outright.go:214", after := #[{ on := 4, ground := Ground.data }], guard := none }
@[reducible] def mg6 : Oper := { dst := some 153, op := Op.fieldAddr 24 (Operand.tmp 16) 1, type := 0, pos := "outright.go:214", after := #[{ on := 0, ground := Ground.phase }, { on := 1, ground := Ground.phase }, { on := 2, ground := Ground.phase }, { on := 3, ground := Ground.phase }, { on := 4, ground := Ground.phase }, { on := 5, ground := Ground.phase }], guard := none }
@[reducible] def mg7 : Oper := { dst := none, op := Op.store 3 (Operand.tmp 153) (Operand.tmp 152), type := 0, pos := "outright.go:214", after := #[{ on := 6, ground := Ground.data }, { on := 5, ground := Ground.data }, { on := 0, ground := Ground.phase }, { on := 1, ground := Ground.phase }, { on := 2, ground := Ground.phase }, { on := 3, ground := Ground.phase }, { on := 4, ground := Ground.phase }, { on := 5, ground := Ground.phase }], guard := none }
@[reducible] def mgOps : List Oper := [mg0, mg1, mg2, mg3, mg4, mg5, mg6, mg7]
@[reducible] def mgDs : List (Nat × Nat) := [(0, 147), (1, 148), (2, 149), (3, 150), (4, 151), (5, 152), (6, 153)]
theorem mgD : mgDs = dsOf 0 mgOps := by kernel_rfl
theorem mgOk : slotsB mgOps mgDs 256 = true := by decide +kernel
@[reducible] def mgC (db eb u : Nat) (b mn : Int) : Nat → Value := fun idx => ([Value.pointer (some ⟨db, 1, none⟩), Value.int .i64 (b), Value.int .u8 u, Value.int .i64 (u), Value.int .i64 (b + u), Value.int .i64 (mn), Value.pointer (some ⟨eb, 1, none⟩), undef] : List Value).getD idx undef
set_option maxRecDepth 100000 in
set_option maxHeartbeats 4000000 in
theorem region_mg {rid : Nat} {Q : Exit → Act → World → Prop} {a0 : Act} {w : World} {db eb u : Nat} {b mn : Int} (hsz : a0.tmps.size = 256) (x3 : a0.eval (.tmp 3) = Value.int .u8 u) (x4 : a0.eval (.tmp 4) = Value.pointer (some ⟨db, 0, none⟩)) (x16 : a0.eval (.tmp 16) = Value.pointer (some ⟨eb, 0, none⟩))
    (F0 : ∀ W', Mod noB w W' → W'.cell? ⟨db, 1, none⟩ = some (.int .i64 b)) (HB : ∀ W', Mod noB w W' → ∃ cs ty u0, W'.heap[eb]? = some (.cells cs ty) ∧ cs[1]? = some u0) (hu : u ≤ 255) (hb : 0 ≤ b ∧ b ≤ 100000) (hmn : min 100000 (b + u) = mn)
    (hend : ∀ w', Mod noB w w' → Q .normal (mgDs.foldl (fun a x => a.put (some x.2) (mgC db eb u b mn x.1)) a0) (w'.setCell ⟨eb, 1, none⟩ (Value.int .i64 (mn)))) : (Code.region rid mgOps.toArray false).wp Tryd.prog Q a0 w := by
  refine list_knownS mgDs hsz mgOk mgD rfl (mgC db eb u b mn) 7 mg7 rfl rfl rfl ⟨eb, 1, none⟩ (Value.int .i64 (mn)) ?_ ?_ hend
  · intro j o ρ w' hi ho hM kn far
    rcases (by omega : j = 0 ∨ j = 1 ∨ j = 2 ∨ j = 3 ∨ j = 4 ∨ j = 5 ∨ j = 6) with rfl | rfl | rfl | rfl | rfl | rfl | rfl
    all_goals (obtain rfl := Option.some.inj ho)
    · have e4 : ρ.eval (.tmp 4) = Value.pointer (some ⟨db, 0, none⟩) := (far 4 (by decide +kernel)).trans x4
      refine step_run rfl (Value.pointer (some ⟨db, 1, none⟩)) _ ?_ ⟨rfl, Mod.refl _ _⟩
      simp only [execOp, e4]
      go_simp
    · have e147 : ρ.eval (.tmp 147) = Value.pointer (some ⟨db, 1, none⟩) := kn 0 147 (by decide +kernel) (by decide +kernel)
      have c := F0 _ hM
      refine step_run rfl (Value.int .i64 (b)) _ ?_ ⟨rfl, Mod.refl _ _⟩
      simp only [execOp, e147]
      go_simp
    · have e3 : ρ.eval (.tmp 3) = Value.int .u8 u := (far 3 (by decide +kernel)).trans x3
      exact step_run rfl _ _ (run_move rfl e3) ⟨rfl, Mod.refl _ _⟩
    · have e149 : ρ.eval (.tmp 149) = Value.int .u8 u := kn 2 149 (by decide +kernel) (by decide +kernel)
      exact step_run rfl _ _ (run_conv5N rfl e149 hu) ⟨rfl, Mod.refl _ _⟩
    · have e148 : ρ.eval (.tmp 148) = Value.int .i64 (b) := kn 1 148 (by decide +kernel) (by decide +kernel)
      have e150 : ρ.eval (.tmp 150) = Value.int .i64 (u) := kn 3 150 (by decide +kernel) (by decide +kernel)
      exact step_run rfl _ _ (run_add rfl e148 e150 rfl (by omega) (by omega)) ⟨rfl, Mod.refl _ _⟩
    · have e151 : ρ.eval (.tmp 151) = Value.int .i64 (b + u) := kn 4 151 (by decide +kernel) (by decide +kernel)
      exact step_run rfl _ _ (run_minC rfl e151 hmn) ⟨rfl, Mod.refl _ _⟩
    · have e16 : ρ.eval (.tmp 16) = Value.pointer (some ⟨eb, 0, none⟩) := (far 16 (by decide +kernel)).trans x16
      refine step_run rfl (Value.pointer (some ⟨eb, 1, none⟩)) _ ?_ ⟨rfl, Mod.refl _ _⟩
      simp only [execOp, e16]
      go_simp
  · intro ρ w' hM kn far
    have e1 : ρ.eval (.tmp 153) = Value.pointer (some ⟨eb, 1, none⟩) := kn 6 153 (by decide +kernel) (by decide +kernel)
    have e2 : ρ.eval (.tmp 152) = Value.int .i64 (mn) := kn 5 152 (by decide +kernel) (by decide +kernel)
    obtain ⟨cs, ty, u0, h1, h2⟩ := HB w' hM
    exact step_store3 rfl rfl e1 e2 h1 h2 ⟨rfl, rfl⟩
@[reducible] def mh0 : Oper := { dst := some 163, op := Op.move (Operand.tmp 18), type := 33, pos := "outright.go:217", after := #[], guard := none }
@[reducible] def mh1 : Oper := { dst := some 164, op := Op.move (Operand.tmp 19), type := 3, pos := "outright.go:217", after := #[], guard := none }
@[reducible] def mh2 : Oper := { dst := some 165, op := Op.move (Operand.tmp 18), type := 33, pos := "outright.go:217", after := #[], guard := none }
@[reducible] def mh3 : Oper := { dst := some 166, op := Op.move (Operand.tmp 19), type := 3, pos := "outright.go:217", after := #[], guard := none }
@[reducible] def mh4 : Oper := { dst := some 167, op := Op.indexAddr 33 (Operand.tmp 165) (Operand.tmp 166), type := 0, pos := "outright.go:217", after := #[{ on := 2, ground := Ground.data }, { on := 3, ground := Ground.data }], guard := none }
@[reducible] def mh5 : Oper := { dst := some 168, op := Op.fieldAddr 58 (Operand.tmp 167) 0, type := 0, pos := "outright.go:217", after := #[{ on := 4, ground := Ground.data }], guard := none }
@[reducible] def mh6 : Oper := { dst := some 169, op := Op.load 3 (Operand.tmp 168), type := 3, pos := "outright.go:217", after := #[{ on := 5, ground := Ground.data }], guard := none }
@[reducible] def mh7 : Oper := { dst := some 170, op := Op.move (Operand.tmp 3), type := 5, pos := "outright.go:217", after := #[], guard := none }
@[reducible] def mh8 : Oper := { dst := some 171, op := Op.convert 5 3 (Operand.tmp 170), type := 3, pos := "outright.go:217", after := #[{ on := 7, ground := Ground.data }], guard := none }
@[reducible] def mh9 : Oper := { dst := some 172, op := Op.binOp BinOp.rem 3 (Operand.tmp 171) (Operand.const (Value.int IntKind.i64 4)) 3, type := 3, pos := "outright.go:217", after := #[{ on := 8, ground := Ground.data }], guard := none }
@[reducible] def mh10 : Oper := { dst := some 173, op := Op.binOp BinOp.sub 3 (Operand.tmp 169) (Operand.tmp 172) 3, type := 3, pos := "outright.go:217", after := #[{ on := 6, ground := Ground.data }, { on := 9, ground := Ground.data }], guard := none }
@[reducible] def mh11 : Oper := { dst := some 174, op := Op.call { callee := Callee.builtin Builtin.max, args := #[Operand.const (Value.int IntKind.i64 1), Operand.tmp 173], argTypes := #[3, 3] }, type := 3, pos := "outright.go:217", after := #[{ on := 10, ground := Ground.data }], guard := none }
@[reducible] def mh12 : Oper := { dst := some 175, op := Op.indexAddr 33 (Operand.tmp 163) (Operand.tmp 164), type := 0, pos := "outright.go:217", after := #[{ on := 0, ground := Ground.data }, { on := 1, ground := Ground.data }, { on := 0, ground := Ground.phase }, { on := 1, ground := Ground.phase }, { on := 2, ground := Ground.phase }, { on := 3, ground := Ground.phase }, { on := 4, ground := Ground.phase }, { on := 5, ground := Ground.phase }, { on := 6, ground := Ground.phase }, { on := 7, ground := Ground.phase }, { on := 8, ground := Ground.phase }, { on := 9, ground := Ground.phase }, { on := 10, ground := Ground.phase }, { on := 11, ground := Ground.phase }], guard := none }
@[reducible] def mh13 : Oper := { dst := some 176, op := Op.fieldAddr 58 (Operand.tmp 175) 0, type := 0, pos := "outright.go:217", after := #[{ on := 12, ground := Ground.data }, { on := 0, ground := Ground.phase }, { on := 1, ground := Ground.phase }, { on := 2, ground := Ground.phase }, { on := 3, ground := Ground.phase }, { on := 4, ground := Ground.phase }, { on := 5, ground := Ground.phase }, { on := 6, ground := Ground.phase }, { on := 7, ground := Ground.phase }, { on := 8, ground := Ground.phase }, { on := 9, ground := Ground.phase }, { on := 10, ground := Ground.phase }, { on := 11, ground := Ground.phase }], guard := none }
@[reducible] def mh14 : Oper := { dst := none, op := Op.store 3 (Operand.tmp 176) (Operand.tmp 174), type := 0, pos := "outright.go:217", after := #[{ on := 13, ground := Ground.data }, { on := 11, ground := Ground.data }, { on := 0, ground := Ground.phase }, { on := 1, ground := Ground.phase }, { on := 2, ground := Ground.phase }, { on := 3, ground := Ground.phase }, { on := 4, ground := Ground.phase }, { on := 5, ground := Ground.phase }, { on := 6, ground := Ground.phase }, { on := 7, ground := Ground.phase }, { on := 8, ground := Ground.phase }, { on := 9, ground := Ground.phase }, { on := 10, ground := Ground.phase }, { on := 11, ground := Ground.phase }], guard := none }
@[reducible] def mhOps : List Oper := [mh0, mh1, mh2, mh3, mh4, mh5, mh6, mh7, mh8, mh9, mh10, mh11, mh12, mh13, mh14]
@[reducible] def mhDs : List (Nat × Nat) := [(0, 163), (1, 164), (2, 165), (3, 166), (4, 167), (5, 168), (6, 169), (7, 170), (8, 171), (9, 172), (10, 173), (11, 174), (12, 175), (13, 176)]
theorem mhD : mhDs = dsOf 0 mhOps := by kernel_rfl
theorem mhOk : slotsB mhOps mhDs 256 = true := by decide +kernel
@[reducible] def mhC (sg f n sc i u t : Nat) (q mx : Int) : Nat → Value := fun idx => ([Value.slice (some ⟨sg, f, none⟩) n sc, Value.int .i64 (i : Int), Value.slice (some ⟨sg, f, none⟩) n sc, Value.int .i64 (i : Int), Value.pointer (some ⟨sg, f + i * 2, none⟩), Value.pointer (some ⟨sg, f + i * 2, none⟩), Value.int .i64 (q), Value.int .u8 u, Value.int .i64 (u), Value.int .i64 (t), Value.int .i64 (q - t), Value.int .i64 (mx), Value.pointer (some ⟨sg, f + i * 2, none⟩), Value.pointer (some ⟨sg, f + i * 2, none⟩), undef] : List Value).getD idx undef
set_option maxRecDepth 100000 in
set_option maxHeartbeats 4000000 in
theorem region_mh {rid : Nat} {Q : Exit → Act → World → Prop} {a0 : Act} {w : World} {sg f n sc i u t : Nat} {q mx : Int} (hsz : a0.tmps.size = 256) (x3 : a0.eval (.tmp 3) = Value.int .u8 u) (x18 : a0.eval (.tmp 18) = Value.slice (some ⟨sg, f, none⟩) n sc) (x19 : a0.eval (.tmp 19) = Value.int .i64 (i : Int))
    (F0 : ∀ W', Mod noB w W' → W'.cell? ⟨sg, f + i * 2, none⟩ = some (.int .i64 q)) (HB : ∀ W', Mod noB w W' → ∃ cs ty u0, W'.heap[sg]? = some (.cells cs ty) ∧ cs[f + i * 2]? = some u0) (hi2 : i < n) (hr : Int.tmod (u : Int) 4 = (t : Int)) (hu : u ≤ 255) (ht : t ≤ 255) (hq : 0 ≤ q ∧ q ≤ 100000) (hmx : max 1 (q - t) = mx)
    (hend : ∀ w', Mod noB w w' → Q .normal (mhDs.foldl (fun a x => a.put (some x.2) (mhC sg f n sc i u t q mx x.1)) a0) (w'.setCell ⟨sg, f + i * 2, none⟩ (Value.int .i64 (mx)))) : (Code.region rid mhOps.toArray false).wp Tryd.prog Q a0 w := by
  refine list_knownS mhDs hsz mhOk mhD rfl (mhC sg f n sc i u t q mx) 14 mh14 rfl rfl rfl ⟨sg, f + i * 2, none⟩ (Value.int .i64 (mx)) ?_ ?_ hend
  · intro j o ρ w' hi ho hM kn far
    rcases (by omega : j = 0 ∨ j = 1 ∨ j = 2 ∨ j = 3 ∨ j = 4 ∨ j = 5 ∨ j = 6 ∨ j = 7 ∨ j = 8 ∨ j = 9 ∨ j = 10 ∨ j = 11 ∨ j = 12 ∨ j = 13) with rfl | rfl | rfl | rfl | rfl | rfl | rfl | rfl | rfl | rfl | rfl | rfl | rfl | rfl
    all_goals (obtain rfl := Option.some.inj ho)
    · have e18 : ρ.eval (.tmp 18) = Value.slice (some ⟨sg, f, none⟩) n sc := (far 18 (by decide +kernel)).trans x18
      exact step_run rfl _ _ (run_move rfl e18) ⟨rfl, Mod.refl _ _⟩
    · have e19 : ρ.eval (.tmp 19) = Value.int .i64 (i : Int) := (far 19 (by decide +kernel)).trans x19
      exact step_run rfl _ _ (run_move rfl e19) ⟨rfl, Mod.refl _ _⟩
    · have e18 : ρ.eval (.tmp 18) = Value.slice (some ⟨sg, f, none⟩) n sc := (far 18 (by decide +kernel)).trans x18
      exact step_run rfl _ _ (run_move rfl e18) ⟨rfl, Mod.refl _ _⟩
    · have e19 : ρ.eval (.tmp 19) = Value.int .i64 (i : Int) := (far 19 (by decide +kernel)).trans x19
      exact step_run rfl _ _ (run_move rfl e19) ⟨rfl, Mod.refl _ _⟩
    · have e165 : ρ.eval (.tmp 165) = Value.slice (some ⟨sg, f, none⟩) n sc := kn 2 165 (by decide +kernel) (by decide +kernel)
      have e166 : ρ.eval (.tmp 166) = Value.int .i64 (i : Int) := kn 3 166 (by decide +kernel) (by decide +kernel)
      exact step_run rfl _ _ (run_idx33 rfl e165 e166 hi2) ⟨rfl, Mod.refl _ _⟩
    · have e167 : ρ.eval (.tmp 167) = Value.pointer (some ⟨sg, f + i * 2, none⟩) := kn 4 167 (by decide +kernel) (by decide +kernel)
      refine step_run rfl (Value.pointer (some ⟨sg, f + i * 2, none⟩)) _ ?_ ⟨rfl, Mod.refl _ _⟩
      simp only [execOp, e167]
      go_simp
    · have e168 : ρ.eval (.tmp 168) = Value.pointer (some ⟨sg, f + i * 2, none⟩) := kn 5 168 (by decide +kernel) (by decide +kernel)
      have c := F0 _ hM
      refine step_run rfl (Value.int .i64 (q)) _ ?_ ⟨rfl, Mod.refl _ _⟩
      simp only [execOp, e168]
      go_simp
    · have e3 : ρ.eval (.tmp 3) = Value.int .u8 u := (far 3 (by decide +kernel)).trans x3
      exact step_run rfl _ _ (run_move rfl e3) ⟨rfl, Mod.refl _ _⟩
    · have e170 : ρ.eval (.tmp 170) = Value.int .u8 u := kn 7 170 (by decide +kernel) (by decide +kernel)
      exact step_run rfl _ _ (run_conv5N rfl e170 hu) ⟨rfl, Mod.refl _ _⟩
    · have e171 : ρ.eval (.tmp 171) = Value.int .i64 (u) := kn 8 171 (by decide +kernel) (by decide +kernel)
      exact step_run rfl _ _ (run_remN (m := 4) rfl e171 rfl (by omega) hr (by omega)) ⟨rfl, Mod.refl _ _⟩
    · have e169 : ρ.eval (.tmp 169) = Value.int .i64 (q) := kn 6 169 (by decide +kernel) (by decide +kernel)
      have e172 : ρ.eval (.tmp 172) = Value.int .i64 (t) := kn 9 172 (by decide +kernel) (by decide +kernel)
      exact step_run rfl _ _ (run_sub rfl e169 e172 rfl (by omega) (by omega)) ⟨rfl, Mod.refl _ _⟩
    · have e173 : ρ.eval (.tmp 173) = Value.int .i64 (q - t) := kn 10 173 (by decide +kernel) (by decide +kernel)
      exact step_run rfl _ _ (run_maxC rfl e173 hmx) ⟨rfl, Mod.refl _ _⟩
    · have e163 : ρ.eval (.tmp 163) = Value.slice (some ⟨sg, f, none⟩) n sc := kn 0 163 (by decide +kernel) (by decide +kernel)
      have e164 : ρ.eval (.tmp 164) = Value.int .i64 (i : Int) := kn 1 164 (by decide +kernel) (by decide +kernel)
      exact step_run rfl _ _ (run_idx33 rfl e163 e164 hi2) ⟨rfl, Mod.refl _ _⟩
    · have e175 : ρ.eval (.tmp 175) = Value.pointer (some ⟨sg, f + i * 2, none⟩) := kn 12 175 (by decide +kernel) (by decide +kernel)
      refine step_run rfl (Value.pointer (some ⟨sg, f + i * 2, none⟩)) _ ?_ ⟨rfl, Mod.refl _ _⟩
      simp only [execOp, e175]
      go_simp
  · intro ρ w' hM kn far
    have e1 : ρ.eval (.tmp 176) = Value.pointer (some ⟨sg, f + i * 2, none⟩) := kn 13 176 (by decide +kernel) (by decide +kernel)
    have e2 : ρ.eval (.tmp 174) = Value.int .i64 (mx) := kn 11 174 (by decide +kernel) (by decide +kernel)
    obtain ⟨cs, ty, u0, h1, h2⟩ := HB w' hM
    exact step_store3 rfl rfl e1 e2 h1 h2 ⟨rfl, rfl⟩
@[reducible] def mi0 : Oper := { dst := some 177, op := Op.move (Operand.tmp 18), type := 33, pos := "outright.go:218", after := #[], guard := none }
@[reducible] def mi1 : Oper := { dst := some 178, op := Op.move (Operand.tmp 19), type := 3, pos := "outright.go:218", after := #[], guard := none }
@[reducible] def mi2 : Oper := { dst := some 179, op := Op.move (Operand.tmp 18), type := 33, pos := "outright.go:218", after := #[], guard := none }
@[reducible] def mi3 : Oper := { dst := some 180, op := Op.move (Operand.tmp 19), type := 3, pos := "outright.go:218", after := #[], guard := none }
@[reducible] def mi4 : Oper := { dst := some 181, op := Op.indexAddr 33 (Operand.tmp 179) (Operand.tmp 180), type := 0, pos := "outright.go:218", after := #[{ on := 2, ground := Ground.data }, { on := 3, ground := Ground.data }], guard := none }
@[reducible] def mi5 : Oper := { dst := some 182, op := Op.fieldAddr 58 (Operand.tmp 181) 1, type := 0, pos := "outright.go:218", after := #[{ on := 4, ground := Ground.data }], guard := none }
@[reducible] def mi6 : Oper := { dst := some 183, op := Op.load 3 (Operand.tmp 182), type := 3, pos := "outright.go:218", after := #[{ on := 5, ground := Ground.data }], guard := none }
@[reducible] def mi7 : Oper := { dst := some 184, op := Op.move (Operand.tmp 2), type := 5, pos := "outright.go:218", after := #[], guard := none }
@[reducible] def mi8 : Oper := { dst := some 185, op := Op.convert 5 3 (Operand.tmp 184), type := 3, pos := "outright.go:218", after := #[{ on := 7, ground := Ground.data }], guard := none }
@[reducible] def mi9 : Oper := { dst := some 186, op := Op.binOp BinOp.rem 3 (Operand.tmp 185) (Operand.const (Value.int IntKind.i64 6)) 3, type := 3, pos := "outright.go:218", after := #[{ on := 8, ground := Ground.data }], guard := none }
@[reducible] def mi10 : Oper := { dst := some 187, op := Op.binOp BinOp.add 3 (Operand.tmp 183) (Operand.tmp 186) 3, type := 3, pos := "outright.go:218", after := #[{ on := 6, ground := Ground.data }, { on := 9, ground := Ground.data }], guard := none }
@[reducible] def mi11 : Oper := { dst := some 188, op := Op.call { callee := Callee.builtin Builtin.min, args := #[Operand.const (Value.int IntKind.i64 100000), Operand.tmp 187], argTypes := #[3, 3] }, type := 3, pos := "outright.go:218", after := #[{ on := 10, ground := Ground.data }], guard := none }
@[reducible] def mi12 : Oper := { dst := some 189, op := Op.indexAddr 33 (Operand.tmp 177) (Operand.tmp 178), type := 0, pos := "outright.go:218", after := #[{ on := 0, ground := Ground.data }, { on := 1, ground := Ground.data }, { on := 0, ground := Ground.phase }, { on := 1, ground := Ground.phase }, { on := 2, ground := Ground.phase }, { on := 3, ground := Ground.phase }, { on := 4, ground := Ground.phase }, { on := 5, ground := Ground.phase }, { on := 6, ground := Ground.phase }, { on := 7, ground := Ground.phase }, { on := 8, ground := Ground.phase }, { on := 9, ground := Ground.phase }, { on := 10, ground := Ground.phase }, { on := 11, ground := Ground.phase }], guard := none }
@[reducible] def mi13 : Oper := { dst := some 190, op := Op.fieldAddr 58 (Operand.tmp 189) 1, type := 0, pos := "outright.go:218", after := #[{ on := 12, ground := Ground.data }, { on := 0, ground := Ground.phase }, { on := 1, ground := Ground.phase }, { on := 2, ground := Ground.phase }, { on := 3, ground := Ground.phase }, { on := 4, ground := Ground.phase }, { on := 5, ground := Ground.phase }, { on := 6, ground := Ground.phase }, { on := 7, ground := Ground.phase }, { on := 8, ground := Ground.phase }, { on := 9, ground := Ground.phase }, { on := 10, ground := Ground.phase }, { on := 11, ground := Ground.phase }], guard := none }
@[reducible] def mi14 : Oper := { dst := none, op := Op.store 3 (Operand.tmp 190) (Operand.tmp 188), type := 0, pos := "outright.go:218", after := #[{ on := 13, ground := Ground.data }, { on := 11, ground := Ground.data }, { on := 0, ground := Ground.phase }, { on := 1, ground := Ground.phase }, { on := 2, ground := Ground.phase }, { on := 3, ground := Ground.phase }, { on := 4, ground := Ground.phase }, { on := 5, ground := Ground.phase }, { on := 6, ground := Ground.phase }, { on := 7, ground := Ground.phase }, { on := 8, ground := Ground.phase }, { on := 9, ground := Ground.phase }, { on := 10, ground := Ground.phase }, { on := 11, ground := Ground.phase }], guard := none }
@[reducible] def miOps : List Oper := [mi0, mi1, mi2, mi3, mi4, mi5, mi6, mi7, mi8, mi9, mi10, mi11, mi12, mi13, mi14]
@[reducible] def miDs : List (Nat × Nat) := [(0, 177), (1, 178), (2, 179), (3, 180), (4, 181), (5, 182), (6, 183), (7, 184), (8, 185), (9, 186), (10, 187), (11, 188), (12, 189), (13, 190)]
theorem miD : miDs = dsOf 0 miOps := by kernel_rfl
theorem miOk : slotsB miOps miDs 256 = true := by decide +kernel
@[reducible] def miC (sg f n sc i u t : Nat) (q mx : Int) : Nat → Value := fun idx => ([Value.slice (some ⟨sg, f, none⟩) n sc, Value.int .i64 (i : Int), Value.slice (some ⟨sg, f, none⟩) n sc, Value.int .i64 (i : Int), Value.pointer (some ⟨sg, f + i * 2, none⟩), Value.pointer (some ⟨sg, f + i * 2 + 1, none⟩), Value.int .i64 (q), Value.int .u8 u, Value.int .i64 (u), Value.int .i64 (t), Value.int .i64 (q + t), Value.int .i64 (mx), Value.pointer (some ⟨sg, f + i * 2, none⟩), Value.pointer (some ⟨sg, f + i * 2 + 1, none⟩), undef] : List Value).getD idx undef
set_option maxRecDepth 100000 in
set_option maxHeartbeats 4000000 in
theorem region_mi {rid : Nat} {Q : Exit → Act → World → Prop} {a0 : Act} {w : World} {sg f n sc i u t : Nat} {q mx : Int} (hsz : a0.tmps.size = 256) (x2 : a0.eval (.tmp 2) = Value.int .u8 u) (x18 : a0.eval (.tmp 18) = Value.slice (some ⟨sg, f, none⟩) n sc) (x19 : a0.eval (.tmp 19) = Value.int .i64 (i : Int))
    (F0 : ∀ W', Mod noB w W' → W'.cell? ⟨sg, f + i * 2 + 1, none⟩ = some (.int .i64 q)) (HB : ∀ W', Mod noB w W' → ∃ cs ty u0, W'.heap[sg]? = some (.cells cs ty) ∧ cs[f + i * 2 + 1]? = some u0) (hi2 : i < n) (hr : Int.tmod (u : Int) 6 = (t : Int)) (hu : u ≤ 255) (ht : t ≤ 255) (hq : 0 ≤ q ∧ q ≤ 100000) (hmx : min 100000 (q + t) = mx)
    (hend : ∀ w', Mod noB w w' → Q .normal (miDs.foldl (fun a x => a.put (some x.2) (miC sg f n sc i u t q mx x.1)) a0) (w'.setCell ⟨sg, f + i * 2 + 1, none⟩ (Value.int .i64 (mx)))) : (Code.region rid miOps.toArray false).wp Tryd.prog Q a0 w := by
  refine list_knownS miDs hsz miOk miD rfl (miC sg f n sc i u t q mx) 14 mi14 rfl rfl rfl ⟨sg, f + i * 2 + 1, none⟩ (Value.int .i64 (mx)) ?_ ?_ hend
  · intro j o ρ w' hi ho hM kn far
    rcases (by omega : j = 0 ∨ j = 1 ∨ j = 2 ∨ j = 3 ∨ j = 4 ∨ j = 5 ∨ j = 6 ∨ j = 7 ∨ j = 8 ∨ j = 9 ∨ j = 10 ∨ j = 11 ∨ j = 12 ∨ j = 13) with rfl | rfl | rfl | rfl | rfl | rfl | rfl | rfl | rfl | rfl | rfl | rfl | rfl | rfl
    all_goals (obtain rfl := Option.some.inj ho)
    · have e18 : ρ.eval (.tmp 18) = Value.slice (some ⟨sg, f, none⟩) n sc := (far 18 (by decide +kernel)).trans x18
      exact step_run rfl _ _ (run_move rfl e18) ⟨rfl, Mod.refl _ _⟩
    · have e19 : ρ.eval (.tmp 19) = Value.int .i64 (i : Int) := (far 19 (by decide +kernel)).trans x19
      exact step_run rfl _ _ (run_move rfl e19) ⟨rfl, Mod.refl _ _⟩
    · have e18 : ρ.eval (.tmp 18) = Value.slice (some ⟨sg, f, none⟩) n sc := (far 18 (by decide +kernel)).trans x18
      exact step_run rfl _ _ (run_move rfl e18) ⟨rfl, Mod.refl _ _⟩
    · have e19 : ρ.eval (.tmp 19) = Value.int .i64 (i : Int) := (far 19 (by decide +kernel)).trans x19
      exact step_run rfl _ _ (run_move rfl e19) ⟨rfl, Mod.refl _ _⟩
    · have e179 : ρ.eval (.tmp 179) = Value.slice (some ⟨sg, f, none⟩) n sc := kn 2 179 (by decide +kernel) (by decide +kernel)
      have e180 : ρ.eval (.tmp 180) = Value.int .i64 (i : Int) := kn 3 180 (by decide +kernel) (by decide +kernel)
      exact step_run rfl _ _ (run_idx33 rfl e179 e180 hi2) ⟨rfl, Mod.refl _ _⟩
    · have e181 : ρ.eval (.tmp 181) = Value.pointer (some ⟨sg, f + i * 2, none⟩) := kn 4 181 (by decide +kernel) (by decide +kernel)
      refine step_run rfl (Value.pointer (some ⟨sg, f + i * 2 + 1, none⟩)) _ ?_ ⟨rfl, Mod.refl _ _⟩
      simp only [execOp, e181]
      go_simp
    · have e182 : ρ.eval (.tmp 182) = Value.pointer (some ⟨sg, f + i * 2 + 1, none⟩) := kn 5 182 (by decide +kernel) (by decide +kernel)
      have c := F0 _ hM
      refine step_run rfl (Value.int .i64 (q)) _ ?_ ⟨rfl, Mod.refl _ _⟩
      simp only [execOp, e182]
      go_simp
    · have e2 : ρ.eval (.tmp 2) = Value.int .u8 u := (far 2 (by decide +kernel)).trans x2
      exact step_run rfl _ _ (run_move rfl e2) ⟨rfl, Mod.refl _ _⟩
    · have e184 : ρ.eval (.tmp 184) = Value.int .u8 u := kn 7 184 (by decide +kernel) (by decide +kernel)
      exact step_run rfl _ _ (run_conv5N rfl e184 hu) ⟨rfl, Mod.refl _ _⟩
    · have e185 : ρ.eval (.tmp 185) = Value.int .i64 (u) := kn 8 185 (by decide +kernel) (by decide +kernel)
      exact step_run rfl _ _ (run_remN (m := 6) rfl e185 rfl (by omega) hr (by omega)) ⟨rfl, Mod.refl _ _⟩
    · have e183 : ρ.eval (.tmp 183) = Value.int .i64 (q) := kn 6 183 (by decide +kernel) (by decide +kernel)
      have e186 : ρ.eval (.tmp 186) = Value.int .i64 (t) := kn 9 186 (by decide +kernel) (by decide +kernel)
      exact step_run rfl _ _ (run_add rfl e183 e186 rfl (by omega) (by omega)) ⟨rfl, Mod.refl _ _⟩
    · have e187 : ρ.eval (.tmp 187) = Value.int .i64 (q + t) := kn 10 187 (by decide +kernel) (by decide +kernel)
      exact step_run rfl _ _ (run_minC rfl e187 hmx) ⟨rfl, Mod.refl _ _⟩
    · have e177 : ρ.eval (.tmp 177) = Value.slice (some ⟨sg, f, none⟩) n sc := kn 0 177 (by decide +kernel) (by decide +kernel)
      have e178 : ρ.eval (.tmp 178) = Value.int .i64 (i : Int) := kn 1 178 (by decide +kernel) (by decide +kernel)
      exact step_run rfl _ _ (run_idx33 rfl e177 e178 hi2) ⟨rfl, Mod.refl _ _⟩
    · have e189 : ρ.eval (.tmp 189) = Value.pointer (some ⟨sg, f + i * 2, none⟩) := kn 12 189 (by decide +kernel) (by decide +kernel)
      refine step_run rfl (Value.pointer (some ⟨sg, f + i * 2 + 1, none⟩)) _ ?_ ⟨rfl, Mod.refl _ _⟩
      simp only [execOp, e189]
      go_simp
  · intro ρ w' hM kn far
    have e1 : ρ.eval (.tmp 190) = Value.pointer (some ⟨sg, f + i * 2 + 1, none⟩) := kn 13 190 (by decide +kernel) (by decide +kernel)
    have e2 : ρ.eval (.tmp 188) = Value.int .i64 (mx) := kn 11 188 (by decide +kernel) (by decide +kernel)
    obtain ⟨cs, ty, u0, h1, h2⟩ := HB w' hM
    exact step_store3 rfl rfl e1 e2 h1 h2 ⟨rfl, rfl⟩
end Go.Proofs.YtdncppempgpooaaDoor

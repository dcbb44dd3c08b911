/- rows, columns, the two ways to split a block, and the two directions. -/
import Derived.Test.YtogalmkeipigeaaSawB
import Derived.Test.YtogalmkeipigeaaTail
import Derived.Laws.ResultCell
import Derived.Deep.RegionHeld3
set_option linter.unusedSimpArgs false
set_option linter.unusedVariables false
namespace Go.Proofs.Ytogalmkeipigeaa
open Go.RowKit Go.Shelf

set_option maxRecDepth 100000 in
set_option maxHeartbeats 1000000 in
theorem rows_any (a b c d : Int) (w : World) :
    Calls Try.prog 89 #[.agg #[.int .i64 a, .int .i64 b, .int .i64 c, .int .i64 d]] w fun e w' => e = .returned (.tuple #[.int .i64 b, .int .i64 d]) ∧ Mod noB w w' := by
  go_enter Try.func89, Try.ntmps89
  go_wp2
  go_quiet (fail)
  go_wp2
  go_ret2
  exact ⟨rfl, ((Mod.refl noB w).alloc _).drewN _⟩

set_option maxRecDepth 100000 in
set_option maxHeartbeats 1000000 in
theorem columns_any (a b c d : Int) (w : World) :
    Calls Try.prog 90 #[.agg #[.int .i64 a, .int .i64 b, .int .i64 c, .int .i64 d]] w fun e w' => e = .returned (.tuple #[.int .i64 a, .int .i64 c]) ∧ Mod noB w w' := by
  go_enter Try.func90, Try.ntmps90
  go_wp2
  go_quiet (fail)
  go_wp2
  go_ret2
  exact ⟨rfl, ((Mod.refl noB w).alloc _).drewN _⟩

set_option maxRecDepth 100000 in
set_option maxHeartbeats 1000000 in
theorem directions_any (w : World) :
    Calls Try.prog 85 #[] w fun e w' => e = .returned (.slice (some ⟨w.heap.size, 0, none⟩) 2 2) ∧ Mod noB w w' ∧
      w'.heap[w.heap.size]? = some (.cells #[.bool false, .func (.func 89) #[] #[], .func (.func 90) #[] #[], .func (.func 91) #[] #[], .bool true, .func (.func 90) #[] #[], .func (.func 89) #[] #[], .func (.func 92) #[] #[]] 138) := by
  go_enter Try.func85, Try.ntmps85
  go_wp2
  go_ret
  exact ⟨rfl, (Mod.refl noB w).alloc _, World.alloc_heap_new w _⟩

theorem results_two {P : Program} {fn : Func} {p q : Tmp} {ty tz : TypeId} (h : fn.results = #[.cell p ty, .cell q tz]) (tmps : Array Value) (w : World) (b c : Nat) (cs ds : Array Value) (t u : TypeId) (d d' : TypeDesc)
    (hp : tmps.getD p undef = .pointer (some ⟨b, 0, none⟩)) (hq : tmps.getD q undef = .pointer (some ⟨c, 0, none⟩)) (hb : w.heap[b]? = some (.cells cs t)) (hc : w.heap[c]? = some (.cells ds u))
    (hu : P.underlying ty = some d) (hu' : P.underlying tz = some d') (hd : (match d with | .struct _ | .array _ _ => true | _ => false) = true) (hd' : (match d' with | .struct _ | .array _ _ => true | _ => false) = true)
    (hi : (P.info? ty).map (·.size) = some cs.size) (hi' : (P.info? tz).map (·.size) = some ds.size) :
    (results fn tmps).run P w = .ok (.tuple #[.agg cs, .agg ds]) w := by
  have e : (results fn tmps).run P w = ((asAddr (tmps.getD p undef)).run P w).andThen fun a w₁ => ((loadVar ty a).run P w₁).andThen fun v w₂ =>
      ((asAddr (tmps.getD q undef)).run P w₂).andThen fun a2 w₃ => ((loadVar tz a2).run P w₃).andThen fun v2 w₄ => .ok (.tuple #[v, v2]) w₄ := by
    simp only [results, h]
    simp [Sem.run_bind, Result.andThen]
  rw [e, hp, hq]
  simp [asAddr, Result.andThen, run_loadVar_row w b t ty cs (0, 0) d hb hu hd hi, run_loadVar_row w c u tz ds (0, 0) d' hc hu' hd' hi']

/-- Four cells stored, one behind the other. -/
theorem set4 {W : World} {r : Nat} {x y z u : Value} {t : TypeId} (h : W.heap[r]? = some (.cells #[x, y, z, u] t)) (a b c d : Value) :
    ((((W.setCell ⟨r, 0, none⟩ a).setCell ⟨r, 1, none⟩ b).setCell ⟨r, 2, none⟩ c).setCell ⟨r, 3, none⟩ d).heap[r]? = some (.cells #[a, b, c, d] t) ∧
    Mod (fun k => k = r) W ((((W.setCell ⟨r, 0, none⟩ a).setCell ⟨r, 1, none⟩ b).setCell ⟨r, 2, none⟩ c).setCell ⟨r, 3, none⟩ d) := by
  refine ⟨setCell_at (setCell_at (setCell_at (setCell_at h 0 a) 1 b) 2 c) 3 d, ?_⟩
  have m0 := (Mod.refl (fun k => k = r) W).setCell (p := ⟨r, 0, none⟩) (fun _ => rfl) a
  have m1 := m0.setCell (p := ⟨r, 1, none⟩) (fun _ => rfl) b
  have m2 := m1.setCell (p := ⟨r, 2, none⟩) (fun _ => rfl) c
  exact m2.setCell (p := ⟨r, 3, none⟩) (fun _ => rfl) d

/-- Two results' blocks lie, r and the one behind; of all that lay these alone may have turned. -/
def RB2 (W1 : World) (r : Nat) (w' : World) : Prop := (∃ x y z u, w'.heap[r]? = some (.cells #[x, y, z, u] 97)) ∧ (∃ x y z u, w'.heap[r + 1]? = some (.cells #[x, y, z, u] 97)) ∧ Mod (fun k => k = r ∨ k = r + 1) W1 w'
theorem RB2.set1 {W1 w' : World} {r : Nat} (h : RB2 W1 r w') (a b c d : Value) : RB2 W1 r ((((w'.setCell ⟨r, 0, none⟩ a).setCell ⟨r, 1, none⟩ b).setCell ⟨r, 2, none⟩ c).setCell ⟨r, 3, none⟩ d) := by
  obtain ⟨⟨x, y, z, u, hb⟩, ⟨x', y', z', u', hb'⟩, hm⟩ := h
  obtain ⟨h1, h2⟩ := set4 hb a b c d
  exact ⟨⟨_, _, _, _, h1⟩, ⟨_, _, _, _, h2.at hb' (by omega)⟩, hm.trans (h2.wider (fun _ _ h => .inl h))⟩
theorem RB2.set2 {W1 w' : World} {r : Nat} (h : RB2 W1 r w') (a b c d : Value) : RB2 W1 r ((((w'.setCell ⟨r + 1, 0, none⟩ a).setCell ⟨r + 1, 1, none⟩ b).setCell ⟨r + 1, 2, none⟩ c).setCell ⟨r + 1, 3, none⟩ d) := by
  obtain ⟨⟨x, y, z, u, hb⟩, ⟨x', y', z', u', hb'⟩, hm⟩ := h
  obtain ⟨h1, h2⟩ := set4 hb' a b c d
  exact ⟨⟨_, _, _, _, h2.at hb (by omega)⟩, ⟨_, _, _, _, h1⟩, hm.trans (h2.wider (fun _ _ h => .inr h))⟩
/-- What the walk of a split is told of each world in it. -/
def SplitS (W1 : World) (cv : World → Nat → Nat → Value) (n : Nat) (a b c d : Int) (w' : World) : Prop :=
  Hold (RB2 W1 (n + 1) w') ∧ (w'.cell? ⟨n, 0, none⟩ = some (.int .i64 a) ∧ w'.cell? ⟨n, 1, none⟩ = some (.int .i64 b) ∧ w'.cell? ⟨n, 2, none⟩ = some (.int .i64 c) ∧ w'.cell? ⟨n, 3, none⟩ = some (.int .i64 d)) ∧
    (w'.cell? ⟨n + 1, 0, none⟩ = some (cv w' 1 0) ∧ w'.cell? ⟨n + 1, 1, none⟩ = some (cv w' 1 1) ∧ w'.cell? ⟨n + 1, 2, none⟩ = some (cv w' 1 2) ∧ w'.cell? ⟨n + 1, 3, none⟩ = some (cv w' 1 3)) ∧
    (w'.cell? ⟨n + 1 + 1, 0, none⟩ = some (cv w' 2 0) ∧ w'.cell? ⟨n + 1 + 1, 1, none⟩ = some (cv w' 2 1) ∧ w'.cell? ⟨n + 1 + 1, 2, none⟩ = some (cv w' 2 2) ∧ w'.cell? ⟨n + 1 + 1, 3, none⟩ = some (cv w' 2 3)) ∧
    (w'.frozen? ⟨n + 1, 0, none⟩ = false ∧ w'.frozen? ⟨n + 1, 1, none⟩ = false ∧ w'.frozen? ⟨n + 1, 2, none⟩ = false ∧ w'.frozen? ⟨n + 1, 3, none⟩ = false) ∧
    (w'.frozen? ⟨n + 1 + 1, 0, none⟩ = false ∧ w'.frozen? ⟨n + 1 + 1, 1, none⟩ = false ∧ w'.frozen? ⟨n + 1 + 1, 2, none⟩ = false ∧ w'.frozen? ⟨n + 1 + 1, 3, none⟩ = false)
theorem splitS_of {W1 : World} {n : Nat} {a b c d : Int} (h0 : W1.heap[n]? = some (.cells #[.int .i64 a, .int .i64 b, .int .i64 c, .int .i64 d] 97)) (w' : World) (h : RB2 W1 (n + 1) w') :
    SplitS W1 (fun w' j i => (w'.cell? ⟨n + j, i, none⟩).getD undef) n a b c d w' := by
  have h' := h
  obtain ⟨⟨x, y, z, u, hb⟩, ⟨x', y', z', u', hb'⟩, hm⟩ := h'
  have e0 := hm.at h0 (by omega)
  refine ⟨⟨h⟩, ⟨?_, ?_, ?_, ?_⟩, ⟨?_, ?_, ?_, ?_⟩, ⟨?_, ?_, ?_, ?_⟩, ⟨cells_frozen hb 0, cells_frozen hb 1, cells_frozen hb 2, cells_frozen hb 3⟩, ⟨cells_frozen hb' 0, cells_frozen hb' 1, cells_frozen hb' 2, cells_frozen hb' 3⟩⟩
  all_goals (try simp [World.cell?, e0]) <;> (try simp [World.cell?, hb]) <;> (try simp [World.cell?, hb'])

theorem split_end {fn : Func} (hf : fn.results = #[.cell 4 97, .cell 5 97]) {tmps : Array Value} {w w' : World} {r : Nat} {a b c d e f g h : Value} (hr : w.heap.size ≤ r) (h4 : tmps.getD 4 undef = .pointer (some ⟨r, 0, none⟩)) (h5 : tmps.getD 5 undef = .pointer (some ⟨r + 1, 0, none⟩))
    (h0 : w'.heap[r]? = some (.cells #[a, b, c, d] 97)) (h1 : w'.heap[r + 1]? = some (.cells #[e, f, g, h] 97)) (hM : Mod noB w w') :
    bodyPost Try.prog fn (fun e' w' => e' = .returned (.tuple #[.agg #[a, b, c, d], .agg #[e, f, g, h]]) ∧ Mod noB w w') Exit.ret { tmps := tmps, defers := [] } w' :=
  bodyPost_ret (results_two hf tmps w' r (r + 1) _ _ _ _ _ _ h4 h5 h0 h1 Try.underlying97 Try.underlying97 rfl rfl (by kernel_rfl) (by kernel_rfl)) rfl ⟨rfl, hM⟩

set_option maxRecDepth 100000 in
set_option maxHeartbeats 2000000 in
theorem across_any (a b c d at' : Int) (w : World) :
    Calls Try.prog 91 #[.agg #[.int .i64 a, .int .i64 b, .int .i64 c, .int .i64 d], .int .i64 at'] w fun e w' => e = .returned (.tuple #[.agg #[.int .i64 a, .int .i64 b, .int .i64 c, .int .i64 at'], .agg #[.int .i64 a, .int .i64 at', .int .i64 c, .int .i64 d]]) ∧ Mod noB w w' := by
  go_enter Try.func91, Try.ntmps91
  go_wp2
  rw [allocL3]
  obtain ⟨W1, hW1⟩ : ∃ W1, allocL w [.cells #[.int .i64 a, .int .i64 b, .int .i64 c, .int .i64 d] 97, .cells #[.int .i64 0, .int .i64 0, .int .i64 0, .int .i64 0] 97, .cells #[.int .i64 0, .int .i64 0, .int .i64 0, .int .i64 0] 97] = W1 := ⟨_, rfl⟩
  rw [hW1]
  have HM1 : Hold (Mod noB w W1) := ⟨by rw [← hW1]; exact allocL_mod _ _ _⟩
  have b0 : W1.heap[w.heap.size + 0]? = some (.cells #[.int .i64 a, .int .i64 b, .int .i64 c, .int .i64 d] 97) := by rw [← hW1]; exact allocL_at _ _ _ _ rfl
  have b1 : W1.heap[w.heap.size + 1]? = some (.cells #[.int .i64 0, .int .i64 0, .int .i64 0, .int .i64 0] 97) := by rw [← hW1]; exact allocL_at _ _ _ _ rfl
  have b2 : W1.heap[w.heap.size + 2]? = some (.cells #[.int .i64 0, .int .i64 0, .int .i64 0, .int .i64 0] 97) := by rw [← hW1]; exact allocL_at _ _ _ _ rfl
  simp only [Nat.add_zero] at b0
  have HR1 : Hold (RB2 W1 (w.heap.size + 1) W1.drew) := ⟨⟨_, _, _, _, b1⟩, ⟨_, _, _, _, b2⟩, (Mod.refl _ _).drew⟩
  have HB := Hold.mk (And.intro b1 b2)
  have HS := Hold.mk (splitS_of b0)
  generalize (fun (w' : World) (j i : Nat) => (w'.cell? ⟨w.heap.size + j, i, none⟩).getD undef) = cv at HS
  clear hW1 b0 b1 b2
  unfold SplitS at HS
  refine wp_region_noPanic ?_
  refine wp_region_held_drew (S := (fun w' => Hold (RB2 W1 (w.heap.size + 1) w') ∧ (w'.cell? ⟨w.heap.size, 0, none⟩ = some (.int .i64 a) ∧ w'.cell? ⟨w.heap.size, 1, none⟩ = some (.int .i64 b) ∧ w'.cell? ⟨w.heap.size, 2, none⟩ = some (.int .i64 c) ∧ w'.cell? ⟨w.heap.size, 3, none⟩ = some (.int .i64 d)) ∧
    (w'.cell? ⟨w.heap.size + 1, 0, none⟩ = some (cv w' 1 0) ∧ w'.cell? ⟨w.heap.size + 1, 1, none⟩ = some (cv w' 1 1) ∧ w'.cell? ⟨w.heap.size + 1, 2, none⟩ = some (cv w' 1 2) ∧ w'.cell? ⟨w.heap.size + 1, 3, none⟩ = some (cv w' 1 3)) ∧
    (w'.cell? ⟨w.heap.size + 1 + 1, 0, none⟩ = some (cv w' 2 0) ∧ w'.cell? ⟨w.heap.size + 1 + 1, 1, none⟩ = some (cv w' 2 1) ∧ w'.cell? ⟨w.heap.size + 1 + 1, 2, none⟩ = some (cv w' 2 2) ∧ w'.cell? ⟨w.heap.size + 1 + 1, 3, none⟩ = some (cv w' 2 3)) ∧
    (w'.frozen? ⟨w.heap.size + 1, 0, none⟩ = false ∧ w'.frozen? ⟨w.heap.size + 1, 1, none⟩ = false ∧ w'.frozen? ⟨w.heap.size + 1, 2, none⟩ = false ∧ w'.frozen? ⟨w.heap.size + 1, 3, none⟩ = false) ∧
    (w'.frozen? ⟨w.heap.size + 1 + 1, 0, none⟩ = false ∧ w'.frozen? ⟨w.heap.size + 1 + 1, 1, none⟩ = false ∧ w'.frozen? ⟨w.heap.size + 1 + 1, 2, none⟩ = false ∧ w'.frozen? ⟨w.heap.size + 1 + 1, 3, none⟩ = false))) mixed (HS.out _ HR1.out) (fun hHeld => ?_)
  have HD : Hold (W1.drew.heap[w.heap.size + 1]? = some (.cells #[.int .i64 0, .int .i64 0, .int .i64 0, .int .i64 0] 97) ∧ W1.drew.heap[w.heap.size + 1 + 1]? = some (.cells #[.int .i64 0, .int .i64 0, .int .i64 0, .int .i64 0] 97) ∧ Mod noB W1 W1.drew) := ⟨HB.out.1, HB.out.2, (Mod.refl _ _).drew⟩
  generalize hwd : W1.drew = wd at *
  clear hwd
  refine wpAnyH_take (i := 0) (oi := { dst := some 6, op := Op.fieldAddr 97 (Operand.tmp 2) 0, type := 0, pos := "saw.go:31", after := #[], guard := none }) (v := ?_) rfl (by kernel_rfl) (by kernel_rfl) (by kernel_rfl) (fun _ _ _ h => h) (Or.inl ⟨by rfl, ?_⟩) (by assumption) ?_
  rotate_left
  · intro w hSw
    (try dsimp only at hSw)
    go_simp
    first | done | with_reducible rfl
  try simp only [Act.put, List.setIfInBounds_toArray, List.set_cons_zero, List.set_cons_succ]
  refine wpAnyH_take (i := 1) (oi := { dst := some 7, op := Op.load 3 (Operand.tmp 6), type := 3, pos := "saw.go:31", after := #[{ on := 0, ground := Ground.data }], guard := none }) (v := ?_) rfl (by kernel_rfl) (by kernel_rfl) (by kernel_rfl) (fun _ _ _ h => h) (Or.inl ⟨by rfl, ?_⟩) (by assumption) ?_
  rotate_left
  · intro w hSw
    (try dsimp only at hSw)
    go_simp
    first | done | with_reducible rfl
  try simp only [Act.put, List.setIfInBounds_toArray, List.set_cons_zero, List.set_cons_succ]
  refine wpAnyH_take (i := 2) (oi := { dst := some 8, op := Op.fieldAddr 97 (Operand.tmp 2) 1, type := 0, pos := "saw.go:31", after := #[], guard := none }) (v := ?_) rfl (by kernel_rfl) (by kernel_rfl) (by kernel_rfl) (fun _ _ _ h => h) (Or.inl ⟨by rfl, ?_⟩) (by assumption) ?_
  rotate_left
  · intro w hSw
    (try dsimp only at hSw)
    go_simp
    first | done | with_reducible rfl
  try simp only [Act.put, List.setIfInBounds_toArray, List.set_cons_zero, List.set_cons_succ]
  refine wpAnyH_take (i := 3) (oi := { dst := some 9, op := Op.load 3 (Operand.tmp 8), type := 3, pos := "saw.go:31", after := #[{ on := 2, ground := Ground.data }], guard := none }) (v := ?_) rfl (by kernel_rfl) (by kernel_rfl) (by kernel_rfl) (fun _ _ _ h => h) (Or.inl ⟨by rfl, ?_⟩) (by assumption) ?_
  rotate_left
  · intro w hSw
    (try dsimp only at hSw)
    go_simp
    first | done | with_reducible rfl
  try simp only [Act.put, List.setIfInBounds_toArray, List.set_cons_zero, List.set_cons_succ]
  refine wpAnyH_take (i := 4) (oi := { dst := some 10, op := Op.fieldAddr 97 (Operand.tmp 2) 2, type := 0, pos := "saw.go:31", after := #[], guard := none }) (v := ?_) rfl (by kernel_rfl) (by kernel_rfl) (by kernel_rfl) (fun _ _ _ h => h) (Or.inl ⟨by rfl, ?_⟩) (by assumption) ?_
  rotate_left
  · intro w hSw
    (try dsimp only at hSw)
    go_simp
    first | done | with_reducible rfl
  try simp only [Act.put, List.setIfInBounds_toArray, List.set_cons_zero, List.set_cons_succ]
  refine wpAnyH_take (i := 5) (oi := { dst := some 11, op := Op.load 3 (Operand.tmp 10), type := 3, pos := "saw.go:31", after := #[{ on := 4, ground := Ground.data }], guard := none }) (v := ?_) rfl (by kernel_rfl) (by kernel_rfl) (by kernel_rfl) (fun _ _ _ h => h) (Or.inl ⟨by rfl, ?_⟩) (by assumption) ?_
  rotate_left
  · intro w hSw
    (try dsimp only at hSw)
    go_simp
    first | done | with_reducible rfl
  try simp only [Act.put, List.setIfInBounds_toArray, List.set_cons_zero, List.set_cons_succ]
  refine wpAnyH_take (i := 6) (oi := { dst := some 12, op := Op.move (Operand.tmp 1), type := 3, pos := "saw.go:31", after := #[], guard := none }) (v := ?_) rfl (by kernel_rfl) (by kernel_rfl) (by kernel_rfl) (fun _ _ _ h => h) (Or.inl ⟨by rfl, ?_⟩) (by assumption) ?_
  rotate_left
  · intro w hSw
    (try dsimp only at hSw)
    go_simp
    first | done | with_reducible rfl
  try simp only [Act.put, List.setIfInBounds_toArray, List.set_cons_zero, List.set_cons_succ]
  refine wpAnyH_take (i := 7) (oi := { dst := some 13, op := Op.build 97 #[(0, Operand.tmp 7), (1, Operand.tmp 9), (2, Operand.tmp 11), (3, Operand.tmp 12)], type := 97, pos := "saw.go:31", after := #[{ on := 1, ground := Ground.data }, { on := 3, ground := Ground.data }, { on := 5, ground := Ground.data }, { on := 6, ground := Ground.data }], guard := none }) (v := ?_) rfl (by kernel_rfl) (by kernel_rfl) (by kernel_rfl) (fun _ _ _ h => h) (Or.inl ⟨by rfl, ?_⟩) (by assumption) ?_
  rotate_left
  · intro w hSw
    (try dsimp only at hSw)
    go_simp
    first | done | with_reducible rfl
  try simp only [Act.put, List.setIfInBounds_toArray, List.set_cons_zero, List.set_cons_succ]
  refine wpAnyH_take (i := 8) (oi := { dst := some 14, op := Op.fieldAddr 97 (Operand.tmp 2) 0, type := 0, pos := "saw.go:31", after := #[{ on := 16, ground := Ground.gcOnly Departure.lateStores }], guard := none }) (v := ?_) rfl (by kernel_rfl) (by kernel_rfl) (by kernel_rfl) (fun _ _ _ h => h) (Or.inl ⟨by rfl, ?_⟩) (by assumption) ?_
  rotate_left
  · intro w hSw
    (try dsimp only at hSw)
    go_simp
    first | done | with_reducible rfl
  try simp only [Act.put, List.setIfInBounds_toArray, List.set_cons_zero, List.set_cons_succ]
  refine wpAnyH_take (i := 9) (oi := { dst := some 15, op := Op.load 3 (Operand.tmp 14), type := 3, pos := "saw.go:31", after := #[{ on := 8, ground := Ground.data }, { on := 16, ground := Ground.gcOnly Departure.lateStores }], guard := none }) (v := ?_) rfl (by kernel_rfl) (by kernel_rfl) (by kernel_rfl) (fun _ _ _ h => h) (Or.inl ⟨by rfl, ?_⟩) (by assumption) ?_
  rotate_left
  · intro w hSw
    (try dsimp only at hSw)
    go_simp
    first | done | with_reducible rfl
  try simp only [Act.put, List.setIfInBounds_toArray, List.set_cons_zero, List.set_cons_succ]
  refine wpAnyH_take (i := 10) (oi := { dst := some 16, op := Op.move (Operand.tmp 1), type := 3, pos := "saw.go:31", after := #[{ on := 16, ground := Ground.gcOnly Departure.lateStores }], guard := none }) (v := ?_) rfl (by kernel_rfl) (by kernel_rfl) (by kernel_rfl) (fun _ _ _ h => h) (Or.inl ⟨by rfl, ?_⟩) (by assumption) ?_
  rotate_left
  · intro w hSw
    (try dsimp only at hSw)
    go_simp
    first | done | with_reducible rfl
  try simp only [Act.put, List.setIfInBounds_toArray, List.set_cons_zero, List.set_cons_succ]
  refine wpAnyH_take (i := 11) (oi := { dst := some 17, op := Op.fieldAddr 97 (Operand.tmp 2) 2, type := 0, pos := "saw.go:31", after := #[{ on := 16, ground := Ground.gcOnly Departure.lateStores }], guard := none }) (v := ?_) rfl (by kernel_rfl) (by kernel_rfl) (by kernel_rfl) (fun _ _ _ h => h) (Or.inl ⟨by rfl, ?_⟩) (by assumption) ?_
  rotate_left
  · intro w hSw
    (try dsimp only at hSw)
    go_simp
    first | done | with_reducible rfl
  try simp only [Act.put, List.setIfInBounds_toArray, List.set_cons_zero, List.set_cons_succ]
  refine wpAnyH_take (i := 12) (oi := { dst := some 18, op := Op.load 3 (Operand.tmp 17), type := 3, pos := "saw.go:31", after := #[{ on := 11, ground := Ground.data }, { on := 16, ground := Ground.gcOnly Departure.lateStores }], guard := none }) (v := ?_) rfl (by kernel_rfl) (by kernel_rfl) (by kernel_rfl) (fun _ _ _ h => h) (Or.inl ⟨by rfl, ?_⟩) (by assumption) ?_
  rotate_left
  · intro w hSw
    (try dsimp only at hSw)
    go_simp
    first | done | with_reducible rfl
  try simp only [Act.put, List.setIfInBounds_toArray, List.set_cons_zero, List.set_cons_succ]
  refine wpAnyH_take (i := 13) (oi := { dst := some 19, op := Op.fieldAddr 97 (Operand.tmp 2) 3, type := 0, pos := "saw.go:31", after := #[{ on := 16, ground := Ground.gcOnly Departure.lateStores }], guard := none }) (v := ?_) rfl (by kernel_rfl) (by kernel_rfl) (by kernel_rfl) (fun _ _ _ h => h) (Or.inl ⟨by rfl, ?_⟩) (by assumption) ?_
  rotate_left
  · intro w hSw
    (try dsimp only at hSw)
    go_simp
    first | done | with_reducible rfl
  try simp only [Act.put, List.setIfInBounds_toArray, List.set_cons_zero, List.set_cons_succ]
  refine wpAnyH_take (i := 14) (oi := { dst := some 20, op := Op.load 3 (Operand.tmp 19), type := 3, pos := "saw.go:31", after := #[{ on := 13, ground := Ground.data }, { on := 16, ground := Ground.gcOnly Departure.lateStores }], guard := none }) (v := ?_) rfl (by kernel_rfl) (by kernel_rfl) (by kernel_rfl) (fun _ _ _ h => h) (Or.inl ⟨by rfl, ?_⟩) (by assumption) ?_
  rotate_left
  · intro w hSw
    (try dsimp only at hSw)
    go_simp
    first | done | with_reducible rfl
  try simp only [Act.put, List.setIfInBounds_toArray, List.set_cons_zero, List.set_cons_succ]
  refine wpAnyH_take (i := 15) (oi := { dst := some 21, op := Op.build 97 #[(0, Operand.tmp 15), (1, Operand.tmp 16), (2, Operand.tmp 18), (3, Operand.tmp 20)], type := 97, pos := "saw.go:31", after := #[{ on := 9, ground := Ground.data }, { on := 10, ground := Ground.data }, { on := 12, ground := Ground.data }, { on := 14, ground := Ground.data }, { on := 16, ground := Ground.gcOnly Departure.lateStores }], guard := none }) (v := ?_) rfl (by kernel_rfl) (by kernel_rfl) (by kernel_rfl) (fun _ _ _ h => h) (Or.inl ⟨by rfl, ?_⟩) (by assumption) ?_
  rotate_left
  · intro w hSw
    (try dsimp only at hSw)
    go_simp
    first | done | with_reducible rfl
  try simp only [Act.put, List.setIfInBounds_toArray, List.set_cons_zero, List.set_cons_succ]
  refine wpAnyH_ready (rs := [16]) (by kernel_rfl) (by simp) (AllReadyH.cons (o := { dst := none, op := Op.store 97 (Operand.tmp 4) (Operand.tmp 13), type := 0, pos := "saw.go:31", after := #[{ on := 7, ground := Ground.data }, { on := 0, ground := Ground.phase }, { on := 1, ground := Ground.phase }, { on := 2, ground := Ground.phase }, { on := 3, ground := Ground.phase }, { on := 4, ground := Ground.phase }, { on := 5, ground := Ground.phase }, { on := 6, ground := Ground.phase }, { on := 7, ground := Ground.phase }, { on := 8, ground := Ground.textOnly Departure.lateStores }, { on := 9, ground := Ground.textOnly Departure.lateStores }, { on := 10, ground := Ground.textOnly Departure.lateStores }, { on := 11, ground := Ground.textOnly Departure.lateStores }, { on := 12, ground := Ground.textOnly Departure.lateStores }, { on := 13, ground := Ground.textOnly Departure.lateStores }, { on := 14, ground := Ground.textOnly Departure.lateStores }, { on := 15, ground := Ground.textOnly Departure.lateStores }], guard := none }) rfl (fun K hK => ?_) AllReadyH.nil)
  go_simp
  refine hK.out _ _ ?_ (fun hHeld => ?_)
  · exact HS.out _ (RB2.set1 HR1.out _ _ _ _)
  clear hK K
  try simp only [Act.put, List.setIfInBounds_toArray, List.set_cons_zero, List.set_cons_succ]
  have HR2 := Hold.mk (RB2.set1 HR1.out (.int .i64 a) (.int .i64 b) (.int .i64 c) (.int .i64 at'))
  have HE := Hold.mk (And.intro (set4 HD.out.1 (.int .i64 a) (.int .i64 b) (.int .i64 c) (.int .i64 at')).1 (And.intro ((set4 HD.out.1 (.int .i64 a) (.int .i64 b) (.int .i64 c) (.int .i64 at')).2.at HD.out.2.1 (by omega)) (set4 HD.out.1 (.int .i64 a) (.int .i64 b) (.int .i64 c) (.int .i64 at')).2))
  generalize hwe : World.setCell (World.setCell (World.setCell (World.setCell wd _ _) _ _) _ _) _ _ = we at *
  refine wpAnyH_ready (rs := [17]) (by kernel_rfl) (by simp) (AllReadyH.cons (o := { dst := none, op := Op.store 97 (Operand.tmp 5) (Operand.tmp 21), type := 0, pos := "saw.go:31", after := #[{ on := 15, ground := Ground.data }, { on := 16, ground := Ground.chain }, { on := 0, ground := Ground.phase }, { on := 1, ground := Ground.phase }, { on := 2, ground := Ground.phase }, { on := 3, ground := Ground.phase }, { on := 4, ground := Ground.phase }, { on := 5, ground := Ground.phase }, { on := 6, ground := Ground.phase }, { on := 7, ground := Ground.phase }, { on := 8, ground := Ground.phase }, { on := 9, ground := Ground.phase }, { on := 10, ground := Ground.phase }, { on := 11, ground := Ground.phase }, { on := 12, ground := Ground.phase }, { on := 13, ground := Ground.phase }, { on := 14, ground := Ground.phase }, { on := 15, ground := Ground.phase }, { on := 16, ground := Ground.phase }], guard := none }) rfl (fun K hK => ?_) AllReadyH.nil)
  go_simp
  refine hK.out _ _ ?_ (fun hHeld => ?_)
  · exact HS.out _ (RB2.set2 HR2.out _ _ _ _)
  clear hK K
  try simp only [Act.put, List.setIfInBounds_toArray, List.set_cons_zero, List.set_cons_succ]
  refine wpAnyH_done (by kernel_rfl) ?_ _
  refine NoPanic.normal ?_
  clear hHeld HS HR2
  go_wp2
  obtain ⟨e1, e2, e3⟩ := HE.out
  obtain ⟨g1, g2⟩ := set4 e2 (.int .i64 a) (.int .i64 at') (.int .i64 c) (.int .i64 d)
  refine split_end rfl (Nat.le_succ _) rfl rfl (g2.at e1 (by omega)) g1 ?_
  exact (((HM1.out.trans HD.out.2.2).then e3 (fun i h1 h2 => by omega)).then g2 (fun i h1 h2 => by omega))

set_option maxRecDepth 100000 in
set_option maxHeartbeats 2000000 in
theorem upright_any (a b c d at' : Int) (w : World) :
    Calls Try.prog 92 #[.agg #[.int .i64 a, .int .i64 b, .int .i64 c, .int .i64 d], .int .i64 at'] w fun e w' => e = .returned (.tuple #[.agg #[.int .i64 a, .int .i64 b, .int .i64 at', .int .i64 d], .agg #[.int .i64 at', .int .i64 b, .int .i64 c, .int .i64 d]]) ∧ Mod noB w w' := by
  go_enter Try.func92, Try.ntmps92
  go_wp2
  rw [allocL3]
  obtain ⟨W1, hW1⟩ : ∃ W1, allocL w [.cells #[.int .i64 a, .int .i64 b, .int .i64 c, .int .i64 d] 97, .cells #[.int .i64 0, .int .i64 0, .int .i64 0, .int .i64 0] 97, .cells #[.int .i64 0, .int .i64 0, .int .i64 0, .int .i64 0] 97] = W1 := ⟨_, rfl⟩
  rw [hW1]
  have HM1 : Hold (Mod noB w W1) := ⟨by rw [← hW1]; exact allocL_mod _ _ _⟩
  have b0 : W1.heap[w.heap.size + 0]? = some (.cells #[.int .i64 a, .int .i64 b, .int .i64 c, .int .i64 d] 97) := by rw [← hW1]; exact allocL_at _ _ _ _ rfl
  have b1 : W1.heap[w.heap.size + 1]? = some (.cells #[.int .i64 0, .int .i64 0, .int .i64 0, .int .i64 0] 97) := by rw [← hW1]; exact allocL_at _ _ _ _ rfl
  have b2 : W1.heap[w.heap.size + 2]? = some (.cells #[.int .i64 0, .int .i64 0, .int .i64 0, .int .i64 0] 97) := by rw [← hW1]; exact allocL_at _ _ _ _ rfl
  simp only [Nat.add_zero] at b0
  have HR1 : Hold (RB2 W1 (w.heap.size + 1) W1.drew) := ⟨⟨_, _, _, _, b1⟩, ⟨_, _, _, _, b2⟩, (Mod.refl _ _).drew⟩
  have HB := Hold.mk (And.intro b1 b2)
  have HS := Hold.mk (splitS_of b0)
  generalize (fun (w' : World) (j i : Nat) => (w'.cell? ⟨w.heap.size + j, i, none⟩).getD undef) = cv at HS
  clear hW1 b0 b1 b2
  unfold SplitS at HS
  refine wp_region_noPanic ?_
  refine wp_region_held_drew (S := (fun w' => Hold (RB2 W1 (w.heap.size + 1) w') ∧ (w'.cell? ⟨w.heap.size, 0, none⟩ = some (.int .i64 a) ∧ w'.cell? ⟨w.heap.size, 1, none⟩ = some (.int .i64 b) ∧ w'.cell? ⟨w.heap.size, 2, none⟩ = some (.int .i64 c) ∧ w'.cell? ⟨w.heap.size, 3, none⟩ = some (.int .i64 d)) ∧
    (w'.cell? ⟨w.heap.size + 1, 0, none⟩ = some (cv w' 1 0) ∧ w'.cell? ⟨w.heap.size + 1, 1, none⟩ = some (cv w' 1 1) ∧ w'.cell? ⟨w.heap.size + 1, 2, none⟩ = some (cv w' 1 2) ∧ w'.cell? ⟨w.heap.size + 1, 3, none⟩ = some (cv w' 1 3)) ∧
    (w'.cell? ⟨w.heap.size + 1 + 1, 0, none⟩ = some (cv w' 2 0) ∧ w'.cell? ⟨w.heap.size + 1 + 1, 1, none⟩ = some (cv w' 2 1) ∧ w'.cell? ⟨w.heap.size + 1 + 1, 2, none⟩ = some (cv w' 2 2) ∧ w'.cell? ⟨w.heap.size + 1 + 1, 3, none⟩ = some (cv w' 2 3)) ∧
    (w'.frozen? ⟨w.heap.size + 1, 0, none⟩ = false ∧ w'.frozen? ⟨w.heap.size + 1, 1, none⟩ = false ∧ w'.frozen? ⟨w.heap.size + 1, 2, none⟩ = false ∧ w'.frozen? ⟨w.heap.size + 1, 3, none⟩ = false) ∧
    (w'.frozen? ⟨w.heap.size + 1 + 1, 0, none⟩ = false ∧ w'.frozen? ⟨w.heap.size + 1 + 1, 1, none⟩ = false ∧ w'.frozen? ⟨w.heap.size + 1 + 1, 2, none⟩ = false ∧ w'.frozen? ⟨w.heap.size + 1 + 1, 3, none⟩ = false))) mixed (HS.out _ HR1.out) (fun hHeld => ?_)
  have HD : Hold (W1.drew.heap[w.heap.size + 1]? = some (.cells #[.int .i64 0, .int .i64 0, .int .i64 0, .int .i64 0] 97) ∧ W1.drew.heap[w.heap.size + 1 + 1]? = some (.cells #[.int .i64 0, .int .i64 0, .int .i64 0, .int .i64 0] 97) ∧ Mod noB W1 W1.drew) := ⟨HB.out.1, HB.out.2, (Mod.refl _ _).drew⟩
  generalize hwd : W1.drew = wd at *
  clear hwd
  refine wpAnyH_take (i := 0) (oi := { dst := some 6, op := Op.fieldAddr 97 (Operand.tmp 2) 0, type := 0, pos := "saw.go:36", after := #[], guard := none }) (v := ?_) rfl (by kernel_rfl) (by kernel_rfl) (by kernel_rfl) (fun _ _ _ h => h) (Or.inl ⟨by rfl, ?_⟩) (by assumption) ?_
  rotate_left
  · intro w hSw
    (try dsimp only at hSw)
    go_simp
    first | done | with_reducible rfl
  try simp only [Act.put, List.setIfInBounds_toArray, List.set_cons_zero, List.set_cons_succ]
  refine wpAnyH_take (i := 1) (oi := { dst := some 7, op := Op.load 3 (Operand.tmp 6), type := 3, pos := "saw.go:36", after := #[{ on := 0, ground := Ground.data }], guard := none }) (v := ?_) rfl (by kernel_rfl) (by kernel_rfl) (by kernel_rfl) (fun _ _ _ h => h) (Or.inl ⟨by rfl, ?_⟩) (by assumption) ?_
  rotate_left
  · intro w hSw
    (try dsimp only at hSw)
    go_simp
    first | done | with_reducible rfl
  try simp only [Act.put, List.setIfInBounds_toArray, List.set_cons_zero, List.set_cons_succ]
  refine wpAnyH_take (i := 2) (oi := { dst := some 8, op := Op.fieldAddr 97 (Operand.tmp 2) 1, type := 0, pos := "saw.go:36", after := #[], guard := none }) (v := ?_) rfl (by kernel_rfl) (by kernel_rfl) (by kernel_rfl) (fun _ _ _ h => h) (Or.inl ⟨by rfl, ?_⟩) (by assumption) ?_
  rotate_left
  · intro w hSw
    (try dsimp only at hSw)
    go_simp
    first | done | with_reducible rfl
  try simp only [Act.put, List.setIfInBounds_toArray, List.set_cons_zero, List.set_cons_succ]
  refine wpAnyH_take (i := 3) (oi := { dst := some 9, op := Op.load 3 (Operand.tmp 8), type := 3, pos := "saw.go:36", after := #[{ on := 2, ground := Ground.data }], guard := none }) (v := ?_) rfl (by kernel_rfl) (by kernel_rfl) (by kernel_rfl) (fun _ _ _ h => h) (Or.inl ⟨by rfl, ?_⟩) (by assumption) ?_
  rotate_left
  · intro w hSw
    (try dsimp only at hSw)
    go_simp
    first | done | with_reducible rfl
  try simp only [Act.put, List.setIfInBounds_toArray, List.set_cons_zero, List.set_cons_succ]
  refine wpAnyH_take (i := 4) (oi := { dst := some 10, op := Op.move (Operand.tmp 1), type := 3, pos := "saw.go:36", after := #[], guard := none }) (v := ?_) rfl (by kernel_rfl) (by kernel_rfl) (by kernel_rfl) (fun _ _ _ h => h) (Or.inl ⟨by rfl, ?_⟩) (by assumption) ?_
  rotate_left
  · intro w hSw
    (try dsimp only at hSw)
    go_simp
    first | done | with_reducible rfl
  try simp only [Act.put, List.setIfInBounds_toArray, List.set_cons_zero, List.set_cons_succ]
  refine wpAnyH_take (i := 5) (oi := { dst := some 11, op := Op.fieldAddr 97 (Operand.tmp 2) 3, type := 0, pos := "saw.go:36", after := #[], guard := none }) (v := ?_) rfl (by kernel_rfl) (by kernel_rfl) (by kernel_rfl) (fun _ _ _ h => h) (Or.inl ⟨by rfl, ?_⟩) (by assumption) ?_
  rotate_left
  · intro w hSw
    (try dsimp only at hSw)
    go_simp
    first | done | with_reducible rfl
  try simp only [Act.put, List.setIfInBounds_toArray, List.set_cons_zero, List.set_cons_succ]
  refine wpAnyH_take (i := 6) (oi := { dst := some 12, op := Op.load 3 (Operand.tmp 11), type := 3, pos := "saw.go:36", after := #[{ on := 5, ground := Ground.data }], guard := none }) (v := ?_) rfl (by kernel_rfl) (by kernel_rfl) (by kernel_rfl) (fun _ _ _ h => h) (Or.inl ⟨by rfl, ?_⟩) (by assumption) ?_
  rotate_left
  · intro w hSw
    (try dsimp only at hSw)
    go_simp
    first | done | with_reducible rfl
  try simp only [Act.put, List.setIfInBounds_toArray, List.set_cons_zero, List.set_cons_succ]
  refine wpAnyH_take (i := 7) (oi := { dst := some 13, op := Op.build 97 #[(0, Operand.tmp 7), (1, Operand.tmp 9), (2, Operand.tmp 10), (3, Operand.tmp 12)], type := 97, pos := "saw.go:36", after := #[{ on := 1, ground := Ground.data }, { on := 3, ground := Ground.data }, { on := 4, ground := Ground.data }, { on := 6, ground := Ground.data }], guard := none }) (v := ?_) rfl (by kernel_rfl) (by kernel_rfl) (by kernel_rfl) (fun _ _ _ h => h) (Or.inl ⟨by rfl, ?_⟩) (by assumption) ?_
  rotate_left
  · intro w hSw
    (try dsimp only at hSw)
    go_simp
    first | done | with_reducible rfl
  try simp only [Act.put, List.setIfInBounds_toArray, List.set_cons_zero, List.set_cons_succ]
  refine wpAnyH_take (i := 8) (oi := { dst := some 14, op := Op.move (Operand.tmp 1), type := 3, pos := "saw.go:36", after := #[{ on := 16, ground := Ground.gcOnly Departure.lateStores }], guard := none }) (v := ?_) rfl (by kernel_rfl) (by kernel_rfl) (by kernel_rfl) (fun _ _ _ h => h) (Or.inl ⟨by rfl, ?_⟩) (by assumption) ?_
  rotate_left
  · intro w hSw
    (try dsimp only at hSw)
    go_simp
    first | done | with_reducible rfl
  try simp only [Act.put, List.setIfInBounds_toArray, List.set_cons_zero, List.set_cons_succ]
  refine wpAnyH_take (i := 9) (oi := { dst := some 15, op := Op.fieldAddr 97 (Operand.tmp 2) 1, type := 0, pos := "saw.go:36", after := #[{ on := 16, ground := Ground.gcOnly Departure.lateStores }], guard := none }) (v := ?_) rfl (by kernel_rfl) (by kernel_rfl) (by kernel_rfl) (fun _ _ _ h => h) (Or.inl ⟨by rfl, ?_⟩) (by assumption) ?_
  rotate_left
  · intro w hSw
    (try dsimp only at hSw)
    go_simp
    first | done | with_reducible rfl
  try simp only [Act.put, List.setIfInBounds_toArray, List.set_cons_zero, List.set_cons_succ]
  refine wpAnyH_take (i := 10) (oi := { dst := some 16, op := Op.load 3 (Operand.tmp 15), type := 3, pos := "saw.go:36", after := #[{ on := 9, ground := Ground.data }, { on := 16, ground := Ground.gcOnly Departure.lateStores }], guard := none }) (v := ?_) rfl (by kernel_rfl) (by kernel_rfl) (by kernel_rfl) (fun _ _ _ h => h) (Or.inl ⟨by rfl, ?_⟩) (by assumption) ?_
  rotate_left
  · intro w hSw
    (try dsimp only at hSw)
    go_simp
    first | done | with_reducible rfl
  try simp only [Act.put, List.setIfInBounds_toArray, List.set_cons_zero, List.set_cons_succ]
  refine wpAnyH_take (i := 11) (oi := { dst := some 17, op := Op.fieldAddr 97 (Operand.tmp 2) 2, type := 0, pos := "saw.go:36", after := #[{ on := 16, ground := Ground.gcOnly Departure.lateStores }], guard := none }) (v := ?_) rfl (by kernel_rfl) (by kernel_rfl) (by kernel_rfl) (fun _ _ _ h => h) (Or.inl ⟨by rfl, ?_⟩) (by assumption) ?_
  rotate_left
  · intro w hSw
    (try dsimp only at hSw)
    go_simp
    first | done | with_reducible rfl
  try simp only [Act.put, List.setIfInBounds_toArray, List.set_cons_zero, List.set_cons_succ]
  refine wpAnyH_take (i := 12) (oi := { dst := some 18, op := Op.load 3 (Operand.tmp 17), type := 3, pos := "saw.go:36", after := #[{ on := 11, ground := Ground.data }, { on := 16, ground := Ground.gcOnly Departure.lateStores }], guard := none }) (v := ?_) rfl (by kernel_rfl) (by kernel_rfl) (by kernel_rfl) (fun _ _ _ h => h) (Or.inl ⟨by rfl, ?_⟩) (by assumption) ?_
  rotate_left
  · intro w hSw
    (try dsimp only at hSw)
    go_simp
    first | done | with_reducible rfl
  try simp only [Act.put, List.setIfInBounds_toArray, List.set_cons_zero, List.set_cons_succ]
  refine wpAnyH_take (i := 13) (oi := { dst := some 19, op := Op.fieldAddr 97 (Operand.tmp 2) 3, type := 0, pos := "saw.go:36", after := #[{ on := 16, ground := Ground.gcOnly Departure.lateStores }], guard := none }) (v := ?_) rfl (by kernel_rfl) (by kernel_rfl) (by kernel_rfl) (fun _ _ _ h => h) (Or.inl ⟨by rfl, ?_⟩) (by assumption) ?_
  rotate_left
  · intro w hSw
    (try dsimp only at hSw)
    go_simp
    first | done | with_reducible rfl
  try simp only [Act.put, List.setIfInBounds_toArray, List.set_cons_zero, List.set_cons_succ]
  refine wpAnyH_take (i := 14) (oi := { dst := some 20, op := Op.load 3 (Operand.tmp 19), type := 3, pos := "saw.go:36", after := #[{ on := 13, ground := Ground.data }, { on := 16, ground := Ground.gcOnly Departure.lateStores }], guard := none }) (v := ?_) rfl (by kernel_rfl) (by kernel_rfl) (by kernel_rfl) (fun _ _ _ h => h) (Or.inl ⟨by rfl, ?_⟩) (by assumption) ?_
  rotate_left
  · intro w hSw
    (try dsimp only at hSw)
    go_simp
    first | done | with_reducible rfl
  try simp only [Act.put, List.setIfInBounds_toArray, List.set_cons_zero, List.set_cons_succ]
  refine wpAnyH_take (i := 15) (oi := { dst := some 21, op := Op.build 97 #[(0, Operand.tmp 14), (1, Operand.tmp 16), (2, Operand.tmp 18), (3, Operand.tmp 20)], type := 97, pos := "saw.go:36", after := #[{ on := 8, ground := Ground.data }, { on := 10, ground := Ground.data }, { on := 12, ground := Ground.data }, { on := 14, ground := Ground.data }, { on := 16, ground := Ground.gcOnly Departure.lateStores }], guard := none }) (v := ?_) rfl (by kernel_rfl) (by kernel_rfl) (by kernel_rfl) (fun _ _ _ h => h) (Or.inl ⟨by rfl, ?_⟩) (by assumption) ?_
  rotate_left
  · intro w hSw
    (try dsimp only at hSw)
    go_simp
    first | done | with_reducible rfl
  try simp only [Act.put, List.setIfInBounds_toArray, List.set_cons_zero, List.set_cons_succ]
  refine wpAnyH_ready (rs := [16]) (by kernel_rfl) (by simp) (AllReadyH.cons (o := { dst := none, op := Op.store 97 (Operand.tmp 4) (Operand.tmp 13), type := 0, pos := "saw.go:36", after := #[{ on := 7, ground := Ground.data }, { on := 0, ground := Ground.phase }, { on := 1, ground := Ground.phase }, { on := 2, ground := Ground.phase }, { on := 3, ground := Ground.phase }, { on := 4, ground := Ground.phase }, { on := 5, ground := Ground.phase }, { on := 6, ground := Ground.phase }, { on := 7, ground := Ground.phase }, { on := 8, ground := Ground.textOnly Departure.lateStores }, { on := 9, ground := Ground.textOnly Departure.lateStores }, { on := 10, ground := Ground.textOnly Departure.lateStores }, { on := 11, ground := Ground.textOnly Departure.lateStores }, { on := 12, ground := Ground.textOnly Departure.lateStores }, { on := 13, ground := Ground.textOnly Departure.lateStores }, { on := 14, ground := Ground.textOnly Departure.lateStores }, { on := 15, ground := Ground.textOnly Departure.lateStores }], guard := none }) rfl (fun K hK => ?_) AllReadyH.nil)
  go_simp
  refine hK.out _ _ ?_ (fun hHeld => ?_)
  · exact HS.out _ (RB2.set1 HR1.out _ _ _ _)
  clear hK K
  try simp only [Act.put, List.setIfInBounds_toArray, List.set_cons_zero, List.set_cons_succ]
  have HR2 := Hold.mk (RB2.set1 HR1.out (.int .i64 a) (.int .i64 b) (.int .i64 at') (.int .i64 d))
  have HE := Hold.mk (And.intro (set4 HD.out.1 (.int .i64 a) (.int .i64 b) (.int .i64 at') (.int .i64 d)).1 (And.intro ((set4 HD.out.1 (.int .i64 a) (.int .i64 b) (.int .i64 at') (.int .i64 d)).2.at HD.out.2.1 (by omega)) (set4 HD.out.1 (.int .i64 a) (.int .i64 b) (.int .i64 at') (.int .i64 d)).2))
  generalize hwe : World.setCell (World.setCell (World.setCell (World.setCell wd _ _) _ _) _ _) _ _ = we at *
  refine wpAnyH_ready (rs := [17]) (by kernel_rfl) (by simp) (AllReadyH.cons (o := { dst := none, op := Op.store 97 (Operand.tmp 5) (Operand.tmp 21), type := 0, pos := "saw.go:36", after := #[{ on := 15, ground := Ground.data }, { on := 16, ground := Ground.chain }, { on := 0, ground := Ground.phase }, { on := 1, ground := Ground.phase }, { on := 2, ground := Ground.phase }, { on := 3, ground := Ground.phase }, { on := 4, ground := Ground.phase }, { on := 5, ground := Ground.phase }, { on := 6, ground := Ground.phase }, { on := 7, ground := Ground.phase }, { on := 8, ground := Ground.phase }, { on := 9, ground := Ground.phase }, { on := 10, ground := Ground.phase }, { on := 11, ground := Ground.phase }, { on := 12, ground := Ground.phase }, { on := 13, ground := Ground.phase }, { on := 14, ground := Ground.phase }, { on := 15, ground := Ground.phase }, { on := 16, ground := Ground.phase }], guard := none }) rfl (fun K hK => ?_) AllReadyH.nil)
  go_simp
  refine hK.out _ _ ?_ (fun hHeld => ?_)
  · exact HS.out _ (RB2.set2 HR2.out _ _ _ _)
  clear hK K
  try simp only [Act.put, List.setIfInBounds_toArray, List.set_cons_zero, List.set_cons_succ]
  refine wpAnyH_done (by kernel_rfl) ?_ _
  refine NoPanic.normal ?_
  clear hHeld HS HR2
  go_wp2
  obtain ⟨e1, e2, e3⟩ := HE.out
  obtain ⟨g1, g2⟩ := set4 e2 (.int .i64 at') (.int .i64 b) (.int .i64 c) (.int .i64 d)
  refine split_end rfl (Nat.le_succ _) rfl rfl (g2.at e1 (by omega)) g1 ?_
  exact (((HM1.out.trans HD.out.2.2).then e3 (fun i h1 h2 => by omega)).then g2 (fun i h1 h2 => by omega))

end Go.Proofs.Ytogalmkeipigeaa

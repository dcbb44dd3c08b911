/- FitPairings: one number taken out of those that are left; the walk. -/
import Derived.Test.YtnjbamikfjdofaaPrT
import Derived.Test.YtnjbamikfjdofaaTruRa
import Derived.ArgAppend
import Derived.Test.YtnjbamikfjdofaaPrK
import Derived.Maps.AppendAt
import Derived.Deep.DeepCutAuto
import Derived.Deep.CutRange
set_option linter.unusedSimpArgs false
set_option linter.unusedVariables false
namespace Go.Proofs.Ytnjbamikfjdofaa
section
open Go.RowKit Go.Shelf

@[reducible] def l0 : Oper := { dst := some 113, op := Op.move (Operand.tmp 15), type := 43, pos := "outright.go:268", after := #[], guard := none }
@[reducible] def l1 : Oper := { dst := some 114, op := Op.move (Operand.tmp 18), type := 3, pos := "outright.go:268", after := #[], guard := none }
@[reducible] def l2 : Oper := { dst := some 115, op := Op.move (Operand.tmp 18), type := 3, pos := "outright.go:268", after := #[], guard := none }
@[reducible] def l3 : Oper := { dst := some 116, op := Op.slice 43 (Operand.tmp 113) none (some (Operand.tmp 114)) (some (Operand.tmp 115)), type := 43, pos := "outright.go:268", after := #[{ on := 0, ground := Ground.data }, { on := 1, ground := Ground.data }, { on := 2, ground := Ground.data }], guard := none }
@[reducible] def l4 : Oper := { dst := some 117, op := Op.move (Operand.tmp 15), type := 43, pos := "outright.go:268", after := #[], guard := none }
@[reducible] def l5 : Oper := { dst := some 118, op := Op.move (Operand.tmp 18), type := 3, pos := "outright.go:268", after := #[], guard := none }
@[reducible] def l6 : Oper := { dst := some 119, op := Op.binOp BinOp.add 3 (Operand.tmp 118) (Operand.const (Value.int IntKind.i64 1)) 3, type := 3, pos := "outright.go:268", after := #[{ on := 5, ground := Ground.data }], guard := none }
@[reducible] def l7 : Oper := { dst := some 120, op := Op.slice 43 (Operand.tmp 117) (some (Operand.tmp 119)) none none, type := 43, pos := "outright.go:268", after := #[{ on := 4, ground := Ground.data }, { on := 6, ground := Ground.data }], guard := none }
@[reducible] def l8 : Oper := { dst := some 121, op := Op.call { callee := Callee.builtin Builtin.append, args := #[Operand.tmp 116, Operand.tmp 120], argTypes := #[43, 43] }, type := 43, pos := "outright.go:268", after := #[{ on := 3, ground := Ground.data }, { on := 7, ground := Ground.data }], guard := none }
@[reducible] def l9 : Oper := { dst := some 15, op := Op.assign (Operand.tmp 121), type := 43, pos := "outright.go:268", after := #[{ on := 8, ground := Ground.data }, { on := 8, ground := Ground.chain }, { on := 0, ground := Ground.phase }, { on := 1, ground := Ground.phase }, { on := 2, ground := Ground.phase }, { on := 3, ground := Ground.phase }, { on := 4, ground := Ground.phase }, { on := 5, ground := Ground.phase }, { on := 6, ground := Ground.phase }, { on := 7, ground := Ground.phase }, { on := 8, ground := Ground.phase }], guard := none }
@[reducible] def opsL : List Oper := [l0, l1, l2, l3, l4, l5, l6, l7, l8, l9]
@[reducible] def dsL : List (Nat × Nat) := [(0, 113), (1, 114), (2, 115), (3, 116), (4, 117), (5, 118), (6, 119), (7, 120), (8, 121), (9, 15)]

/-- Those that are left lie there. -/
structure LeftAt (w : World) (b off n cap : Nat) (Ll : List Int) : Prop where
  len : Ll.length = n
  fits : n ≤ cap
  most : cap ≤ 9223372036854775807
  lt : b < w.heap.size
  cell : ∀ j, j < n → w.cell? ⟨b, off + j, none⟩ = some (.int .i64 (Ll[j]?.getD 0))
theorem LeftAt.mod {w w' : World} {b off n cap : Nat} {Ll : List Int} {T : Nat → Prop} (h : LeftAt w b off n cap Ll) (hm : Mod T w w') (hn : ¬ T b) : LeftAt w' b off n cap Ll :=
  ⟨h.len, h.fits, h.most, Nat.lt_of_lt_of_le h.lt hm.size, fun j hj => (cell_same (hm.block b h.lt hn) _).trans (h.cell j hj)⟩
/-- A slice's value, and what is left. -/
def LeftV (w0 : Nat) (b0 : Nat) (v : Value) (Ll : List Int) (w : World) : Prop := ∃ b off cap, v = .slice (some ⟨b, off, none⟩) Ll.length cap ∧ LeftAt w b off Ll.length cap Ll ∧ (b = b0 ∨ w0 ≤ b)

section
variable {o : Oper} {a : Act} {w : World} {x y z : Operand}
theorem run_sliceA (hop : o.op = .slice 43 x none (some y) (some z)) {b f n c k : Nat} (hx : a.eval x = .slice (some ⟨b, f, none⟩) n c) (hy : a.eval y = .int .i64 k) (hz : a.eval z = .int .i64 k) (hk : k < n) (hc : n ≤ c) (hm : c ≤ 9223372036854775807) : (execOp a.eval o).run Try.prog w = .ok (.value (.slice (some ⟨b, f, none⟩) k k)) w := by
  have h1 : (k : Int) ≤ c := by omega
  have h2 : (k : Int) ≤ k := by omega
  have h3 : k ≤ c := by omega
  simp only [execOp, hop, Option.map_some, Option.map_none, hx, hy, hz]
  go_simp
  done
theorem run_sliceB (hop : o.op = .slice 43 x (some y) none none) {b f n c k : Nat} (hx : a.eval x = .slice (some ⟨b, f, none⟩) n c) (hy : a.eval y = .int .i64 ((k : Int) + 1)) (hk : k < n) (hc : n ≤ c) (hm : c ≤ 9223372036854775807) : (execOp a.eval o).run Try.prog w = .ok (.value (.slice (if c = k + 1 then some ⟨b, f, none⟩ else some ⟨b, f + (k + 1), none⟩) (n - (k + 1)) (c - (k + 1)))) w := by
  have h1 : (k : Int) + 1 ≤ n := by omega
  have h0 : 0 ≤ (k : Int) + 1 := by omega
  simp only [execOp, hop, Option.map_some, Option.map_none, hx, hy]
  go_simp
  done
theorem run_addN (hop : o.op = .binOp .add 3 x (.const (.int .i64 1)) 3) {k : Nat} (hx : a.eval x = .int .i64 k) (hk : k ≤ 1000000000) : (execOp a.eval o).run Try.prog w = .ok (.value (.int .i64 ((k : Int) + 1))) w :=
  run_add hop hx rfl rfl (by omega) (by omega)
end

theorem cut_get {Ll : List Int} {k j : Nat} (hk : k < Ll.length) (hj : j < Ll.length - 1) : (Ll.take k ++ Ll.drop (k + 1))[j]?.getD 0 = if j < k then Ll[j]?.getD 0 else Ll[j + 1]?.getD 0 := by
  split
  · rw [List.getElem?_append_left (by simp; omega), List.getElem?_take_of_lt (by omega)]
  · rw [List.getElem?_append_right (by simp; omega), List.length_take, List.getElem?_drop, Nat.min_eq_left (by omega)]
    congr 2; omega
theorem cut_len {Ll : List Int} {k : Nat} (hk : k < Ll.length) : (Ll.take k ++ Ll.drop (k + 1)).length = Ll.length - 1 := by
  rw [List.length_append, List.length_take, List.length_drop]; omega

/-- What each operation yields. -/
def PL (s b off n cap k : Nat) (Ll : List Int) : Nat → Value → World → Prop
  | 0 | 4 => fun v _ => v = .slice (some ⟨b, off, none⟩) n cap
  | 1 | 2 | 5 => fun v _ => v = .int .i64 k
  | 3 => fun v _ => v = .slice (some ⟨b, off, none⟩) k k
  | 6 => fun v _ => v = .int .i64 ((k : Int) + 1)
  | 7 => fun v _ => v = .slice (if cap = k + 1 then some ⟨b, off, none⟩ else some ⟨b, off + (k + 1), none⟩) (n - (k + 1)) (cap - (k + 1))
  | 8 | 9 => fun v w => LeftV s b v (Ll.take k ++ Ll.drop (k + 1)) w
  | _ => fun _ _ => True

theorem LeftV.mod {s b : Nat} {v : Value} {Ll : List Int} {w w' : World} (h : LeftV s b v Ll w) (hm : Mod noB w w') : LeftV s b v Ll w' := by
  obtain ⟨b', off, cap, e, h1, h2⟩ := h
  exact ⟨b', off, cap, e, h1.mod hm id, h2⟩

set_option maxRecDepth 100000 in
set_option maxHeartbeats 8000000 in
theorem region_left {rid : Nat} {Q : Exit → Act → World → Prop} {a0 : Act} {w : World} {b off n cap k : Nat} {Ll : List Int} (hsz : a0.tmps.size = 247)
    (x15 : a0.eval (.tmp 15) = .slice (some ⟨b, off, none⟩) n cap) (x18 : a0.eval (.tmp 18) = .int .i64 k) (hk : k < n) (hn : n ≤ 1000) (hl : LeftAt w b off n cap Ll)
    (hend : ∀ (vs : Nat → Value) w', Mod noB w w' → LeftV w.heap.size b (vs 9) (Ll.take k ++ Ll.drop (k + 1)) w' → Q .normal (dsL.foldl (fun a x => a.put (some x.2) (vs x.1)) a0) w') : (Code.region rid opsL.toArray true).wp Try.prog Q a0 w := by
  obtain ⟨i0, hi, hz0, hz1, hz2⟩ := info_parts info3
  have hlen := hl.len
  refine region_predW (by kernel_rfl) dsL (PL w.heap.size b off n cap k Ll) (fun _ w' => Mod noB w w') (fun w1 w2 => Mod noB w1 w2) ?_ (by decide) (by decide) ?_ ?_ ?_ ?_ ((Mod.refl _ w).drew) ?_ ?_
  · intro j v w1 w2 hP hR
    match j, hP with
    | 0, h => exact h
    | 1, h => exact h
    | 2, h => exact h
    | 3, h => exact h
    | 4, h => exact h
    | 5, h => exact h
    | 6, h => exact h
    | 7, h => exact h
    | 8, h => exact LeftV.mod h hR
    | 9, h => exact LeftV.mod h hR
    | j + 10, h => trivial
  · intro x hx; rw [hsz]
    simp only [dsL, List.mem_cons, List.not_mem_nil, or_false] at hx
    rcases hx with rfl | rfl | rfl | rfl | rfl | rfl | rfl | rfl | rfl | rfl <;> decide
  · intro i o s ho hs
    have hlt : i < 10 := (List.getElem?_eq_some_iff.1 ho).1
    rcases (by omega : i = 0 ∨ i = 1 ∨ i = 2 ∨ i = 3 ∨ i = 4 ∨ i = 5 ∨ i = 6 ∨ i = 7 ∨ i = 8 ∨ i = 9) with rfl | rfl | rfl | rfl | rfl | rfl | rfl | rfl | rfl | rfl
    all_goals (obtain rfl := Option.some.inj ho; first | (cases hs; done) | (cases hs; decide))
  · intro i o ho hs
    have hlt : i < 10 := (List.getElem?_eq_some_iff.1 ho).1
    rcases (by omega : i = 0 ∨ i = 1 ∨ i = 2 ∨ i = 3 ∨ i = 4 ∨ i = 5 ∨ i = 6 ∨ i = 7 ∨ i = 8 ∨ i = 9) with rfl | rfl | rfl | rfl | rfl | rfl | rfl | rfl | rfl | rfl
    all_goals (obtain rfl := Option.some.inj ho; exact absurd hs (by decide))
  · intro x hx
    simp only [dsL, List.mem_cons, List.not_mem_nil, or_false] at hx
    rcases hx with rfl | rfl | rfl | rfl | rfl | rfl | rfl | rfl | rfl | rfl <;> decide
  · intro D i o ρ w' hcl ho hD hdep EV EO hW
    have hlt : i < 10 := (List.getElem?_eq_some_iff.1 ho).1
    have c9 : D 9 = true → D 8 = true := fun h => hcl 9 l9 rfl h ⟨8, .data⟩ (by simp) rfl
    have c8 : D 8 = true → D 3 = true ∧ D 7 = true := fun h => ⟨hcl 8 l8 rfl h ⟨3, .data⟩ (by simp) rfl, hcl 8 l8 rfl h ⟨7, .data⟩ (by simp) rfl⟩
    have c3 : D 3 = true → D 0 = true := fun h => hcl 3 l3 rfl h ⟨0, .data⟩ (by simp) rfl
    have c7 : D 7 = true → D 4 = true := fun h => hcl 7 l7 rfl h ⟨4, .data⟩ (by simp) rfl
    have e15 : i = 0 ∨ i = 4 → ρ.eval (.tmp 15) = .slice (some ⟨b, off, none⟩) n cap := fun h => (EO 15 (fun x hx e => by
      simp only [dsL, List.mem_cons, List.not_mem_nil, or_false] at hx
      rcases hx with rfl | rfl | rfl | rfl | rfl | rfl | rfl | rfl | rfl | rfl <;> simp at e
      cases h9 : D 9 with
      | false => rfl
      | true =>
        have h8 := c8 (c9 h9)
        rcases h with rfl | rfl
        · rw [c3 h8.1] at hD; cases hD
        · rw [c7 h8.2] at hD; cases hD)).trans x15
    have e18 : ρ.eval (.tmp 18) = .int .i64 k := (EO 18 (fun x hx e => absurd (e ▸ List.mem_map.2 ⟨x, hx, rfl⟩ : 18 ∈ dsL.map Prod.snd) (by decide))).trans x18
    have hla := hl.mod hW id
    clear EO hcl c9 c8 c3 c7
    rcases (by omega : i = 0 ∨ i = 1 ∨ i = 2 ∨ i = 3 ∨ i = 4 ∨ i = 5 ∨ i = 6 ∨ i = 7 ∨ i = 8 ∨ i = 9) with rfl | rfl | rfl | rfl | rfl | rfl | rfl | rfl | rfl | rfl
    all_goals (obtain rfl := Option.some.inj ho)
    · exact step_move rfl (.tmp 15) rfl ⟨⟨_, rfl, fun _ => e15 (.inl rfl)⟩, Mod.refl _ _, hW⟩
    · exact step_move rfl (.tmp 18) rfl ⟨⟨_, rfl, fun _ => e18⟩, Mod.refl _ _, hW⟩
    · exact step_move rfl (.tmp 18) rfl ⟨⟨_, rfl, fun _ => e18⟩, Mod.refl _ _, hW⟩
    · have v0 := EV 0 113 (by simp) (hdep ⟨0, .data⟩ (by simp) rfl); change _ = _ at v0
      have v1 := EV 1 114 (by simp) (hdep ⟨1, .data⟩ (by simp) rfl); change _ = _ at v1
      have v2 := EV 2 115 (by simp) (hdep ⟨2, .data⟩ (by simp) rfl); change _ = _ at v2
      exact step_val rfl _ (run_sliceA rfl v0 v1 v2 hk hl.fits hl.most) ⟨⟨_, rfl, fun _ => rfl⟩, Mod.refl _ _, hW⟩
    · exact step_move rfl (.tmp 15) rfl ⟨⟨_, rfl, fun _ => e15 (.inr rfl)⟩, Mod.refl _ _, hW⟩
    · exact step_move rfl (.tmp 18) rfl ⟨⟨_, rfl, fun _ => e18⟩, Mod.refl _ _, hW⟩
    · have v5 := EV 5 118 (by simp) (hdep ⟨5, .data⟩ (by simp) rfl); change _ = _ at v5
      exact step_val rfl _ (run_addN rfl v5 (by omega)) ⟨⟨_, rfl, fun _ => rfl⟩, Mod.refl _ _, hW⟩
    · have v4 := EV 4 117 (by simp) (hdep ⟨4, .data⟩ (by simp) rfl); change _ = _ at v4
      have v6 := EV 6 119 (by simp) (hdep ⟨6, .data⟩ (by simp) rfl); change _ = _ at v6
      exact step_val rfl _ (run_sliceB rfl v4 v6 hk hl.fits hl.most) ⟨⟨_, rfl, fun _ => rfl⟩, Mod.refl _ _, hW⟩
    · have v3 := EV 3 116 (by simp) (hdep ⟨3, .data⟩ (by simp) rfl); change _ = _ at v3
      have v7 := EV 7 120 (by simp) (hdep ⟨7, .data⟩ (by simp) rfl); change _ = _ at v7
      have holds : ∀ j u, ((Ll.take k).map (Value.int .i64))[j]? = some u → w'.cell? ⟨b, off + j, none⟩ = some u := fun j u hj => by
        have hjk : j < k := by have := (List.getElem?_eq_some_iff.1 hj).1; simp at this; omega
        rw [hla.cell j (by omega)]
        rw [List.getElem?_map, List.getElem?_take_of_lt hjk, List.getElem?_eq_getElem (by omega)] at hj
        rw [List.getElem?_eq_getElem (by omega)]; exact hj
      have news : ∀ j u, ((Ll.drop (k + 1)).map (Value.int .i64))[j]? = some u → w'.cell? (Addr.add ⟨b, off + (k + 1), none⟩ j) = some u := fun j u hj => by
        have hjk : j < Ll.length - (k + 1) := by have := (List.getElem?_eq_some_iff.1 hj).1; simpa using this
        rw [Addr.add_mid, Nat.add_assoc, hla.cell (k + 1 + j) (by omega)]
        rw [List.getElem?_map, List.getElem?_drop, List.getElem?_eq_getElem (by omega)] at hj
        rw [List.getElem?_eq_getElem (by omega)]; exact hj
      rcases Nat.eq_zero_or_pos (n - (k + 1)) with h0 | h0
      · have hd0 : Ll.drop (k + 1) = [] := List.drop_eq_nil_of_le (by omega)
        obtain ⟨ad, had⟩ : ∃ ad, (if cap = k + 1 then some (⟨b, off, none⟩ : Addr) else some ⟨b, off + (k + 1), none⟩) = some ad := by split <;> exact ⟨_, rfl⟩
        rw [had, h0] at v7
        refine wpList_append_arg w' rfl (.tmp 116) (.tmp 120) 43 rfl 3 i0 (.int .i64 0) 1 8 Try.underlying43 hi hz0 hz1 hz2 rfl (by decide) b off k k ((Ll.take k).map (Value.int .i64)) v3 (by simp; omega) holds ad 0 (cap - (k + 1)) [] v7 rfl (fun j u hj => by simp at hj) (fun u hu => by simp at hu) (fun _ j hj => by simp at hj) (by unfold maxLen; omega) (by omega) ?_ (fun h => by omega)
        intro _
        have hw : w'.setCells b (off + k * 1) [] = w' := rfl
        rw [hw]
        refine ⟨rfl, ⟨_, rfl, fun _ => ⟨b, off, k, ?_, ?_, .inl rfl⟩⟩, Mod.refl _ _, hW⟩
        · rw [cut_len (by omega), show Ll.length - 1 = k by omega]; rfl
        · rw [cut_len (by omega), show Ll.length - 1 = k by omega]
          exact ⟨by rw [cut_len (by omega)]; omega, Nat.le_refl _, by omega, hla.lt, fun j hj => by rw [cut_get (by omega) (by omega), if_pos hj]; exact hla.cell j (by omega)⟩
      · have hcapne : ¬ cap = k + 1 := by have := hl.fits; omega
        rw [if_neg hcapne] at v7
        refine wpList_append_arg w' rfl (.tmp 116) (.tmp 120) 43 rfl 3 i0 (.int .i64 0) 1 8 Try.underlying43 hi hz0 hz1 hz2 rfl (by decide) b off k k ((Ll.take k).map (Value.int .i64)) v3 (by simp; omega) holds ⟨b, off + (k + 1), none⟩ (n - (k + 1)) (cap - (k + 1)) ((Ll.drop (k + 1)).map (Value.int .i64)) v7 (by simp; omega) news (ints_one _) (fun h => by omega) (by unfold maxLen; omega) (by omega) (fun h => by omega) ?_
        intro _ v' w2 hown hgr
        have hm : Mod noB w' w2 := Mod.of_grownBy hgr (fun r hr => by cases hr)
        refine ⟨rfl, ⟨v', rfl, fun _ => ?_⟩, hm, hW.trans hm⟩
        obtain ⟨hl2, ⟨rfl, hz⟩ | ⟨g, cp, cur, rfl, hgb, hg2, h1, hcm, h2, h3⟩⟩ := hown
        · omega
        · have hle := hW.size
          rw [← List.map_append] at h3
          have e1 : k + (n - (k + 1)) = Ll.length - 1 := by omega
          refine ⟨g, 0, cp, by rw [cut_len (by omega), e1], ⟨rfl, by rw [cut_len (by omega)]; omega, ?_, (Array.getElem?_eq_some_iff.1 hg2).1, fun j hj => ?_⟩, .inr (by omega)⟩
          · unfold maxLen at hcm; exact hcm
          · rw [cut_len (by omega)] at hj
            rw [Nat.zero_add, cellsAt hg2]
            have h4 := congrArg (fun l => l[j]?) h3
            rw [List.getElem?_take_of_lt (by omega), List.getElem?_map, Array.getElem?_toList, List.getElem?_eq_getElem (by rw [cut_len (by omega)]; exact hj)] at h4
            rw [h4, List.getElem?_eq_getElem (by rw [cut_len (by omega)]; exact hj)]
            rfl
    · have v8 := EV 8 121 (by simp) (hdep ⟨8, .data⟩ (by simp) rfl)
      exact step_assign rfl (.tmp 121) rfl ⟨⟨_, rfl, fun _ => v8⟩, Mod.refl _ _, hW⟩
  · intro vs D w' hall hP hW
    exact hend vs w' hW (hP (9, 15) (by simp))
end

section
open Go.RowKit Go.Shelf

def PK (p : Ply) (tt ho : Option Addr) (n m ct ch : Nat) (w w' : World) : Prop := ((Mod noB w w' ∧ w'.heap[w.heap.size]? = some (.cells (plC p) 25)) ∧ w'.heap[w.heap.size + 1]? = some (.cells #[.slice tt n ct] 42)) ∧ w'.heap[w.heap.size + 1 + 1]? = some (.cells #[.slice ho m ch] 42)
theorem pk_kept (p : Ply) (tt ho : Option Addr) (n m ct ch : Nat) (w : World) : Kept (((w.alloc (.cells (plC p) 25)).alloc (.cells #[.slice tt n ct] 42)).alloc (.cells #[.slice ho m ch] 42)) (PK p tt ho n m ct ch w) := fun w' h => by
  rw [allocL3] at h
  exact ⟨⟨⟨(allocL_mod noB _ w).trans h, at_allocL _ h 0 _ rfl⟩, at_allocL _ h 1 _ rfl⟩, at_allocL _ h 2 _ rfl⟩

set_option maxRecDepth 100000 in
set_option maxHeartbeats 8000000 in
theorem pr_skip (p : Ply) (tt ho ao : Option Addr) (n m ct ch ln cp : Nat) (w : World) (hn : n ≤ 9223372036854775807) (hm : m ≤ 9223372036854775807) (hl : ln ≤ 9223372036854775807) (hc : 12 < n ∨ (n ≤ 12 ∧ 12 < m) ∨ (n ≤ 12 ∧ m ≤ 12 ∧ ln = 0)) :
    Calls Try.prog 11 #[plV p, .slice tt n ct, .slice ho m ch, .slice ao ln cp] w fun e w' => e = .returned (.bool true) ∧ Mod noB w w' := by
  have HF := Hold.mk (pk_kept p tt ho n m ct ch w)
  rcases hc with h | ⟨h1, h2⟩ | ⟨h1, h2, rfl⟩
  all_goals
    go_enter Try.func11, Try.ntmps11
    go_wp2_with (go_at_call 21; refine (alive_any _).mono ?_; rintro e w9 ⟨rfl, hM⟩; replace HF := Hold.mk (HF.out.later hM); clear hM)
    go_ret
    exact ⟨rfl, HF.out.now.1.1.1⟩

theorem at_ltP {w : World} {b : Nat} {o : Obj} (h : w.heap[b]? = some o) : b < w.heap.size := (Array.getElem?_eq_some_iff.1 h).1

set_option maxRecDepth 100000 in
set_option maxHeartbeats 8000000 in
theorem pr_err (p : Ply) (tt ho ao : Option Addr) (n m ct ch ln cp : Nat) (w : World) (er : Int) (hn : n ≤ 12) (hm : m ≤ 12) (hl : ln ≤ 9223372036854775807) (h1 : 1 ≤ ln) (he : er = 1 ∨ er = 2 ∨ er = 3 ∨ er = 6)
    (P26 : Hold (∀ w', Mod noB w w' → Calls Try.prog 26 #[plV p, .slice tt n ct, .slice ho m ch] w' fun e w2 => TwoAt e w' w2 [] [] er)) :
    Calls Try.prog 11 #[plV p, .slice tt n ct, .slice ho m ch, .slice ao ln cp] w fun e w' => e = .returned (.bool true) ∧ Mod noB w w' := by
  have HF := Hold.mk (pk_kept p tt ho n m ct ch w)
  have f1 : decide ((12 : Int) < (n : Int)) = false := decide_eq_false (by omega)
  have f2 : decide ((12 : Int) < (m : Int)) = false := decide_eq_false (by omega)
  rcases he with rfl | rfl | rfl | rfl
  all_goals
    go_enter Try.func11, Try.ntmps11
    go_wp2_with (first
      | (go_at_call 26; refine (P26.out _ HF.out.now.1.1.1).mono ?_; rintro e w1 ⟨a1, c1, a2, c2, rfl, hi1, hi2, hM⟩; replace HF := Hold.mk (HF.out.later hM); clear hM hi1 hi2)
      | (go_at_call 21; refine (alive_any _).mono ?_; rintro e w9 ⟨rfl, hM⟩; replace HF := Hold.mk (HF.out.later hM); clear hM))
    go_ret
    exact ⟨rfl, HF.out.now.1.1.1⟩
end

section
open Go.RowKit Go.Shelf

def rangeI (k : Nat) : List Int := (List.range k).map (fun (j : Nat) => (j : Int))
theorem rangeI_succ (k : Nat) : rangeI (k + 1) = rangeI k ++ [(k : Int)] := by unfold rangeI; rw [List.range_succ, List.map_append]; rfl
theorem rangeI_len (k : Nat) : (rangeI k).length = k := by simp [rangeI]
theorem rangeI_mem {k : Nat} {x : Int} : x ∈ rangeI k ↔ 0 ≤ x ∧ x < k := by
  unfold rangeI
  simp only [List.mem_map, List.mem_range]
  constructor
  · rintro ⟨j, hj, rfl⟩; omega
  · rintro ⟨h1, h2⟩; exact ⟨x.toNat, by omega, by omega⟩
theorem rangeI_nodup (k : Nat) : (rangeI k).Nodup := by
  unfold rangeI
  unfold List.Nodup
  rw [List.pairwise_map]
  exact List.nodup_range.imp fun h e => h (by omega)

theorem left_of_own {w : World} {base : Nat} {v : Value} {Ll : List Int} (h : w.ownsRow base 3 1 v Ll.length (Ll.map (Value.int .i64))) (hpos : 1 ≤ Ll.length) : ∃ g cap, v = .slice (some ⟨g, 0, none⟩) Ll.length cap ∧ LeftAt w g 0 Ll.length cap Ll ∧ base ≤ g := by
  obtain ⟨hl2, ⟨rfl, hz⟩ | ⟨g, cp, cur, rfl, hgb, hg2, h1, hcm, h2, h3⟩⟩ := h
  · omega
  · refine ⟨g, cp, rfl, ⟨rfl, h1, by unfold maxLen at hcm; exact hcm, (Array.getElem?_eq_some_iff.1 hg2).1, fun j hj => ?_⟩, hgb⟩
    rw [Nat.zero_add, cellsAt hg2]
    have h4 := congrArg (fun l => l[j]?) h3
    rw [List.getElem?_take_of_lt (by omega), List.getElem?_map, Array.getElem?_toList, List.getElem?_eq_getElem hj] at h4
    rw [h4, List.getElem?_eq_getElem hj]
    rfl

theorem own_below {w : World} {base n : Nat} {v : Value} {xs : List Value} (h : w.ownsRow base 3 1 v n xs) {g : Nat} (e : v.ownBlock = some g) : g < w.heap.size := by
  obtain ⟨_, ⟨rfl, _⟩ | ⟨g2, cp, cur, rfl, _, hg2, _⟩⟩ := h
  · cases e
  · obtain rfl : g2 = g := Option.some.inj e
    exact (Array.getElem?_eq_some_iff.1 hg2).1

/-- What is known of the two lists while one is made out of the other. -/
structure Split (m : Nat) (T Ll : List Int) : Prop where
  nd : (T ++ Ll).Nodup
  mem : ∀ x ∈ T ++ Ll, 0 ≤ x ∧ x < m
theorem Split.step {m : Nat} {T Ll : List Int} (h : Split m T Ll) {q : Nat} (hq : q < Ll.length) : Split m (T ++ [Ll[q]?.getD 0]) (Ll.take q ++ Ll.drop (q + 1)) := by
  have e : Ll = Ll.take q ++ Ll[q]?.getD 0 :: Ll.drop (q + 1) := by
    rw [List.getElem?_eq_getElem hq]
    show Ll = Ll.take q ++ Ll[q] :: Ll.drop (q + 1)
    rw [← List.drop_eq_getElem_cons hq, List.take_append_drop]
  have hp : (T ++ Ll).Perm ((T ++ [Ll[q]?.getD 0]) ++ (Ll.take q ++ Ll.drop (q + 1))) := by
    rw [List.append_assoc]
    refine List.Perm.append_left _ ?_
    conv => lhs; rw [e]
    exact List.perm_middle
  exact ⟨hp.nodup_iff.1 h.nd, fun x hx => h.mem x (hp.mem_iff.2 hx)⟩

theorem may_call {p : Ply} {tabs holes : List Edg} {tt ho : Option Addr} {ct ch n : Nat} {w W : World} (hn1 : n = tabs.length) (hn2 : holes.length = n) (h8 : n ≤ 8)
    (hF : Hold (∀ (a b : Edg) (w : World), a ∈ tabs → b ∈ holes → Calls Try.prog 15 #[plV p, edV a, edV b] w fun e w' => e = .returned (.tuple #[.int .i64 (fitR p a b), .int .i64 0]) ∧ Mod noB w w'))
    (hK : Kept W (PK p tt ho n n ct ch w)) (hE : EdgesAt w tt tabs ∧ EdgesAt w ho holes) {L : List Int} {ao : Option Addr} {c m : Nat} (hm : L.length = m) (hL : m = n) (hi : IntsAt W ao L) :
    Calls Try.prog 44 #[.slice ao m c, .pointer (some ⟨w.heap.size + 1 + 1, 0, none⟩), .pointer (some ⟨w.heap.size, 0, none⟩), .pointer (some ⟨w.heap.size + 1, 0, none⟩)] W fun e w' => e = .returned (.bool (mayB p tabs holes L)) ∧ Mod noB W w' := by
  subst hm
  refine may_any p tabs holes tt ho ao ct ch c L _ _ _ W (by omega) (by omega) (by omega) hF ⟨fun w' hm => ?_⟩
  have h := hK w' hm
  have e1 : n = holes.length := hn2.symm
  refine ⟨⟨⟨⟨hm, h.1.1.2⟩, ?_⟩, ?_⟩, hE.1.mod h.1.1.1, hE.2.mod h.1.1.1, hi.mod hm⟩
  · rw [← hn1]; exact h.1.2
  · rw [← e1]; exact h.2
theorem before_call {W : World} {ao bo : Option Addr} {A B : List Int} {c d n m : Nat} (hA : A.length = n) (hB : B.length = m) (hnm : n = m) (hs : n ≤ 1000) (ha : IntsAt W ao A) (hb : IntsAt W bo B) :
    Calls Try.prog 45 #[.slice ao n c, .slice bo m d] W fun e w' => e = .returned (.bool (lessB A B)) ∧ Mod noB W w' := by
  subst hA; subst hB
  exact before_any ao bo A B c d W hnm hs ha hb
theorem ints_call {W : World} {ao bo : Option Addr} {A B : List Int} {c d n m : Nat} (hA : A.length = n) (hB : B.length = m) (ha : IntsAt W ao A) (hb : IntsAt W bo B) :
    Calls Try.prog 28 #[.slice ao n c, .slice bo m d] W fun e w' => e = .returned (.bool (decide (A = B))) ∧ Mod noB W w' := by
  subst hA; subst hB
  exact ints_any ao bo A B c d W ha hb

theorem fit_pair {p : Ply} {t u : Edg} (ht : t.k = 1) (hu : u.k = 2) : fitR p t u = least3 (v1R p t u) (v2R p t u) (v3R p t u) := by
  rw [fitR_of]
  have e : orderedR t u = ((t, u), true) := by unfold orderedR; rw [if_neg (by omega), ht, hu]; rfl
  rw [e]
  rfl
/-- In a truth: what came in, the third pairing, and the drawer. -/
def DQ (p : Ply) (tt ho : Option Addr) (n ct ch : Nat) (w : World) (b3 f3 : Nat) (T : List Int) (db : Nat) (ao : Option Addr) (ln cp k : Nat) (w' : World) : Prop := (PK p tt ho n n ct ch w w' ∧ IntsAt w' (some ⟨b3, f3, none⟩) T) ∧ DrawAt w' db ao ln cp k
theorem ints_modT {w w' : World} {T : Nat → Prop} {b f : Nat} {zs : List Int} (h : IntsAt w (some ⟨b, f, none⟩) zs) (hm : Mod T w w') (hn : ¬ T b) : IntsAt w' (some ⟨b, f, none⟩) zs :=
  ⟨fun hne => by
    obtain ⟨b', off, h1, h2, h3⟩ := h.lies hne
    obtain ⟨rfl, rfl⟩ : b = b' ∧ f = off := by injection h1 with h1; injection h1 with h1 h4; exact ⟨h1, h4⟩
    exact ⟨b, f, rfl, Nat.lt_of_lt_of_le h2 hm.size, fun j hj => (cell_same (hm.block b h2 hn) _).trans (h3 j hj)⟩, h.small⟩
theorem dq_next {p : Ply} {tt ho : Option Addr} {n ct ch : Nat} {w : World} {b3 f3 : Nat} {T : List Int} {db : Nat} {ao : Option Addr} {ln cp k k' : Nat} {w1 w2 : World} (h : DQ p tt ho n ct ch w b3 f3 T db ao ln cp k w1) (hm : Mod (fun b => b = db) w1 w2) (hw : w.heap.size + 1 + 1 < db) (hb : b3 ≠ db) (hd : DrawAt w2 db ao ln cp k') : Kept w2 (DQ p tt ho n ct ch w b3 f3 T db ao ln cp k') := fun w' hm' => by
  have n0 : ¬ w.heap.size = db := by omega
  have n1 : ¬ w.heap.size + 1 = db := by omega
  have n2 : ¬ w.heap.size + 1 + 1 = db := by omega
  exact ⟨⟨⟨⟨⟨(h.1.1.1.1.1.then hm (fun i hi e => by omega)).trans hm', hm'.at (hm.at h.1.1.1.1.2 n0) id⟩, hm'.at (hm.at h.1.1.1.2 n1) id⟩, hm'.at (hm.at h.1.1.2 n2) id⟩, (ints_modT h.1.2 hm hb).mod hm'⟩, hm'.at hd id⟩

set_option maxRecDepth 100000 in
set_option maxHeartbeats 16000000 in
theorem pr_ok (p : Ply) (tabs holes : List Edg) (tt ho ao : Option Addr) (ct ch ln cp : Nat) (w : World) (L1 L2 : List Int) (er : Int) (n : Nat) (hn1 : n = tabs.length) (hn2 : holes.length = n) (h8 : n ≤ 8) (hl : ln ≤ 9223372036854775807) (hl1 : 1 ≤ ln)
    (HR : Hold (RawAt w ao ln)) (HE : Hold (EdgesAt w tt tabs ∧ EdgesAt w ho holes))
    (he : Hold (er = 0 ∨ er = 4))
    (P26 : Hold (∀ w', Mod noB w w' → Calls Try.prog 26 #[plV p, .slice tt n ct, .slice ho n ch] w' fun e w2 => TwoAt e w' w2 L1 L2 er))
    (P35 : Hold (∀ w, Calls Try.prog 35 #[plV p] w fun e w' => e = .returned (.bool true) ∧ Mod noB w w'))
    (hF : Hold (∀ (a b : Edg) (w : World), a ∈ tabs → b ∈ holes → Calls Try.prog 15 #[plV p, edV a, edV b] w fun e w' => e = .returned (.tuple #[.int .i64 (fitR p a b), .int .i64 0]) ∧ Mod noB w w'))
    (HO : Hold (∀ t u : Edg, t ∈ tabs → u ∈ holes → playB p = true ∧ Ordered t ∧ Ordered u ∧ ESmall 20000 t ∧ ESmall 20000 u ∧ t.k = 1 ∧ u.k = 2))
    (HT0 : Hold (∀ T : List Int, T.length = n → er = 0 → TwoOk p tabs holes L1 L2 T))
    (HT4 : Hold (∀ T : List Int, T.length = n → er = 4 → mayB p tabs holes T = false ∧ L1 = [] ∧ L2 = [])) :
    Calls Try.prog 11 #[plV p, .slice tt n ct, .slice ho n ch, .slice ao ln cp] w fun e w' => e = .returned (.bool true) ∧ Mod noB w w' := by
  have HF := Hold.mk (pk_kept p tt ho n n ct ch w)
  have f1 : decide ((12 : Int) < (n : Int)) = false := decide_eq_false (by omega)
  obtain ⟨i0, hi, hz0, hz1, hz2⟩ := info_parts info3
  have HI := Hold.mk (And.intro hi (And.intro hz0 (And.intro hz1 hz2)))
  clear hi hz0 hz1 hz2
  have HN := Hold.mk (And.intro hn1 hn2)
  clear hn1 hn2
  go_enter Try.func11, Try.ntmps11
  go_upto_region 4 with (go_at_call 26; refine (P26.out _ HF.out.now.1.1.1).mono ?_; rintro e w1 ⟨a1, c1, a2, c2, rfl, hi1, hi2, hM⟩; replace HF := Hold.mk ((HF.out.later hM).and ((kept_ints hi1).and (kept_ints hi2))); clear hM hi1 hi2)
  go_cut [52] from 47 to 51 (fun s52 wz => s52 = .bool false ∧ wz = w1)
  case first =>
    rcases he.out with rfl | rfl
    all_goals go_wp2_with fail
    all_goals go_meet
    all_goals exact ⟨rfl, rfl⟩
  case rest =>
  obtain ⟨rfl, rfl⟩ := hcut
  clear f1 P26
  obtain ⟨p0, p1, p2, p3, p4⟩ := PlayAt.of HF.out.now.1.1.1.2; have hp := at_ltP HF.out.now.1.1.1.2
  have t0 := cellsAt HF.out.now.1.1.2 0; have ht := at_ltP HF.out.now.1.1.2
  have h0 := cellsAt HF.out.now.1.2 0; have hh := at_ltP HF.out.now.1.2
  go_wp2_with (go_at_call 35; refine (P35.out _).mono ?_; rintro e w2 ⟨rfl, hM⟩; clear p0 p1 p2 p3 p4 hp t0 ht h0 hh; replace HF := Hold.mk (HF.out.later hM); clear hM; have h0 := cellsAt HF.out.now.1.2 0; have hh := at_ltP HF.out.now.1.2)
  clear h0 hh P35
  go_loopw [15, 82] (fun v i wr => ∃ k : Nat, k ≤ n ∧ i = .int .i64 k ∧ Hold (wr.ownsRow w2.heap.size 3 1 v (rangeI k).length ((rangeI k).map (Value.int .i64)) ∧ Mod noB w2 wr)) (fun _ i _ => n - (intOf i).toNat)
  case atStart => exact ⟨0, Nat.zero_le _, rfl, ⟨World.ownsRow_nil _ _ _ _, Mod.refl _ _⟩⟩
  case round =>
    obtain ⟨k, hk, rfl, HK⟩ := hrel
    by_cases hlt : k < n
    · have hk8 : k ≤ 1000 := by omega
      have HL := Hold.mk (rangeI_len k)
      have HS := Hold.mk (rangeI_succ k)
      go_wp2_with (at_builtin; refine wpList_append_own _ rfl (.tmp 85) (.tmp 87) 43 rfl w2.heap.size 3 i0 (.int .i64 0) 1 8 Try.underlying43 HI.out.1 HI.out.2.1 HI.out.2.2.1 HI.out.2.2.2 rfl (by decide) _ _ _ rfl (HK.out.1.alloc _) ⟨wr.heap.size, 0, none⟩ 1 1 [.int .i64 k] rfl rfl (one_cell wr k) (by simp [Value.oneCell']) (by rw [HL.out]; unfold maxLen; omega) (by rw [HL.out]; omega) (by have := HK.out.2.size; simp; omega) ?_; intro v' wa hown' hgr _; have HW2 := Hold.mk (And.intro hown' hgr); clear hown' hgr)
      go_roundw
      case rel =>
        obtain ⟨hown', hgr⟩ := HW2.out
        refine ⟨k + 1, by omega, by go_num, ⟨?_, ?_⟩⟩
        · rw [HS.out, List.map_append, List.length_append]; exact hown'
        · exact HK.out.2.then (((Mod.refl (fun b => w2.heap.size ≤ b) wr).alloc _).trans (Mod.of_grownBy hgr (fun r hr _ => own_ge HK.out.1 hr))) (fun i h1 h2 => absurd h1 (Nat.not_lt.2 h2))
      case measure => simp [intOf]; omega
    · obtain rfl : k = n := by omega
      have HW : Hold (Mod noB w2 wr) := ⟨HK.out.2⟩
      have HLV : Hold (1 ≤ k → ∃ g cap, u15 = .slice (some ⟨g, 0, none⟩) k cap ∧ LeftAt wr g 0 k cap (rangeI k) ∧ w2.heap.size ≤ g) := ⟨fun h => by
        have := left_of_own HK.out.1 (by rw [rangeI_len]; exact h)
        rw [rangeI_len] at this
        exact this⟩
      replace HF := Hold.mk (HF.out.later HW.out)
      clear HK HW
      have t0 := cellsAt HF.out.now.1.1.2 0; have ht := at_ltP HF.out.now.1.1.2
      go_wp2_with fail
      clear t0 ht
      generalize wr = WA at *
      go_loopw [14, 15, 92] (fun v l i wr => ∃ k2 : Nat, k2 ≤ k ∧ i = .int .i64 k2 ∧ Hold (∃ T Ll : List Int, T.length = k2 ∧ k2 + Ll.length = k ∧ Split k T Ll ∧ wr.ownsRow WA.heap.size 3 1 v T.length (T.map (Value.int .i64)) ∧ Mod noB WA wr ∧ (1 ≤ Ll.length → ∃ b off cap, l = .slice (some ⟨b, off, none⟩) Ll.length cap ∧ LeftAt wr b off Ll.length cap Ll ∧ v.ownBlock ≠ some b))) (fun _ _ i _ => k - (intOf i).toNat)
      case atStart =>
        refine ⟨0, Nat.zero_le _, rfl, ⟨[], rangeI k, rfl, by rw [rangeI_len]; omega, ⟨by simpa using rangeI_nodup k, fun x hx => rangeI_mem.1 (by simpa using hx)⟩, World.ownsRow_nil _ _ _ _, Mod.refl _ _, fun h => ?_⟩⟩
        rw [rangeI_len] at h ⊢
        obtain ⟨g, cap, e, hl2, _⟩ := HLV.out h
        exact ⟨g, 0, cap, e, hl2, by intro e2; cases e2⟩
      case round =>
        clear HLV
        obtain ⟨k2, hk2, rfl, HK⟩ := hrel
        by_cases hlt2 : k2 < k
        · obtain ⟨T, Ll, hT, hLl, HSp, hown, hmod, hleft⟩ := HK.out
          obtain ⟨b, off, cap, rfl, hla, hnb⟩ := hleft (by omega)
          obtain ⟨rb, ro, rfl, hrb, hrx⟩ := HR.out.lies
          obtain ⟨x, x0, x1, hcx⟩ := hrx (k2 % ln) (Nat.mod_lt _ (by omega))
          obtain ⟨xn, rfl⟩ : ∃ xn : Nat, x = xn := ⟨x.toNat, by omega⟩
          have hwb : Mod noB w wr := (HF.out.now.1.1.1.1.trans hmod)
          have hcx' : wr.cell? ⟨rb, ro + k2 % ln, none⟩ = some (.int .u16 xn) := (cell_same (hwb.block rb hrb id) _).trans hcx
          have hrl : rb < wr.heap.size := Nat.lt_of_lt_of_le hrb hwb.size
          have HO := Hold.mk hown
          have HM := Hold.mk hmod
          have HLA := Hold.mk hla
          have HNB := Hold.mk hnb
          obtain ⟨nl, hnl⟩ : ∃ nl, Ll.length = nl := ⟨_, rfl⟩
          have hnl1 : 1 ≤ nl := by omega
          have hT8 : T.length ≤ 1000 := by omega
          have hnl2 : k2 + nl = k := by omega
          obtain ⟨q, hq⟩ : ∃ q, xn % nl = q := ⟨_, rfl⟩
          have hq1 : q < nl := by rw [← hq]; exact Nat.mod_lt _ (by omega)
          obtain ⟨r, hr⟩ : ∃ r, k2 % ln = r := ⟨_, rfl⟩
          have hr1 : r < ln := by rw [← hr]; exact Nat.mod_lt _ (by omega)
          have e1 : (k2 : Int).tmod (ln : Int) = (r : Int) := by rw [Int.tmod_eq_emod_of_nonneg (by omega), ← hr, Int.natCast_emod]
          have e2 : (k2 : Int) % (ln : Int) = (r : Int) := by rw [← hr, Int.natCast_emod]
          have e3 : (xn : Int).tmod (nl : Int) = (q : Int) := by rw [Int.tmod_eq_emod_of_nonneg (by omega), ← hq, Int.natCast_emod]
          have e4 : (xn : Int) % (nl : Int) = (q : Int) := by rw [← hq, Int.natCast_emod]
          have hcq := hla.cell q (by omega)
          obtain ⟨y, hy⟩ : ∃ y, Ll[q]?.getD 0 = y := ⟨_, rfl⟩
          have HY := Hold.mk hy
          rw [hy] at hcq
          have hbl := hla.lt
          have HNL := Hold.mk (And.intro hnl (And.intro hT HSp))
          rw [hnl] at HLA
          rw [hr] at hcx'
          clear hy hrx hcx hwb hla hleft hown hmod hnb hq hr hT hLl HSp HK
          rw [hnl]
          clear hnl
          go_wp2_with (at_builtin; refine wpList_append_own_at _ rfl (.tmp 106) (.tmp 111) 43 rfl WA.heap.size 3 i0 (.int .i64 0) 1 8 Try.underlying43 HI.out.1 HI.out.2.1 HI.out.2.2.1 HI.out.2.2.2 rfl (by decide) _ T.length (T.map (Value.int .i64)) rfl (HO.out.alloc _) ⟨wr.heap.size, 0, none⟩ 1 1 [.int .i64 y] rfl rfl (one_cell wr y) (by simp [Value.oneCell']) (by unfold maxLen; omega) (by omega) (by have := HM.out.size; simp; omega) ?_; intro v' wa hown' hgr _ hat; have HW2 := Hold.mk (And.intro hown' (And.intro hgr hat)); clear hown' hgr hat)
          have hmw : Mod (fun i => u14.ownBlock = some i) wr wa := ((Mod.refl _ wr).alloc _).trans (Mod.of_grownBy HW2.out.2.1 (fun r hr _ => hr))
          have hla2 := HLA.out.mod hmw HNB.out
          have HMW := Hold.mk hmw
          clear hmw hcx' hcq e1 e2 e3 e4
          refine region_left (b := b) (off := off) (n := nl) (cap := cap) (k := q) (Ll := Ll) rfl rfl rfl hq1 (by omega) hla2 ?_
          intro vs w3 hm3 hlv
          have HM3 := Hold.mk hm3
          have HLV3 := Hold.mk hlv
          clear hm3 hlv hla2
          simp only [List.foldl_cons, List.foldl_nil]
          go_wp2_with fail
          go_roundw
          case rel =>
            obtain ⟨hnl, hT, hSp⟩ := HNL.out
            obtain ⟨hown', hgr, hat⟩ := HW2.out
            obtain ⟨b2, off2, cap2, ev, hla3, hb2⟩ := HLV3.out
            refine ⟨k2 + 1, by omega, by go_num, ⟨T ++ [y], Ll.take q ++ Ll.drop (q + 1), by simp [hT], by rw [cut_len (by omega)]; omega, by have := hSp.step (q := q) (by omega); rw [HY.out] at this; exact this, ?_, ?_, fun _ => ⟨b2, off2, cap2, ev, hla3, fun e => ?_⟩⟩⟩
            · have := own_mod hown' HM3.out
              rw [List.length_append, List.map_append]
              exact this
            · exact (HM.out.then (((Mod.refl (fun b => WA.heap.size ≤ b) wr).alloc _).trans (Mod.of_grownBy hgr (fun r hr _ => own_ge HO.out hr))) (fun i h1 h2 => absurd h1 (Nat.not_lt.2 h2))).trans HM3.out
            · rcases hb2 with rfl | hb2
              · rcases hat with h | h
                · rw [h] at e; exact HNB.out e
                · rw [h] at e
                  have := Option.some.inj e
                  rw [World.size_alloc] at this
                  omega
              · have := own_below hown' e
                omega
          case measure => simp [intOf]; omega
        · obtain rfl : k2 = k := by omega
          have HT3 : Hold (∃ T : List Int, T.length = k2 ∧ T.Nodup ∧ (∀ x ∈ T, 0 ≤ x ∧ x < k2) ∧ ∃ ao3 c3, u14 = .slice ao3 k2 c3 ∧ IntsAt wr ao3 T) := ⟨by
            obtain ⟨T, Ll, hT, hLl, hSp, hown, hmod, _⟩ := HK.out
            have h0 : Ll = [] := List.length_eq_zero_iff.1 (by omega)
            subst h0
            obtain ⟨ao3, c3, e3, i3, _⟩ := ints_of_owns hown rfl (by omega)
            exact ⟨T, hT, by simpa using hSp.nd, fun x hx => hSp.mem x (by simpa using hx), ao3, c3, by rw [e3, hT], i3⟩⟩
          have HMB : Hold (Mod noB WA wr) := ⟨by obtain ⟨T, Ll, hT, hLl, hSp, hown, hmod, _⟩ := HK.out; exact hmod⟩
          clear HK
          obtain ⟨T, hT, hTn, hTm, ao3, c3, rfl, hTi⟩ := HT3.out
          clear HT3
          replace HF := Hold.mk ((HF.out.later HMB.out).and (kept_ints hTi))
          have HT := Hold.mk (And.intro hT (And.intro hTn hTm))
          clear hT hTn hTm hTi HMB
          generalize wr = WB at *
          obtain ⟨hT, hTn, hTm⟩ := HT.out
          have C3 : Hold (∀ W, Mod noB WB W → Calls Try.prog 44 #[.slice ao3 k2 c3, .pointer (some ⟨w.heap.size + 1 + 1, 0, none⟩), .pointer (some ⟨w.heap.size, 0, none⟩), .pointer (some ⟨w.heap.size + 1, 0, none⟩)] W fun e w' => e = .returned (.bool (mayB p tabs holes T)) ∧ Mod noB W w') := ⟨fun W hW => may_call HN.out.1 HN.out.2 h8 hF ((fun w' h => (HF.out w' (hW.trans h)).1.1)) HE.out hT rfl (HF.out W hW).2⟩
          have HT0T := Hold.mk (HT0.out T hT)
          have HT4T := Hold.mk (HT4.out T hT)
          obtain ⟨n1, hn1⟩ : ∃ n1, L1.length = n1 := ⟨_, rfl⟩
          obtain ⟨n2, hn2⟩ : ∃ n2, L2.length = n2 := ⟨_, rfl⟩
          rw [hn1, hn2]
          have HLN := Hold.mk (And.intro hn1 hn2)
          have HW := Hold.mk (Mod.refl noB WB)
          clear HT0 HT4 hn1 hn2 hT hTn hTm
          go_upto_region 24 with (go_at_call 44; refine (C3.out _ HW.out).mono ?_; rintro e w4 ⟨rfl, hM⟩; replace HW := Hold.mk (HW.out.trans hM); clear hM)
          obtain ⟨gd, hgd⟩ : ∃ gd, mayB p tabs holes T = gd := ⟨_, rfl⟩
          rw [hgd]
          have HGD := Hold.mk hgd
          clear hgd C3
          rcases he.out with h | h
          case inr =>
            obtain ⟨q1, q2, q3⟩ := HT4T.out h
            have hn1 : n1 = 0 := by rw [← HLN.out.1, q2]; rfl
            have hn2 : n2 = 0 := by rw [← HLN.out.2, q3]; rfl
            have hg : gd = false := by rw [← HGD.out]; exact q1
            clear HT0T HT4T HGD HLN q1 q2 q3
            subst h; subst hn1; subst hn2; subst hg
            go_wp2_with (go_at_call 21; refine (alive_any _).mono ?_; rintro e w9 ⟨rfl, hM⟩; replace HW := Hold.mk (HW.out.trans hM); clear hM)
            go_ret
            exact ⟨rfl, HF.out.now.1.1.1.1.1.trans HW.out⟩
          case inl =>
            have HOK := Hold.mk (HT0T.out h)
            subst h
            clear HT0T HT4T
            have hk1 : n1 = k2 := by rw [← HLN.out.1, HOK.out.n1]; exact HN.out.1.symm
            subst hk1
            go_upto_region 26 with fail
            have HW4 := HW
            have C1 : Hold (∀ W, Mod noB WB W → Calls Try.prog 44 #[.slice a1 n1 c1, .pointer (some ⟨w.heap.size + 1 + 1, 0, none⟩), .pointer (some ⟨w.heap.size, 0, none⟩), .pointer (some ⟨w.heap.size + 1, 0, none⟩)] W fun e w' => e = .returned (.bool true) ∧ Mod noB W w') := ⟨fun W hW => by rw [← HOK.out.m1]; exact may_call HN.out.1 HN.out.2 h8 hF ((fun w' h => (HF.out w' (hW.trans h)).1.1)) HE.out HLN.out.1 rfl (HF.out W hW).1.2.1⟩
            have B31 : Hold (∀ W, Mod noB WB W → Calls Try.prog 45 #[.slice ao3 n1 c3, .slice a1 n1 c1] W fun e w' => e = .returned (.bool (lessB T L1)) ∧ Mod noB W w') := ⟨fun W hW => before_call HT.out.1 HLN.out.1 rfl (by omega) (HF.out W hW).2 (HF.out W hW).1.2.1⟩
            have B13 : Hold (∀ W, Mod noB WB W → Calls Try.prog 45 #[.slice a1 n1 c1, .slice ao3 n1 c3] W fun e w' => e = .returned (.bool (lessB L1 T)) ∧ Mod noB W w') := ⟨fun W hW => before_call HLN.out.1 HT.out.1 rfl (by omega) (HF.out W hW).1.2.1 (HF.out W hW).2⟩
            obtain ⟨lc, hlc⟩ : ∃ lc, lessB L1 T = lc := ⟨_, rfl⟩
            rw [hlc] at B13
            have HLC := Hold.mk hlc
            clear hlc
            go_cut [193] from 143 to 192 (fun s193 wz => s193 = .bool false ∧ Hold (Mod noB WB wz))
            case first =>
              rcases Nat.eq_zero_or_pos n2 with h2 | h2
              · have hL2 : L2 = [] := List.length_eq_zero_iff.1 (by rw [HLN.out.2, h2])
                subst h2
                cases gd
                · go_wp2_with (go_at_call 44; refine (C1.out _ HW.out).mono ?_; rintro e w5 ⟨rfl, hM⟩; replace HW := Hold.mk (HW.out.trans hM); clear hM)
                  all_goals go_meet
                  all_goals exact ⟨rfl, HW⟩
                · have e31 : lessB T L1 = false := HOK.out.t1 HGD.out
                  rw [e31] at B31
                  have elc : lc = false := by
                    cases lc with
                    | false => rfl
                    | true => exact absurd hL2 (HOK.out.t2 HGD.out HLC.out).1
                  subst elc
                  clear e31 hL2
                  go_wp2_with (first
                    | (go_at_call 44; refine (C1.out _ HW.out).mono ?_; rintro e w5 ⟨rfl, hM⟩; replace HW := Hold.mk (HW.out.trans hM); clear hM)
                    | (go_at_call 45; with_reducible refine (B31.out _ HW.out).mono ?_; rintro e w6 ⟨rfl, hM⟩; replace HW := Hold.mk (HW.out.trans hM); clear hM)
                    | (go_at_call 45; with_reducible refine (B13.out _ HW.out).mono ?_; rintro e w7 ⟨rfl, hM⟩; replace HW := Hold.mk (HW.out.trans hM); clear hM))
                  all_goals go_meet
                  all_goals exact ⟨rfl, HW⟩
              · have hL2 : L2 ≠ [] := fun e => by have := HLN.out.2; rw [e] at this; simp at this; omega
                have hn2 : n2 = n1 := by rw [← HLN.out.2, HOK.out.n2 hL2]; exact HN.out.1.symm
                subst hn2
                have C2 : Hold (∀ W, Mod noB WB W → Calls Try.prog 44 #[.slice a2 n2 c2, .pointer (some ⟨w.heap.size + 1 + 1, 0, none⟩), .pointer (some ⟨w.heap.size, 0, none⟩), .pointer (some ⟨w.heap.size + 1, 0, none⟩)] W fun e w' => e = .returned (.bool true) ∧ Mod noB W w') := ⟨fun W hW => by rw [← (HOK.out.m2 hL2).1]; exact may_call HN.out.1 HN.out.2 h8 hF ((fun w' h => (HF.out w' (hW.trans h)).1.1)) HE.out HLN.out.2 rfl (HF.out W hW).1.2.2⟩
                have B12 : Hold (∀ W, Mod noB WB W → Calls Try.prog 45 #[.slice a1 n2 c1, .slice a2 n2 c2] W fun e w' => e = .returned (.bool true) ∧ Mod noB W w') := ⟨fun W hW => by rw [← (HOK.out.m2 hL2).2]; exact before_call HLN.out.1 HLN.out.2 rfl (by omega) (HF.out W hW).1.2.1 (HF.out W hW).1.2.2⟩
                have f2 : ((n2 : Int) == 0) = false := by simp; omega
                have f3 : (0 : Int) < n2 := by omega
                have B32 : gd = true → lc = true → Hold (∀ W, Mod noB WB W → Calls Try.prog 45 #[.slice ao3 n2 c3, .slice a2 n2 c2] W fun e w' => e = .returned (.bool false) ∧ Mod noB W w') := fun hg hc => ⟨fun W hW => by rw [← (HOK.out.t2 (by rw [HGD.out]; exact hg) (by rw [HLC.out]; exact hc)).2]; exact before_call HT.out.1 HLN.out.2 rfl (by omega) (HF.out W hW).2 (HF.out W hW).1.2.2⟩
                have B31g : gd = true → Hold (∀ W, Mod noB WB W → Calls Try.prog 45 #[.slice ao3 n2 c3, .slice a1 n2 c1] W fun e w' => e = .returned (.bool false) ∧ Mod noB W w') := fun hg => ⟨fun W hW => by have := B31.out W hW; rw [HOK.out.t1 (by rw [HGD.out]; exact hg)] at this; exact this⟩
                clear hL2 B31
                cases gd
                · clear B31g B32
                  go_wp2_with (first
                    | (go_at_call 44; with_reducible refine (C1.out _ HW.out).mono ?_; rintro e w5 ⟨rfl, hM⟩; replace HW := Hold.mk (HW.out.trans hM); clear hM)
                    | (go_at_call 44; with_reducible refine (C2.out _ HW.out).mono ?_; rintro e w6 ⟨rfl, hM⟩; replace HW := Hold.mk (HW.out.trans hM); clear hM)
                    | (go_at_call 45; with_reducible refine (B12.out _ HW.out).mono ?_; rintro e w7 ⟨rfl, hM⟩; replace HW := Hold.mk (HW.out.trans hM); clear hM))
                  all_goals go_meet
                  all_goals exact ⟨rfl, HW⟩
                · have B31 := B31g rfl
                  clear B31g
                  cases lc
                  · clear B32
                    go_wp2_with (first
                      | (go_at_call 44; with_reducible refine (C1.out _ HW.out).mono ?_; rintro e w5 ⟨rfl, hM⟩; replace HW := Hold.mk (HW.out.trans hM); clear hM)
                      | (go_at_call 44; with_reducible refine (C2.out _ HW.out).mono ?_; rintro e w6 ⟨rfl, hM⟩; replace HW := Hold.mk (HW.out.trans hM); clear hM)
                      | (go_at_call 45; with_reducible refine (B12.out _ HW.out).mono ?_; rintro e w7 ⟨rfl, hM⟩; replace HW := Hold.mk (HW.out.trans hM); clear hM)
                      | (go_at_call 45; with_reducible refine (B31.out _ HW.out).mono ?_; rintro e w8 ⟨rfl, hM⟩; replace HW := Hold.mk (HW.out.trans hM); clear hM)
                      | (go_at_call 45; with_reducible refine (B13.out _ HW.out).mono ?_; rintro e w9 ⟨rfl, hM⟩; replace HW := Hold.mk (HW.out.trans hM); clear hM))
                    all_goals go_meet
                    all_goals exact ⟨rfl, HW⟩
                  · have B32b := B32 rfl rfl
                    clear B32
                    go_wp2_with (first
                      | (go_at_call 44; with_reducible refine (C1.out _ HW.out).mono ?_; rintro e w5 ⟨rfl, hM⟩; replace HW := Hold.mk (HW.out.trans hM); clear hM)
                      | (go_at_call 44; with_reducible refine (C2.out _ HW.out).mono ?_; rintro e w6 ⟨rfl, hM⟩; replace HW := Hold.mk (HW.out.trans hM); clear hM)
                      | (go_at_call 45; with_reducible refine (B12.out _ HW.out).mono ?_; rintro e w7 ⟨rfl, hM⟩; replace HW := Hold.mk (HW.out.trans hM); clear hM)
                      | (go_at_call 45; with_reducible refine (B31.out _ HW.out).mono ?_; rintro e w8 ⟨rfl, hM⟩; replace HW := Hold.mk (HW.out.trans hM); clear hM)
                      | (go_at_call 45; with_reducible refine (B13.out _ HW.out).mono ?_; rintro e w9 ⟨rfl, hM⟩; replace HW := Hold.mk (HW.out.trans hM); clear hM)
                      | (go_at_call 45; refine (B32b.out _ HW.out).mono ?_; rintro e w10 ⟨rfl, hM⟩; replace HW := Hold.mk (HW.out.trans hM); clear hM))
                    all_goals go_meet
                    all_goals exact ⟨rfl, HW⟩
            case rest =>
            obtain ⟨rfl, HW5⟩ := hcut
            clear HW HW4 C1 B31 B13 HLC
            have I31 : Hold (∀ W, Mod noB WB W → Calls Try.prog 28 #[.slice ao3 n1 c3, .slice a1 n1 c1] W fun e w' => e = .returned (.bool (decide (T = L1))) ∧ Mod noB W w') := ⟨fun W hW => ints_call HT.out.1 HLN.out.1 (HF.out W hW).2 (HF.out W hW).1.2.1⟩
            have I32 : Hold (∀ W, Mod noB WB W → Calls Try.prog 28 #[.slice ao3 n1 c3, .slice a2 n2 c2] W fun e w' => e = .returned (.bool (decide (T = L2))) ∧ Mod noB W w') := ⟨fun W hW => ints_call HT.out.1 HLN.out.2 (HF.out W hW).2 (HF.out W hW).1.2.2⟩
            by_cases hTL : T = L1
            · rw [decide_eq_true hTL] at I31
              clear hTL HOK HGD
              go_wp2_with (first
                | (go_at_call 28; with_reducible refine (I31.out _ HW5.out).mono ?_; rintro e w5 ⟨rfl, hM⟩; replace HW5 := Hold.mk (HW5.out.trans hM); clear hM)
                | (go_at_call 21; refine (alive_any _).mono ?_; rintro e w9 ⟨rfl, hM⟩; replace HW5 := Hold.mk (HW5.out.trans hM); clear hM))
              go_ret
              exact ⟨rfl, HF.out.now.1.1.1.1.1.trans HW5.out⟩
            · rw [decide_eq_false hTL] at I31
              obtain ⟨d2, hd2⟩ : ∃ d2, decide (T = L2) = d2 := ⟨_, rfl⟩
              rw [hd2] at I32
              clear hd2
              rcases Nat.eq_zero_or_pos n2 with h2 | h2
              · have hL2 : L2 = [] := List.length_eq_zero_iff.1 (by rw [HLN.out.2, h2])
                have HBAD : Hold (∃ i, i < T.length ∧ fitR p (tabs[i]?.getD noE) (holes[(T[i]?.getD 0).toNat]?.getD noE) = 0) := ⟨bad_at HT.out.2.1 (fun x hx => by have := HT.out.2.2 x hx; rw [HN.out.2]; exact this) (HOK.out.t3 hL2 hTL)⟩
                subst h2
                clear hL2 hTL HOK HGD
                go_upto_region 28 with fail
                go_cut [211] from 194 to 210 (fun s211 wz => s211 = .bool false ∧ Hold (Mod noB WB wz))
                case first =>
                  cases d2
                  all_goals go_wp2_with (first
                    | (go_at_call 28; with_reducible refine (I31.out _ HW5.out).mono ?_; rintro e w5 ⟨rfl, hM⟩; replace HW5 := Hold.mk (HW5.out.trans hM); clear hM)
                    | (go_at_call 28; with_reducible refine (I32.out _ HW5.out).mono ?_; rintro e w6 ⟨rfl, hM⟩; replace HW5 := Hold.mk (HW5.out.trans hM); clear hM))
                  all_goals go_meet
                  all_goals exact ⟨rfl, HW5⟩
                case rest =>
                obtain ⟨rfl, HW6⟩ := hcut
                clear HW5 I31 I32
                go_upto_region 31 with fail
                obtain ⟨ib, hib, hfit⟩ := HBAD.out
                have HFIT := Hold.mk hfit
                clear hfit HBAD
                obtain ⟨b3, f3, rfl, hb3, _⟩ := ints_cell (HF.out _ HW6.out).2 hib
                have hdb : w.heap.size + 1 + 1 < wc.heap.size := at_ltP (HF.out _ HW6.out).1.1.2
                have HL : Hold (Kept (wc.alloc (.cells #[.slice ao ln cp, .int .i64 0] 60)) (DQ p tt ho n1 ct ch w b3 f3 T wc.heap.size ao ln cp 0)) := ⟨fun w' hm => by
                  have hm2 := HW6.out.trans (((Mod.refl noB wc).alloc _).trans hm)
                  exact ⟨⟨(HF.out w' hm2).1.1, (HF.out w' hm2).2⟩, hm.at (World.alloc_heap_new wc _) id⟩⟩
                clear HW6
                generalize (wc.alloc (.cells #[.slice ao ln cp, .int .i64 0] 60)) = WD at *
                generalize wc.heap.size = db at *
                have hTl : T.length = n1 := HT.out.1
                have HTL := Hold.mk hTl
                have hib2 : ib < n1 := by omega
                clear hTl hib
                go_wp2_with fail
                go_loopw [218] (fun i wr => ∃ kk kd : Nat, kk ≤ ib ∧ kd ≤ 7 * kk ∧ i = .int .i64 kk ∧ Hold (Kept wr (DQ p tt ho n1 ct ch w b3 f3 T db ao ln cp kd))) (fun i _ => n1 - (intOf i).toNat)
                case atStart => exact ⟨0, 0, by omega, by omega, rfl, HL⟩
                case round =>
                  clear HL
                  obtain ⟨kk, kd, hkk, hkd, rfl, HK⟩ := hrel
                  have hlt3 : kk < T.length := by have := HTL.out; omega
                  obtain ⟨b4, f4, e4, hb4, hc4⟩ := ints_cell HK.out.now.1.2 hlt3
                  obtain ⟨rfl, rfl⟩ : b3 = b4 ∧ f3 = f4 := by injection e4 with e4; injection e4 with e4 e5; exact ⟨e4, e5⟩
                  have hmem := HT.out.2.2 _ (List.getElem_mem hlt3)
                  have hge : T[kk]?.getD 0 = T[kk] := by rw [List.getElem?_eq_getElem hlt3]; rfl
                  rw [← hge] at hmem
                  obtain ⟨y0, hy0⟩ : ∃ y0, T[kk]?.getD 0 = y0 := ⟨_, rfl⟩
                  rw [hy0] at hmem hc4
                  obtain ⟨y, rfl⟩ : ∃ y : Nat, y0 = y := ⟨y0.toNat, by omega⟩
                  have hy : y < n1 := by omega
                  have hktab : kk < tabs.length := by have := HN.out.1; omega
                  have hyhol : y < holes.length := by have := HN.out.2; omega
                  obtain ⟨bt, ft, rfl, hbt, hEt⟩ := edge_cell HE.out.1 hktab
                  obtain ⟨bh, fh, rfl, hbh, hEh⟩ := edge_cell HE.out.2 hyhol
                  have hmw := HK.out.now.1.1.1.1.1
                  have HET : Hold (EdgeAt wr bt (ft + kk * 7) (tabs[kk]?.getD noE) ∧ bt < wr.heap.size) := ⟨hEt.same (hmw.block bt hbt id), Nat.lt_of_lt_of_le hbt hmw.size⟩
                  have HEH : Hold (EdgeAt wr bh (fh + y * 7) (holes[y]?.getD noE) ∧ bh < wr.heap.size) := ⟨hEh.same (hmw.block bh hbh id), Nat.lt_of_lt_of_le hbh hmw.size⟩
                  have HOT := Hold.mk (HO.out (tabs[kk]?.getD noE) (holes[y]?.getD noE) (by rw [List.getElem?_eq_getElem hktab]; exact List.getElem_mem hktab) (by rw [List.getElem?_eq_getElem hyhol]; exact List.getElem_mem hyhol))
                  have HZ : Hold (kk = ib → fitR p (tabs[kk]?.getD noE) (holes[y]?.getD noE) = 0) := ⟨fun e => by
                    have := HFIT.out
                    subst e
                    rw [hy0, Int.toNat_natCast] at this
                    exact this⟩
                  generalize tabs[kk]?.getD noE = ta at *
                  generalize holes[y]?.getD noE = hx at *
                  clear hEt hEh hmem hge hy0 hmw e4
                  go_wp2_with fail
                  refine region_goes (p := p) (t := ta) (u := hx) (db := db) (pb := w.heap.size) (tb := w.heap.size + 1) (hb := w.heap.size + 1 + 1) (bt := bt) (ft := ft) (n := n1) (ct := ct) (bh := bh) (fh := fh) (m := n1) (ch := ch) (k := kk) (y := y) (k0 := kd) (ln := ln) (cp := cp) (ao := ao) (w0 := w) rfl rfl rfl rfl rfl rfl rfl
                    HK.out.now.1.1.1.1.2 HK.out.now.1.1.1.2 HK.out.now.1.1.2 HET.out.1 HEH.out.1 HET.out.2 HEH.out.2 (by omega) hy (by omega) (by omega) (by omega) (by omega) (by omega) HK.out.now.2
                    (fun w' hm hd => trulyN_any p ta hx w w' db ao ln cp kd HOT.out.1 HOT.out.2.1 HOT.out.2.2.1 HOT.out.2.2.2.1 HOT.out.2.2.2.2.1 HR.out (HK.out.now.1.1.1.1.1.then hm (fun i hi e => by omega)) (by omega) hd (by omega)) ?_
                  intro vs w3 kd2 hm3 hkd2 hd3 hTG
                  obtain ⟨x, y1, z, e16, hTO⟩ := hTG
                  have HK2 : Hold (Kept w3 (DQ p (some ⟨bt, ft, none⟩) (some ⟨bh, fh, none⟩) n1 ct ch w b3 f3 T db ao ln cp kd2)) := ⟨dq_next HK.out.now hm3 (by omega) (by omega) hd3⟩
                  have HG : Hold (kk = ib → goodX p x y1 z = false) := ⟨fun e => (truth_ok HOT.out.1 HOT.out.2.1 HOT.out.2.2.1 hTO).zero (by rw [← fit_pair HOT.out.2.2.2.2.2.1 HOT.out.2.2.2.2.2.2]; exact HZ.out e)⟩
                  clear hm3 hd3 hTO HET HEH HOT HZ HK hc4
                  simp only [List.foldl_cons, List.foldl_nil]
                  rw [e16]
                  clear e16
                  cases hg : goodX p x y1 z with
                  | false =>
                    clear hg HG
                    go_wp2_with (go_at_call 21; refine (alive_any _).mono ?_; rintro e w9 ⟨rfl, hM⟩; replace HK2 := Hold.mk (HK2.out.later hM); clear hM)
                    go_ret
                    exact ⟨rfl, HK2.out.now.1.1.1.1.1⟩
                  | true =>
                    have hne : kk < ib := by
                      rcases Nat.lt_or_ge kk ib with h | h
                      · exact h
                      · have := HG.out (by omega)
                        rw [hg] at this; cases this
                    clear hg HG
                    go_wp2_with fail
                    go_roundw
                    case rel => exact ⟨kk + 1, kd2, by omega, by omega, by go_num, HK2⟩
                    case measure => simp [intOf]; omega
              · have f2 : ((n2 : Int) == 0) = false := by simp; omega
                have f3 : (0 : Int) < n2 := by omega
                clear hTL HOK HGD
                cases d2
                all_goals
                  go_wp2_with (first
                    | (go_at_call 28; with_reducible refine (I31.out _ HW5.out).mono ?_; rintro e w5 ⟨rfl, hM⟩; replace HW5 := Hold.mk (HW5.out.trans hM); clear hM)
                    | (go_at_call 28; with_reducible refine (I32.out _ HW5.out).mono ?_; rintro e w6 ⟨rfl, hM⟩; replace HW5 := Hold.mk (HW5.out.trans hM); clear hM)
                    | (go_at_call 21; refine (alive_any _).mono ?_; rintro e w9 ⟨rfl, hM⟩; replace HW5 := Hold.mk (HW5.out.trans hM); clear hM))
                  go_ret
                  exact ⟨rfl, HF.out.now.1.1.1.1.1.trans HW5.out⟩
end
end Go.Proofs.Ytnjbamikfjdofaa

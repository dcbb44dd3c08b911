/- Dies, blades, stints, spans: how they lie in memory; which of them are valid. -/
import Derived.Test.YtdncppempgpooaaDoorRuA
import Derived.Test.YtdncppempgpooaaDoorGen
set_option linter.unusedSimpArgs false
set_option linter.unusedVariables false
namespace Go.Proofs.YtdncppempgpooaaDoor
open Go.RowKit

@[reducible] def spV (s : Int × Int) : Value := .agg #[.int .i64 s.1, .int .i64 s.2]
@[reducible] def spC (s : Int × Int) : Array Value := #[.int .i64 s.1, .int .i64 s.2]
@[reducible] def blC (b : Bld) : Array Value := #[.int .i64 b.f.1, .int .i64 b.f.2, .int .i64 b.w.1, .int .i64 b.w.2]
@[reducible] def blV (b : Bld) : Value := .agg #[.int .i64 b.f.1, .int .i64 b.f.2, .int .i64 b.w.1, .int .i64 b.w.2]
@[reducible] def dyC (ao : Option Addr) (n cap : Nat) (d : Dye) : Array Value := #[.slice ao n cap, .int .i64 d.bound, .int .i64 d.stop, .int .i64 d.bend]
@[reducible] def dyV (ao : Option Addr) (n cap : Nat) (d : Dye) : Value := .agg #[.slice ao n cap, .int .i64 d.bound, .int .i64 d.stop, .int .i64 d.bend]

/-- No block below B has turned. -/
def Low (B : Nat) (W W' : World) : Prop := W.heap.size ≤ W'.heap.size ∧ ∀ k, k < B → W'.heap[k]? = W.heap[k]?
theorem Low.of {T : Nat → Prop} {B : Nat} {W W' : World} (h : Mod T W W') (hB : B ≤ W.heap.size) (hT : ∀ k, T k → B ≤ k) : Low B W W' :=
  ⟨h.size, fun k hk => h.block k (by omega) (fun ht => by have := hT k ht; omega)⟩
theorem Low.ofN {B : Nat} {W W' : World} (h : Mod noB W W') (hB : B ≤ W.heap.size) : Low B W W' := Low.of h hB (fun _ h => h.elim)
theorem Low.trans {B : Nat} {W W' W'' : World} (h : Low B W W') (k : Low B W' W'') : Low B W W'' := ⟨Nat.le_trans h.1 k.1, fun i hi => (k.2 i hi).trans (h.2 i hi)⟩

/-- A slice's value reads as a list of things of so many cells, in blocks below B. -/
structure ListAt {α : Type} (B : Nat) (w : World) (sz : Nat) (cs : α → Array Value) (ao : Option Addr) (l : List α) : Prop where
  lies : l ≠ [] → ∃ b off, ao = some ⟨b, off, none⟩ ∧ b < B ∧ ∀ k x, l[k]? = some x → ∀ j, j < sz → w.cell? ⟨b, off + k * sz + j, none⟩ = (cs x)[j]?
  small : l.length ≤ 1000000000000
theorem ListAt.low {α : Type} {B : Nat} {w w' : World} {sz : Nat} {cs : α → Array Value} {ao : Option Addr} {l : List α} (h : ListAt B w sz cs ao l) (hm : Low B w w') : ListAt B w' sz cs ao l :=
  ⟨fun hne => by obtain ⟨b, off, h1, h2, h3⟩ := h.lies hne; exact ⟨b, off, h1, h2, fun k x hx j hj => (cell_same (hm.2 b h2) _).trans (h3 k x hx j hj)⟩, h.small⟩
theorem ListAt.mono {α : Type} {B C : Nat} {w : World} {sz : Nat} {cs : α → Array Value} {ao : Option Addr} {l : List α} (h : ListAt B w sz cs ao l) (hB : B ≤ C) : ListAt C w sz cs ao l :=
  ⟨fun hne => by obtain ⟨b, off, h1, h2, h3⟩ := h.lies hne; exact ⟨b, off, h1, by omega, h3⟩, h.small⟩

abbrev BladesAt (B : Nat) (w : World) (ao : Option Addr) (l : List Bld) : Prop := ListAt B w 4 blC ao l
abbrev StintsAt (B : Nat) (w : World) (ao : Option Addr) (l : List (Int × Int)) : Prop := ListAt B w 2 spC ao l
theorem ListAt.blade {B : Nat} {w : World} {ao : Option Addr} {l : List Bld} (h : BladesAt B w ao l) {k : Nat} {x : Bld} (hx : l[k]? = some x) : ∃ b off, ao = some ⟨b, off, none⟩ ∧ b < B ∧
    w.cell? ⟨b, off + k * 4, none⟩ = some (.int .i64 x.f.1) ∧ w.cell? ⟨b, off + k * 4 + 1, none⟩ = some (.int .i64 x.f.2) ∧ w.cell? ⟨b, off + k * 4 + 2, none⟩ = some (.int .i64 x.w.1) ∧ w.cell? ⟨b, off + k * 4 + 3, none⟩ = some (.int .i64 x.w.2) := by
  obtain ⟨b, off, e, hb, hc⟩ := h.lies (fun e => by rw [e] at hx; simp at hx)
  have g := hc k x hx
  exact ⟨b, off, e, hb, g 0 (by omega), g 1 (by omega), g 2 (by omega), g 3 (by omega)⟩
theorem ListAt.stint {B : Nat} {w : World} {ao : Option Addr} {l : List (Int × Int)} (h : StintsAt B w ao l) {k : Nat} {x : Int × Int} (hx : l[k]? = some x) : ∃ b off, ao = some ⟨b, off, none⟩ ∧ b < B ∧
    w.cell? ⟨b, off + k * 2, none⟩ = some (.int .i64 x.1) ∧ w.cell? ⟨b, off + k * 2 + 1, none⟩ = some (.int .i64 x.2) := by
  obtain ⟨b, off, e, hb, hc⟩ := h.lies (fun e => by rw [e] at hx; simp at hx)
  have g := hc k x hx
  exact ⟨b, off, e, hb, g 0 (by omega), g 1 (by omega)⟩

set_option maxHeartbeats 400000 in
theorem isFrom_any (lo hi n : Int) (w : World) : Calls Tryd.prog 41 #[.int .i64 lo, .int .i64 hi, .int .i64 n] w fun e w' => e = .returned (.bool (fromB lo hi n)) ∧ Mod noB w w' := by
  by_cases h1 : lo ≤ n <;> by_cases h2 : n ≤ hi
  all_goals
    have he : Hold (fromB lo hi n = (decide (lo ≤ n) && decide (n ≤ hi))) := ⟨rfl⟩
    go_enter Tryd.func41, Tryd.ntmps41
    go_wp2
    go_ret
    exact ⟨by rw [he.out]; simp [*]; try omega, Mod.refl _ _⟩

set_option maxHeartbeats 400000 in
theorem isAway_any (s : Int × Int) (w : World) : Calls Tryd.prog 61 #[spV s] w fun e w' => e = .returned (.bool (awayB s)) ∧ Mod noB w w' := by
  obtain ⟨a, b⟩ := s
  by_cases h1 : 0 ≤ a <;> by_cases h2 : a ≤ b <;> by_cases h3 : b ≤ 10000
  all_goals try (exfalso; omega)
  all_goals
    have he : Hold (awayB (a, b) = (decide (0 ≤ a) && decide (a ≤ b) && decide (b ≤ 10000))) := ⟨rfl⟩
    go_enter Tryd.func61, Tryd.ntmps61
    go_wp2
    go_ret
    exact ⟨by rw [he.out]; simp [*]; try omega, (Mod.refl _ _).alloc _⟩

set_option maxHeartbeats 1000000 in
theorem isDie1_any (b : Bld) (w : World) : Calls Tryd.prog 60 #[blV b] w fun r w' => r = .returned (.bool (!bladeB b)) ∧ Mod noB w w' := by
  obtain ⟨f, u⟩ := b
  have HM := Hold.mk ((Mod.refl noB w).alloc (.cells (blC ⟨f, u⟩) 53))
  have HN := Hold.mk (new_at w (.cells (blC ⟨f, u⟩) 53))
  have H2 := Hold.mk (fun w => isAway_any u w)
  cases hf : awayB f with
  | false =>
    have H1 : Hold (∀ w, Calls Tryd.prog 61 #[spV f] w fun e w' => e = .returned (.bool false) ∧ Mod noB w w') := ⟨fun w => by rw [← hf]; exact isAway_any _ _⟩
    have he : Hold ((!bladeB ⟨f, u⟩) = true) := ⟨by simp [bladeB, hf]⟩
    clear hf
    go_enter Tryd.func60, Tryd.ntmps60
    go_wp2_with (go_at_call 61; refine (H1.out _).mono ?_; rintro e w1 ⟨rfl, hM⟩; have HM := Hold.mk (HM.out.trans hM); clear hM)
    go_ret
    exact ⟨by rw [he.out]; rfl, HM.out⟩
  | true =>
    have H1 : Hold (∀ w, Calls Tryd.prog 61 #[spV f] w fun e w' => e = .returned (.bool true) ∧ Mod noB w w') := ⟨fun w => by rw [← hf]; exact isAway_any _ _⟩
    have he : Hold ((!bladeB ⟨f, u⟩) = !awayB u) := ⟨by simp [bladeB, hf]⟩
    clear hf
    generalize awayB u = s at *
    go_enter Tryd.func60, Tryd.ntmps60
    go_wp2_with (first
      | (go_at_call 61; have H1x := H1; refine (H1.out _).mono ?_; rintro e w1 ⟨rfl, hM⟩; have h1 := HN.out _ hM; have c2 := cellsAt h1 2; have c3 := cellsAt h1 3; have HM := Hold.mk (HM.out.trans hM); clear hM H1 H1x h1)
      | (go_at_call 61; refine (H2.out _).mono ?_; rintro e w1 ⟨rfl, hM⟩; have HM := Hold.mk (HM.out.trans hM); clear hM))
    go_ret
    exact ⟨by rw [he.out]; rfl, HM.out⟩
end Go.Proofs.YtdncppempgpooaaDoor

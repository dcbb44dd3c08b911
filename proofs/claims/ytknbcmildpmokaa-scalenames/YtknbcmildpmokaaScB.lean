/- Boxes, tests and readings: how they lie in memory; which boxes and tests are valid. -/
import Derived.Test.YtknbcmildpmokaaScA
import Derived.Test.YtknbcmildpmokaaGeo
import Derived.Deep.RegionHeld3
import Derived.Laws.EntriesVeiled
import Derived.Deep.QuietTactic
import Derived.BigQuiet
set_option linter.unusedSimpArgs false
set_option linter.unusedVariables false
namespace Go.Proofs.Ytknbcmildpmokaa
open Go.RowKit

@[reducible] def spV (s : Int × Int) : Value := .agg #[.int .i64 s.1, .int .i64 s.2]
@[reducible] def spC (s : Int × Int) : Array Value := #[.int .i64 s.1, .int .i64 s.2]
@[reducible] def knC (k : Knd) : Array Value := #[.int .i64 k.many, .int .i64 k.w.1, .int .i64 k.w.2]
@[reducible] def knV (k : Knd) : Value := .agg #[.int .i64 k.many, .int .i64 k.w.1, .int .i64 k.w.2]
@[reducible] def bxC (ao : Option Addr) (n cap : Nat) (b : Bx) : Array Value := #[.slice ao n cap, .int .i64 b.bag.1, .int .i64 b.bag.2, .int .i64 b.lost, .int .i64 b.extra]
@[reducible] def bxV (ao : Option Addr) (n cap : Nat) (b : Bx) : Value := .agg #[.slice ao n cap, .int .i64 b.bag.1, .int .i64 b.bag.2, .int .i64 b.lost, .int .i64 b.extra]
@[reducible] def tsC (t : Tst) : Array Value := #[.int .i64 t.how, .int .i64 t.kinds, .int .i64 t.err.1, .int .i64 t.err.2, .int .i64 t.pass.1, .int .i64 t.pass.2, .int .i64 t.cost]
@[reducible] def tsV (t : Tst) : Value := .agg #[.int .i64 t.how, .int .i64 t.kinds, .int .i64 t.err.1, .int .i64 t.err.2, .int .i64 t.pass.1, .int .i64 t.pass.2, .int .i64 t.cost]
@[reducible] def rdC (r : Rdg) : Array Value := #[.int .i64 r.t.how, .int .i64 r.t.kinds, .int .i64 r.t.err.1, .int .i64 r.t.err.2, .int .i64 r.t.pass.1, .int .i64 r.t.pass.2, .int .i64 r.t.cost, .int .i64 r.got]
@[reducible] def rdV (r : Rdg) : Value := .agg #[.int .i64 r.t.how, .int .i64 r.t.kinds, .int .i64 r.t.err.1, .int .i64 r.t.err.2, .int .i64 r.t.pass.1, .int .i64 r.t.pass.2, .int .i64 r.t.cost, .int .i64 r.got]

/-- No block below B has turned. -/
def Low (B : Nat) (W W' : World) : Prop := W.heap.size ≤ W'.heap.size ∧ ∀ k, k < B → W'.heap[k]? = W.heap[k]?
theorem Low.of {T : Nat → Prop} {B : Nat} {W W' : World} (h : Mod T W W') (hB : B ≤ W.heap.size) (hT : ∀ k, T k → B ≤ k) : Low B W W' :=
  ⟨h.size, fun k hk => h.block k (by omega) (fun ht => by have := hT k ht; omega)⟩
theorem Low.ofN {B : Nat} {W W' : World} (h : Mod noB W W') (hB : B ≤ W.heap.size) : Low B W W' := Low.of h hB (fun _ h => h.elim)
theorem Low.trans {B : Nat} {W W' W'' : World} (h : Low B W W') (k : Low B W' W'') : Low B W W'' := ⟨Nat.le_trans h.1 k.1, fun i hi => (k.2 i hi).trans (h.2 i hi)⟩

/-- A slice's value reads as a list of things of so many cells, in blocks below B. -/
structure ListAt {α : Type} (B : Nat) (w : World) (sz : Nat) (cs : α → Array Value) (ao : Option Addr) (l : List α) : Prop where
  lies : l ≠ [] → ∃ b off, ao = some ⟨b, off, none⟩ ∧ b < B ∧ ∀ k x, l[k]? = some x → ∀ j, j < sz → w.cell? ⟨b, off + k * sz + j, none⟩ = (cs x)[j]?
  small : l.length ≤ 1000000000000
theorem ListAt.low {α : Type} {B : Nat} {w w' : World} {sz : Nat} {cs : α → Array Value} {ao : Option Addr} {l : List α} (h : ListAt B w sz cs ao l) (hm : Low B w w') : ListAt B w' sz cs ao l :=
  ⟨fun hne => by obtain ⟨b, off, h1, h2, h3⟩ := h.lies hne; exact ⟨b, off, h1, h2, fun k x hx j hj => (cell_same (hm.2 b h2) _).trans (h3 k x hx j hj)⟩, h.small⟩
theorem ListAt.mono {α : Type} {B C : Nat} {w : World} {sz : Nat} {cs : α → Array Value} {ao : Option Addr} {l : List α} (h : ListAt B w sz cs ao l) (hB : B ≤ C) : ListAt C w sz cs ao l :=
  ⟨fun hne => by obtain ⟨b, off, h1, h2, h3⟩ := h.lies hne; exact ⟨b, off, h1, by omega, h3⟩, h.small⟩
theorem ListAt.nilL {α : Type} (B : Nat) (w : World) (sz : Nat) (cs : α → Array Value) (ao : Option Addr) : ListAt B w sz cs ao [] := ⟨fun h => absurd rfl h, by simp⟩

abbrev KindsAt (B : Nat) (w : World) (ao : Option Addr) (l : List Knd) : Prop := ListAt B w 3 knC ao l
abbrev TestsAt (B : Nat) (w : World) (ao : Option Addr) (l : List Tst) : Prop := ListAt B w 7 tsC ao l
abbrev ReadsAt (B : Nat) (w : World) (ao : Option Addr) (l : List Rdg) : Prop := ListAt B w 8 rdC ao l
abbrev SpansAt (B : Nat) (w : World) (ao : Option Addr) (l : List (Int × Int)) : Prop := ListAt B w 2 spC ao l
theorem ListAt.kind {B : Nat} {w : World} {ao : Option Addr} {l : List Knd} (h : KindsAt B w ao l) {k : Nat} {x : Knd} (hx : l[k]? = some x) : ∃ b off, ao = some ⟨b, off, none⟩ ∧ b < B ∧
    w.cell? ⟨b, off + k * 3, none⟩ = some (.int .i64 x.many) ∧ w.cell? ⟨b, off + k * 3 + 1, none⟩ = some (.int .i64 x.w.1) ∧ w.cell? ⟨b, off + k * 3 + 2, none⟩ = some (.int .i64 x.w.2) := by
  obtain ⟨b, off, e, hb, hc⟩ := h.lies (fun e => by rw [e] at hx; simp at hx)
  have g := hc k x hx
  exact ⟨b, off, e, hb, g 0 (by omega), g 1 (by omega), g 2 (by omega)⟩
theorem ListAt.span {B : Nat} {w : World} {ao : Option Addr} {l : List (Int × Int)} (h : SpansAt B w ao l) {k : Nat} {x : Int × Int} (hx : l[k]? = some x) : ∃ b off, ao = some ⟨b, off, none⟩ ∧ b < B ∧
    w.cell? ⟨b, off + k * 2, none⟩ = some (.int .i64 x.1) ∧ w.cell? ⟨b, off + k * 2 + 1, none⟩ = some (.int .i64 x.2) := by
  obtain ⟨b, off, e, hb, hc⟩ := h.lies (fun e => by rw [e] at hx; simp at hx)
  have g := hc k x hx
  exact ⟨b, off, e, hb, g 0 (by omega), g 1 (by omega)⟩
theorem ListAt.test {B : Nat} {w : World} {ao : Option Addr} {l : List Tst} (h : TestsAt B w ao l) {k : Nat} {x : Tst} (hx : l[k]? = some x) : ∃ b off, ao = some ⟨b, off, none⟩ ∧ b < B ∧
    w.cell? ⟨b, off + k * 7, none⟩ = some (.int .i64 x.how) ∧ w.cell? ⟨b, off + k * 7 + 1, none⟩ = some (.int .i64 x.kinds) ∧ w.cell? ⟨b, off + k * 7 + 2, none⟩ = some (.int .i64 x.err.1) ∧ w.cell? ⟨b, off + k * 7 + 3, none⟩ = some (.int .i64 x.err.2) ∧
    w.cell? ⟨b, off + k * 7 + 4, none⟩ = some (.int .i64 x.pass.1) ∧ w.cell? ⟨b, off + k * 7 + 5, none⟩ = some (.int .i64 x.pass.2) ∧ w.cell? ⟨b, off + k * 7 + 6, none⟩ = some (.int .i64 x.cost) := by
  obtain ⟨b, off, e, hb, hc⟩ := h.lies (fun e => by rw [e] at hx; simp at hx)
  have g := hc k x hx
  exact ⟨b, off, e, hb, g 0 (by omega), g 1 (by omega), g 2 (by omega), g 3 (by omega), g 4 (by omega), g 5 (by omega), g 6 (by omega)⟩
theorem ListAt.reading {B : Nat} {w : World} {ao : Option Addr} {l : List Rdg} (h : ReadsAt B w ao l) {k : Nat} {x : Rdg} (hx : l[k]? = some x) : ∃ b off, ao = some ⟨b, off, none⟩ ∧ b < B ∧
    w.cell? ⟨b, off + k * 8, none⟩ = some (.int .i64 x.t.how) ∧ w.cell? ⟨b, off + k * 8 + 1, none⟩ = some (.int .i64 x.t.kinds) ∧ w.cell? ⟨b, off + k * 8 + 2, none⟩ = some (.int .i64 x.t.err.1) ∧ w.cell? ⟨b, off + k * 8 + 3, none⟩ = some (.int .i64 x.t.err.2) ∧
    w.cell? ⟨b, off + k * 8 + 4, none⟩ = some (.int .i64 x.t.pass.1) ∧ w.cell? ⟨b, off + k * 8 + 5, none⟩ = some (.int .i64 x.t.pass.2) ∧ w.cell? ⟨b, off + k * 8 + 6, none⟩ = some (.int .i64 x.t.cost) ∧ w.cell? ⟨b, off + k * 8 + 7, none⟩ = some (.int .i64 x.got) := by
  obtain ⟨b, off, e, hb, hc⟩ := h.lies (fun e => by rw [e] at hx; simp at hx)
  have g := hc k x hx
  exact ⟨b, off, e, hb, g 0 (by omega), g 1 (by omega), g 2 (by omega), g 3 (by omega), g 4 (by omega), g 5 (by omega), g 6 (by omega), g 7 (by omega)⟩

theorem Mod.setNew {T : Nat → Prop} {A B : World} (h : Mod T A B) {b o : Nat} (hb : A.heap.size ≤ b) (v : Value) : Mod T A (B.setCell ⟨b, o, none⟩ v) :=
  h.setCell (fun hl => absurd hl (by show ¬ (b < A.heap.size); omega)) v
theorem ret_i64 {a b : Int} (h : a = b) : Ending.returned (.int .i64 a) = .returned (.int .i64 b) := by rw [h]

set_option maxHeartbeats 400000 in
theorem isFrom_any (lo hi n : Int) (w : World) : Calls Try.prog 65 #[.int .i64 lo, .int .i64 hi, .int .i64 n] w fun e w' => e = .returned (.bool (fromB lo hi n)) ∧ Mod noB w w' := by
  by_cases h1 : lo ≤ n <;> by_cases h2 : n ≤ hi
  all_goals
    have he : Hold (fromB lo hi n = (decide (lo ≤ n) && decide (n ≤ hi))) := ⟨rfl⟩
    go_enter Try.func65, Try.ntmps65
    go_wp2
    go_ret
    exact ⟨by rw [he.out]; simp [*]; try omega, Mod.refl _ _⟩

set_option maxHeartbeats 400000 in
theorem isWithin_any (lo hi : Int) (s : Int × Int) (w : World) : Calls Try.prog 66 #[.int .i64 lo, .int .i64 hi, spV s] w fun e w' => e = .returned (.bool (withinB lo hi s)) ∧ Mod noB w w' := by
  obtain ⟨a, b⟩ := s
  by_cases h1 : lo ≤ a <;> by_cases h2 : a ≤ b <;> by_cases h3 : b ≤ hi
  all_goals
    have he : Hold (withinB lo hi (a, b) = (decide (lo ≤ a) && (decide (a ≤ b) && decide (b ≤ hi)))) := ⟨rfl⟩
    go_enter Try.func66, Try.ntmps66
    go_wp2
    go_ret
    exact ⟨by rw [he.out]; simp [*]; try omega, (Mod.refl _ _).alloc _⟩
theorem from_eq (lo hi n : Int) (v : Bool) (h : fromB lo hi n = v) : Hold (∀ w, Calls Try.prog 65 #[.int .i64 lo, .int .i64 hi, .int .i64 n] w fun e w' => e = .returned (.bool v) ∧ Mod noB w w') :=
  ⟨fun w => by rw [← h]; exact isFrom_any _ _ _ _⟩
theorem within_eq (lo hi : Int) (s : Int × Int) (v : Bool) (h : withinB lo hi s = v) : Hold (∀ w, Calls Try.prog 66 #[.int .i64 lo, .int .i64 hi, spV s] w fun e w' => e = .returned (.bool v) ∧ Mod noB w w') :=
  ⟨fun w => by rw [← h]; exact isWithin_any _ _ _ _⟩

set_option maxHeartbeats 1000000 in
theorem isBox1_any (k : Knd) (w : World) : Calls Try.prog 64 #[knV k] w fun r w' => r = .returned (.bool (!kindB k)) ∧ Mod noB w w' := by
  obtain ⟨m, u⟩ := k
  have HM := Hold.mk ((Mod.refl noB w).alloc (.cells (knC ⟨m, u⟩) 74))
  have HN := Hold.mk (new_at w (.cells (knC ⟨m, u⟩) 74))
  have H2 := Hold.mk (fun w => isWithin_any 0 100000 u w)
  cases hf : fromB 0 2000 m with
  | false =>
    have H1 := from_eq _ _ _ _ hf
    have he : Hold ((!kindB ⟨m, u⟩) = true) := ⟨by simp [kindB, hf]⟩
    clear hf
    go_enter Try.func64, Try.ntmps64
    go_wp2_with (go_at_call 65; refine (H1.out _).mono ?_; rintro e w1 ⟨rfl, hM⟩; have HM := Hold.mk (HM.out.trans hM); clear hM)
    go_ret
    exact ⟨by rw [he.out]; rfl, HM.out⟩
  | true =>
    have H1 := from_eq _ _ _ _ hf
    have he : Hold ((!kindB ⟨m, u⟩) = !withinB 0 100000 u) := ⟨by simp [kindB, hf]⟩
    clear hf
    generalize withinB 0 100000 u = s at *
    go_enter Try.func64, Try.ntmps64
    go_wp2_with (first
      | (go_at_call 65; refine (H1.out _).mono ?_; rintro e w1 ⟨rfl, hM⟩; have h1 := HN.out _ hM; have c1 := cellsAt h1 1; have c2 := cellsAt h1 2; have HM := Hold.mk (HM.out.trans hM); clear hM h1)
      | (go_at_call 66; refine (H2.out _).mono ?_; rintro e w1 ⟨rfl, hM⟩; have HM := Hold.mk (HM.out.trans hM); clear hM))
    go_ret
    exact ⟨by rw [he.out]; rfl, HM.out⟩
end Go.Proofs.Ytknbcmildpmokaa

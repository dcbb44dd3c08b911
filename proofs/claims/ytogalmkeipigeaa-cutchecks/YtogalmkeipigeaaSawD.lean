/- next: the first line that goes through a block and cuts no piece. -/
import Derived.Test.YtogalmkeipigeaaSawC
import Derived.Test.YtogalmkeipigeaaOpen
set_option linter.unusedSimpArgs false
set_option linter.unusedVariables false
namespace Go.Proofs.Ytogalmkeipigeaa
open Go.RowKit Go.Shelf
attribute [local go_sem] Oper.semAt_some

/-- No number of the one list is in the other. -/
def goesB (g : Int × Int → Option Int) (a b c d e f i j : Nat) : Bool := (numbersL g e f i j).all fun n => !(decide (n ∈ numbersL g a b c d))
/-- The first of the places from a on, n of them, that is good. -/
def firstAt (p : Nat → Bool) : Nat → Nat → Option Nat
  | _, 0 => none
  | a, n + 1 => if p a then some a else firstAt p (a + 1) n
theorem firstAt_none {p : Nat → Bool} : ∀ {n a : Nat}, (∀ i, a ≤ i → i < a + n → p i = false) → firstAt p a n = none := by
  intro n
  induction n with
  | zero => intro a _; rfl
  | succ n ih => intro a h; simp only [firstAt]; rw [if_neg (by rw [h a (Nat.le_refl _) (by omega)]; simp)]; exact ih (fun i h1 h2 => h i (by omega) (by omega))
theorem firstAt_some {p : Nat → Bool} : ∀ {n a i : Nat}, a ≤ i → i < a + n → p i = true → (∀ j, a ≤ j → j < i → p j = false) → firstAt p a n = some i := by
  intro n
  induction n with
  | zero => intro a i h1 h2; omega
  | succ n ih =>
    intro a i h1 h2 h3 h4
    simp only [firstAt]
    by_cases e : a = i
    · subst e; rw [if_pos h3]
    · rw [if_neg (by rw [h4 a (Nat.le_refl _) (by omega)]; simp)]
      exact ih (by omega) (by omega) h3 (fun j h5 h6 => h4 j (by omega) h6)

def acrossAt (g : Int × Int → Option Int) (lt tp rt bt : Nat) : Option Nat := firstAt (fun y => goesB g lt tp rt y lt y rt bt) (tp + 1) (bt - (tp + 1))
def uprightAt (g : Int × Int → Option Int) (lt tp rt bt : Nat) : Option Nat := firstAt (fun x => goesB g lt tp x bt x tp rt bt) (lt + 1) (rt - (lt + 1))
/-- The first line: upright, at, from, to; and the parts on both sides. -/
def nextL (g : Int × Int → Option Int) (lt tp rt bt : Nat) : Option ((Bool × Nat × Nat × Nat) × (Nat × Nat × Nat × Nat) × (Nat × Nat × Nat × Nat)) :=
  match acrossAt g lt tp rt bt with
  | some y => some ((false, y, lt, rt), (lt, tp, rt, y), (lt, y, rt, bt))
  | none => match uprightAt g lt tp rt bt with
    | some x => some ((true, x, tp, bt), (lt, tp, x, bt), (x, tp, rt, bt))
    | none => none
@[reducible] def strokeV (r : (Bool × Nat × Nat × Nat) × (Nat × Nat × Nat × Nat) × (Nat × Nat × Nat × Nat)) : Value :=
  .agg #[.bool r.1.1, .int .i64 r.1.2.1, .int .i64 r.1.2.2.1, .int .i64 r.1.2.2.2, .int .i64 r.2.1.1, .int .i64 r.2.1.2.1, .int .i64 r.2.1.2.2.1, .int .i64 r.2.1.2.2.2, .int .i64 r.2.2.1, .int .i64 r.2.2.2.1, .int .i64 r.2.2.2.2.1, .int .i64 r.2.2.2.2.2]
@[reducible] def zeroStroke : Value := .agg #[.bool false, .int .i64 0, .int .i64 0, .int .i64 0, .int .i64 0, .int .i64 0, .int .i64 0, .int .i64 0, .int .i64 0, .int .i64 0, .int .i64 0, .int .i64 0]
/-- What next returns. -/
def NextOut (e : Ending) : Option ((Bool × Nat × Nat × Nat) × (Nat × Nat × Nat × Nat) × (Nat × Nat × Nat × Nat)) → Prop
  | some r => e = .returned (.tuple #[strokeV r, .bool true])
  | none => e = .returned (.tuple #[zeroStroke, .bool false])

/-- A slot of a frame. -/
def tmpOf (a : Act) (i : Nat) : Value := a.tmps.getD i undef
theorem laid_put {w Wx : World} {old cs : Array Value} {t : TypeId} (h : (w.alloc (.cells old t)).putObj w.heap.size (.cells cs t) = Wx) : Mod noB w Wx ∧ Wx.heap[w.heap.size]? = some (.cells cs t) := by
  subst h
  have h1 := World.alloc_heap_new w (.cells old t)
  exact ⟨((Mod.refl noB w).alloc _).putObj (fun h => absurd h (Nat.lt_irrefl _)) _, World.putObj_heap_same (Array.getElem?_eq_some_iff.1 h1).1⟩
theorem wpIn_scope_wide {n : Nat} {P : Program} {c : Code} {Q : Exit → Act → World → Prop} {a : Act} {w : World} (h : c.wpIn Fence.wide n P (Exit.noGoto Q) a w) : (Code.scope c).wpIn Fence.wide n P Q a w := wpIn_wide.2 (wp_scope_straight (wpIn_wide.1 h))

theorem set12 {W : World} {r : Nat} {x0 x1 x2 x3 x4 x5 x6 x7 x8 x9 x10 x11 : Value} {t : TypeId} (h : W.heap[r]? = some (.cells #[x0, x1, x2, x3, x4, x5, x6, x7, x8, x9, x10, x11] t)) (v0 v1 v2 v3 v4 v5 v6 v7 v8 v9 v10 v11 : Value) :
    (World.setCell (World.setCell (World.setCell (World.setCell (World.setCell (World.setCell (World.setCell (World.setCell (World.setCell (World.setCell (World.setCell (World.setCell W ⟨r, 0, none⟩ v0) ⟨r, 1, none⟩ v1) ⟨r, 2, none⟩ v2) ⟨r, 3, none⟩ v3) ⟨r, 4, none⟩ v4) ⟨r, 5, none⟩ v5) ⟨r, 6, none⟩ v6) ⟨r, 7, none⟩ v7) ⟨r, 8, none⟩ v8) ⟨r, 9, none⟩ v9) ⟨r, 10, none⟩ v10) ⟨r, 11, none⟩ v11).heap[r]? = some (.cells #[v0, v1, v2, v3, v4, v5, v6, v7, v8, v9, v10, v11] t) ∧ Mod (fun k => k = r) W (World.setCell (World.setCell (World.setCell (World.setCell (World.setCell (World.setCell (World.setCell (World.setCell (World.setCell (World.setCell (World.setCell (World.setCell W ⟨r, 0, none⟩ v0) ⟨r, 1, none⟩ v1) ⟨r, 2, none⟩ v2) ⟨r, 3, none⟩ v3) ⟨r, 4, none⟩ v4) ⟨r, 5, none⟩ v5) ⟨r, 6, none⟩ v6) ⟨r, 7, none⟩ v7) ⟨r, 8, none⟩ v8) ⟨r, 9, none⟩ v9) ⟨r, 10, none⟩ v10) ⟨r, 11, none⟩ v11) := by
  have a0 : (World.setCell W ⟨r, 0, none⟩ v0).heap[r]? = some (.cells #[v0, x1, x2, x3, x4, x5, x6, x7, x8, x9, x10, x11] t) := setCell_at h 0 v0
  have a1 : (World.setCell (World.setCell W ⟨r, 0, none⟩ v0) ⟨r, 1, none⟩ v1).heap[r]? = some (.cells #[v0, v1, x2, x3, x4, x5, x6, x7, x8, x9, x10, x11] t) := setCell_at a0 1 v1
  have a2 : (World.setCell (World.setCell (World.setCell W ⟨r, 0, none⟩ v0) ⟨r, 1, none⟩ v1) ⟨r, 2, none⟩ v2).heap[r]? = some (.cells #[v0, v1, v2, x3, x4, x5, x6, x7, x8, x9, x10, x11] t) := setCell_at a1 2 v2
  have a3 : (World.setCell (World.setCell (World.setCell (World.setCell W ⟨r, 0, none⟩ v0) ⟨r, 1, none⟩ v1) ⟨r, 2, none⟩ v2) ⟨r, 3, none⟩ v3).heap[r]? = some (.cells #[v0, v1, v2, v3, x4, x5, x6, x7, x8, x9, x10, x11] t) := setCell_at a2 3 v3
  have a4 : (World.setCell (World.setCell (World.setCell (World.setCell (World.setCell W ⟨r, 0, none⟩ v0) ⟨r, 1, none⟩ v1) ⟨r, 2, none⟩ v2) ⟨r, 3, none⟩ v3) ⟨r, 4, none⟩ v4).heap[r]? = some (.cells #[v0, v1, v2, v3, v4, x5, x6, x7, x8, x9, x10, x11] t) := setCell_at a3 4 v4
  have a5 : (World.setCell (World.setCell (World.setCell (World.setCell (World.setCell (World.setCell W ⟨r, 0, none⟩ v0) ⟨r, 1, none⟩ v1) ⟨r, 2, none⟩ v2) ⟨r, 3, none⟩ v3) ⟨r, 4, none⟩ v4) ⟨r, 5, none⟩ v5).heap[r]? = some (.cells #[v0, v1, v2, v3, v4, v5, x6, x7, x8, x9, x10, x11] t) := setCell_at a4 5 v5
  have a6 : (World.setCell (World.setCell (World.setCell (World.setCell (World.setCell (World.setCell (World.setCell W ⟨r, 0, none⟩ v0) ⟨r, 1, none⟩ v1) ⟨r, 2, none⟩ v2) ⟨r, 3, none⟩ v3) ⟨r, 4, none⟩ v4) ⟨r, 5, none⟩ v5) ⟨r, 6, none⟩ v6).heap[r]? = some (.cells #[v0, v1, v2, v3, v4, v5, v6, x7, x8, x9, x10, x11] t) := setCell_at a5 6 v6
  have a7 : (World.setCell (World.setCell (World.setCell (World.setCell (World.setCell (World.setCell (World.setCell (World.setCell W ⟨r, 0, none⟩ v0) ⟨r, 1, none⟩ v1) ⟨r, 2, none⟩ v2) ⟨r, 3, none⟩ v3) ⟨r, 4, none⟩ v4) ⟨r, 5, none⟩ v5) ⟨r, 6, none⟩ v6) ⟨r, 7, none⟩ v7).heap[r]? = some (.cells #[v0, v1, v2, v3, v4, v5, v6, v7, x8, x9, x10, x11] t) := setCell_at a6 7 v7
  have a8 : (World.setCell (World.setCell (World.setCell (World.setCell (World.setCell (World.setCell (World.setCell (World.setCell (World.setCell W ⟨r, 0, none⟩ v0) ⟨r, 1, none⟩ v1) ⟨r, 2, none⟩ v2) ⟨r, 3, none⟩ v3) ⟨r, 4, none⟩ v4) ⟨r, 5, none⟩ v5) ⟨r, 6, none⟩ v6) ⟨r, 7, none⟩ v7) ⟨r, 8, none⟩ v8).heap[r]? = some (.cells #[v0, v1, v2, v3, v4, v5, v6, v7, v8, x9, x10, x11] t) := setCell_at a7 8 v8
  have a9 : (World.setCell (World.setCell (World.setCell (World.setCell (World.setCell (World.setCell (World.setCell (World.setCell (World.setCell (World.setCell W ⟨r, 0, none⟩ v0) ⟨r, 1, none⟩ v1) ⟨r, 2, none⟩ v2) ⟨r, 3, none⟩ v3) ⟨r, 4, none⟩ v4) ⟨r, 5, none⟩ v5) ⟨r, 6, none⟩ v6) ⟨r, 7, none⟩ v7) ⟨r, 8, none⟩ v8) ⟨r, 9, none⟩ v9).heap[r]? = some (.cells #[v0, v1, v2, v3, v4, v5, v6, v7, v8, v9, x10, x11] t) := setCell_at a8 9 v9
  have a10 : (World.setCell (World.setCell (World.setCell (World.setCell (World.setCell (World.setCell (World.setCell (World.setCell (World.setCell (World.setCell (World.setCell W ⟨r, 0, none⟩ v0) ⟨r, 1, none⟩ v1) ⟨r, 2, none⟩ v2) ⟨r, 3, none⟩ v3) ⟨r, 4, none⟩ v4) ⟨r, 5, none⟩ v5) ⟨r, 6, none⟩ v6) ⟨r, 7, none⟩ v7) ⟨r, 8, none⟩ v8) ⟨r, 9, none⟩ v9) ⟨r, 10, none⟩ v10).heap[r]? = some (.cells #[v0, v1, v2, v3, v4, v5, v6, v7, v8, v9, v10, x11] t) := setCell_at a9 10 v10
  have a11 : (World.setCell (World.setCell (World.setCell (World.setCell (World.setCell (World.setCell (World.setCell (World.setCell (World.setCell (World.setCell (World.setCell (World.setCell W ⟨r, 0, none⟩ v0) ⟨r, 1, none⟩ v1) ⟨r, 2, none⟩ v2) ⟨r, 3, none⟩ v3) ⟨r, 4, none⟩ v4) ⟨r, 5, none⟩ v5) ⟨r, 6, none⟩ v6) ⟨r, 7, none⟩ v7) ⟨r, 8, none⟩ v8) ⟨r, 9, none⟩ v9) ⟨r, 10, none⟩ v10) ⟨r, 11, none⟩ v11).heap[r]? = some (.cells #[v0, v1, v2, v3, v4, v5, v6, v7, v8, v9, v10, v11] t) := setCell_at a10 11 v11
  refine ⟨a11, ?_⟩
  have m0 := (Mod.refl (fun k => k = r) W).setCell (p := ⟨r, 0, none⟩) (fun _ => rfl) v0
  have m1 := m0.setCell (p := ⟨r, 1, none⟩) (fun _ => rfl) v1
  have m2 := m1.setCell (p := ⟨r, 2, none⟩) (fun _ => rfl) v2
  have m3 := m2.setCell (p := ⟨r, 3, none⟩) (fun _ => rfl) v3
  have m4 := m3.setCell (p := ⟨r, 4, none⟩) (fun _ => rfl) v4
  have m5 := m4.setCell (p := ⟨r, 5, none⟩) (fun _ => rfl) v5
  have m6 := m5.setCell (p := ⟨r, 6, none⟩) (fun _ => rfl) v6
  have m7 := m6.setCell (p := ⟨r, 7, none⟩) (fun _ => rfl) v7
  have m8 := m7.setCell (p := ⟨r, 8, none⟩) (fun _ => rfl) v8
  have m9 := m8.setCell (p := ⟨r, 9, none⟩) (fun _ => rfl) v9
  have m10 := m9.setCell (p := ⟨r, 10, none⟩) (fun _ => rfl) v10
  have m11 := m10.setCell (p := ⟨r, 11, none⟩) (fun _ => rfl) v11
  exact m11

theorem nextL_across {g : Int × Int → Option Int} {lt tp rt bt y : Nat} (h1 : tp + 1 ≤ y) (h2 : y < bt) (h3 : goesB g lt tp rt y lt y rt bt = true) (h4 : ∀ j, tp + 1 ≤ j → j < y → goesB g lt tp rt j lt j rt bt = false) :
    nextL g lt tp rt bt = some ((false, y, lt, rt), (lt, tp, rt, y), (lt, y, rt, bt)) := by
  have : acrossAt g lt tp rt bt = some y := firstAt_some h1 (by omega) h3 h4
  unfold nextL
  rw [this]
theorem nextL_upright {g : Int × Int → Option Int} {lt tp rt bt x : Nat} (h0 : acrossAt g lt tp rt bt = none) (h1 : lt + 1 ≤ x) (h2 : x < rt) (h3 : goesB g lt tp x bt x tp rt bt = true) (h4 : ∀ j, lt + 1 ≤ j → j < x → goesB g lt tp j bt j tp rt bt = false) :
    nextL g lt tp rt bt = some ((true, x, tp, bt), (lt, tp, x, bt), (x, tp, rt, bt)) := by
  have : uprightAt g lt tp rt bt = some x := firstAt_some h1 (by omega) h3 h4
  unfold nextL
  rw [h0]
  simp only
  rw [this]
theorem nextL_none {g : Int × Int → Option Int} {lt tp rt bt : Nat} (h0 : acrossAt g lt tp rt bt = none) (h1 : uprightAt g lt tp rt bt = none) : nextL g lt tp rt bt = none := by
  unfold nextL
  rw [h0]
  simp only
  rw [h1]

/-- The end of next, behind the stores into the result. -/
theorem stroke_end {fn : Func} (hf : fn.results = #[.cell 4 121, .tmp 5]) {g : Int × Int → Option Int} {lt tp rt bt : Nat} {n : Nat} {w w6 : World} {B : Nat} {Es : List Nat} {tmps : Array Value} {ok : Bool} {x0 x1 x2 x3 x4 x5 x6 x7 x8 x9 x10 x11 : Value}
    (hr : w.heap.size + 1 + 1 < B) (h4 : tmps.getD 4 undef = .pointer (some ⟨w.heap.size + 1 + 1, 0, none⟩)) (h5 : tmps.getD 5 undef = .bool ok) (hb : w6.heap[w.heap.size + 1 + 1]? = some (.cells #[x0, x1, x2, x3, x4, x5, x6, x7, x8, x9, x10, x11] 121)) (hM : Mod noB w w6) (hnd : Es.Nodup) (hes : ∀ E ∈ Es, B ≤ E ∧ w6.heap[E]? = some (.deferred (some [])))
    (v0 v1 v2 v3 v4 v5 v6 v7 v8 v9 v10 v11 : Value) (hout : NextOut (.returned (.tuple #[.agg #[v0, v1, v2, v3, v4, v5, v6, v7, v8, v9, v10, v11], .bool ok])) (nextL g lt tp rt bt)) :
    LeavesInM Fence.wide n Try.prog fn tmps (fun e w' => NextOut e (nextL g lt tp rt bt) ∧ Mod noB w w') (Es.map markD) .returning (World.setCell (World.setCell (World.setCell (World.setCell (World.setCell (World.setCell (World.setCell (World.setCell (World.setCell (World.setCell (World.setCell (World.setCell w6 ⟨w.heap.size + 1 + 1, 0, none⟩ v0) ⟨w.heap.size + 1 + 1, 1, none⟩ v1) ⟨w.heap.size + 1 + 1, 2, none⟩ v2) ⟨w.heap.size + 1 + 1, 3, none⟩ v3) ⟨w.heap.size + 1 + 1, 4, none⟩ v4) ⟨w.heap.size + 1 + 1, 5, none⟩ v5) ⟨w.heap.size + 1 + 1, 6, none⟩ v6) ⟨w.heap.size + 1 + 1, 7, none⟩ v7) ⟨w.heap.size + 1 + 1, 8, none⟩ v8) ⟨w.heap.size + 1 + 1, 9, none⟩ v9) ⟨w.heap.size + 1 + 1, 10, none⟩ v10) ⟨w.heap.size + 1 + 1, 11, none⟩ v11) := by
  obtain ⟨s1, s2⟩ := set12 hb v0 v1 v2 v3 v4 v5 v6 v7 v8 v9 v10 v11
  generalize (World.setCell (World.setCell (World.setCell (World.setCell (World.setCell (World.setCell (World.setCell (World.setCell (World.setCell (World.setCell (World.setCell (World.setCell w6 ⟨w.heap.size + 1 + 1, 0, none⟩ v0) ⟨w.heap.size + 1 + 1, 1, none⟩ v1) ⟨w.heap.size + 1 + 1, 2, none⟩ v2) ⟨w.heap.size + 1 + 1, 3, none⟩ v3) ⟨w.heap.size + 1 + 1, 4, none⟩ v4) ⟨w.heap.size + 1 + 1, 5, none⟩ v5) ⟨w.heap.size + 1 + 1, 6, none⟩ v6) ⟨w.heap.size + 1 + 1, 7, none⟩ v7) ⟨w.heap.size + 1 + 1, 8, none⟩ v8) ⟨w.heap.size + 1 + 1, 9, none⟩ v9) ⟨w.heap.size + 1 + 1, 10, none⟩ v10) ⟨w.heap.size + 1 + 1, 11, none⟩ v11) = w7 at s1 s2 ⊢
  refine leaves_marks Es w7 hnd (fun E hE => s2.at (hes E hE).2 (by have := (hes E hE).1; omega)) fun W3 hm3 => ?_
  have s3 := hm3.at s1 (fun hE => by have := (hes _ hE).1; omega)
  refine ⟨_, (results_row_tmp hf _ _ (w.heap.size + 1 + 1) _ _ h4 s3 Try.underlying121 rfl (by kernel_rfl)).trans (by rw [h5]), hout, ?_⟩
  exact (hM.then s2 (fun i h1 h2 => by omega)).then hm3 (fun i h1 h2 => by have := (hes i h2).1; omega)

set_option maxRecDepth 100000 in
set_option maxHeartbeats 8000000 in
theorem next_is (g : Int × Int → Option Int) (W H : Nat) (G : Grid g W H) (N : Int) (mb lt tp rt bt : Nat) (h1 : lt < rt) (h2 : rt ≤ W) (h3 : tp < bt) (h4 : bt ≤ H) (w : World) (hm : MapIs Try.prog 106 cellV w mb g) :
    Calls Try.prog 79 #[picV W H N mb, blockV lt tp rt bt] w fun e w' => NextOut e (nextL g lt tp rt bt) ∧ Mod noB w w' := by
  refine callsIn_wide (n := 3) |>.1 ?_
  refine callsIn_of_wp_marks Try.func79 rfl trivial ?_ rfl
  simp only [Try.ntmps79, List.size_toArray, List.length_cons, List.length_nil, Nat.reduceAdd, Nat.reduceSub, Array.replicate_succ, Array.replicate_zero, List.push_toArray, List.append_toArray, List.nil_append, List.cons_append]
  have HM := Hold.mk hm
  have HG := Hold.mk G
  have hw2 := G.w2
  have hh2 := G.h2
  clear hm G
  gi_wp2_with (refine ⟨trivial, ?_⟩; gi_at_call 85; refine (callsIn_wide.2 (directions_any _)).mono ?_; rintro e W1 ⟨rfl, hM1, hD1⟩)
  have hz0 := (Array.getElem?_eq_some_iff.1 hD1).1
  simp only [World.size_alloc] at hz0 hD1
  have a0 := hM1.at (k := w.heap.size) (o := .cells #[.int .i64 W, .int .i64 H, .int .i64 N, .map (some mb)] 71) (by rw [Below.heap_alloc _ _ _ (by simp; omega), Below.heap_alloc _ _ _ (by simp)]; exact World.alloc_heap_new w _) id
  have a1 := hM1.at (k := w.heap.size + 1) (o := .cells #[.int .i64 lt, .int .i64 tp, .int .i64 rt, .int .i64 bt] 97) (by rw [Below.heap_alloc _ _ _ (by simp)]; have := World.alloc_heap_new (w.alloc (.cells #[.int .i64 W, .int .i64 H, .int .i64 N, .map (some mb)] 71)) (.cells #[.int .i64 lt, .int .i64 tp, .int .i64 rt, .int .i64 bt] 97); simpa using this) id
  have a2 := hM1.at (k := w.heap.size + 1 + 1) (by have := World.alloc_heap_new ((w.alloc (.cells #[.int .i64 W, .int .i64 H, .int .i64 N, .map (some mb)] 71)).alloc (.cells #[.int .i64 lt, .int .i64 tp, .int .i64 rt, .int .i64 bt] 97)) (.cells #[.bool false, .int .i64 0, .int .i64 0, .int .i64 0, .int .i64 0, .int .i64 0, .int .i64 0, .int .i64 0, .int .i64 0, .int .i64 0, .int .i64 0, .int .i64 0] 121); simpa using this) id
  have hMw : Mod noB w W1 := (((Mod.refl noB w).alloc _).alloc _).alloc _ |>.trans hM1
  have hmw := HM.out.same (hMw.block mb HM.out.lt id)
  have FIN : Hold (∀ W', Mod noB W1 W' → (W'.cell? ⟨w.heap.size, 0, none⟩ = some (.int .i64 W) ∧ W'.cell? ⟨w.heap.size, 1, none⟩ = some (.int .i64 H) ∧ W'.cell? ⟨w.heap.size, 2, none⟩ = some (.int .i64 N) ∧ W'.cell? ⟨w.heap.size, 3, none⟩ = some (.map (some mb))) ∧
      (W'.cell? ⟨w.heap.size + 1, 0, none⟩ = some (.int .i64 lt) ∧ W'.cell? ⟨w.heap.size + 1, 1, none⟩ = some (.int .i64 tp) ∧ W'.cell? ⟨w.heap.size + 1, 2, none⟩ = some (.int .i64 rt) ∧ W'.cell? ⟨w.heap.size + 1, 3, none⟩ = some (.int .i64 bt)) ∧
      (W'.cell? ⟨w.heap.size + 1 + 1 + 1, 0, none⟩ = some (.bool false) ∧ W'.cell? ⟨w.heap.size + 1 + 1 + 1, 1, none⟩ = some (.func (.func 89) #[] #[]) ∧ W'.cell? ⟨w.heap.size + 1 + 1 + 1, 2, none⟩ = some (.func (.func 90) #[] #[]) ∧ W'.cell? ⟨w.heap.size + 1 + 1 + 1, 3, none⟩ = some (.func (.func 91) #[] #[]) ∧
       W'.cell? ⟨w.heap.size + 1 + 1 + 1, 4, none⟩ = some (.bool true) ∧ W'.cell? ⟨w.heap.size + 1 + 1 + 1, 5, none⟩ = some (.func (.func 90) #[] #[]) ∧ W'.cell? ⟨w.heap.size + 1 + 1 + 1, 6, none⟩ = some (.func (.func 89) #[] #[]) ∧ W'.cell? ⟨w.heap.size + 1 + 1 + 1, 7, none⟩ = some (.func (.func 92) #[] #[])) ∧
      MapIs Try.prog 106 cellV W' mb g ∧ W'.heap[w.heap.size + 1 + 1]? = some (.cells #[.bool false, .int .i64 0, .int .i64 0, .int .i64 0, .int .i64 0, .int .i64 0, .int .i64 0, .int .i64 0, .int .i64 0, .int .i64 0, .int .i64 0, .int .i64 0] 121)) := ⟨fun W' h => by
    have e0 := h.at a0 id
    have e1 := h.at a1 id
    have e2 := h.at hD1 id
    refine ⟨⟨?_, ?_, ?_, ?_⟩, ⟨?_, ?_, ?_, ?_⟩, ⟨?_, ?_, ?_, ?_, ?_, ?_, ?_, ?_⟩, hmw.same (h.block mb hmw.lt id), h.at a2 id⟩ <;> simp [World.cell?, e0, e1, e2]⟩
  have HMW := Hold.mk hMw
  clear a0 a1 a2 hD1 hMw hmw hM1
  refine wpIn_loop (fun a Wc => ∃ (k : Nat) (Ds : List Nat),
      a = { tmps := List.toArray ((picV W H N mb) :: (blockV lt tp rt bt) :: (.pointer (some ⟨w.heap.size, 0, none⟩)) :: (.pointer (some ⟨w.heap.size + 1, 0, none⟩)) :: (.pointer (some ⟨w.heap.size + 1 + 1, 0, none⟩)) :: (.bool false) :: (undef) :: (tmpOf a 7) :: (tmpOf a 8) :: (tmpOf a 9) :: (tmpOf a 10) :: (tmpOf a 11) :: (tmpOf a 12) :: (tmpOf a 13) :: (tmpOf a 14) :: (tmpOf a 15) :: (tmpOf a 16) :: (.slice (some ⟨w.heap.size + 1 + 1 + 1, 0, none⟩) 2 2) :: (.int .i64 2) :: (.int .i64 k) :: (tmpOf a 20) :: (tmpOf a 21) :: (tmpOf a 22) :: (tmpOf a 23) :: (tmpOf a 24) :: (tmpOf a 25) :: (tmpOf a 26) :: (tmpOf a 27) :: (tmpOf a 28) :: (tmpOf a 29) :: (tmpOf a 30) :: (tmpOf a 31) :: (tmpOf a 32) :: (tmpOf a 33) :: (tmpOf a 34) :: (tmpOf a 35) :: (tmpOf a 36) :: (tmpOf a 37) :: (tmpOf a 38) :: (tmpOf a 39) :: (tmpOf a 40) :: (tmpOf a 41) :: (tmpOf a 42) :: (tmpOf a 43) :: (tmpOf a 44) :: (tmpOf a 45) :: (tmpOf a 46) :: (tmpOf a 47) :: (tmpOf a 48) :: (tmpOf a 49) :: (tmpOf a 50) :: (tmpOf a 51) :: (tmpOf a 52) :: (tmpOf a 53) :: (tmpOf a 54) :: (tmpOf a 55) :: (tmpOf a 56) :: (tmpOf a 57) :: (tmpOf a 58) :: (tmpOf a 59) :: (tmpOf a 60) :: (tmpOf a 61) :: (tmpOf a 62) :: (tmpOf a 63) :: (tmpOf a 64) :: (tmpOf a 65) :: (tmpOf a 66) :: (tmpOf a 67) :: (tmpOf a 68) :: (tmpOf a 69) :: (tmpOf a 70) :: (tmpOf a 71) :: (undef) :: []), defers := Ds.map markD } ∧
      k ≤ 2 ∧ (1 ≤ k → acrossAt g lt tp rt bt = none) ∧ (2 ≤ k → uprightAt g lt tp rt bt = none) ∧ Mod noB W1 Wc ∧ Ds.Nodup ∧ ∀ D ∈ Ds, W1.heap.size ≤ D ∧ Wc.heap[D]? = some (.deferred (some [])))
    (fun a _ => 2 - (intOf (a.tmps.getD 19 undef)).toNat) ⟨0, [], rfl, by omega, fun h => by omega, fun h => by omega, Mod.refl _ _, by simp, by simp⟩ ?_
  rintro a Wc ⟨k, Ds, ha, hk, hA, hU, hmc, hnd, hds⟩
  generalize tmpOf a = u at ha
  subst ha
  have HK := Hold.mk (And.intro hA (And.intro hU (And.intro hmc (And.intro hnd hds))))
  obtain ⟨⟨p0, p1, p2, p3⟩, ⟨b0, b1, b2, b3⟩, ⟨d0, d1, d2, d3, d4, d5, d6, d7⟩, _, _⟩ := FIN.out Wc hmc
  clear hA hU hmc hnd hds
  generalize hdsE : Ds.map markD = ds
  have hkk : k = 0 ∨ k = 1 ∨ k = 2 := by omega
  rcases hkk with rfl | rfl | rfl
  · gi_wp2
    obtain ⟨wa, hwa⟩ : ∃ wa, Wc.alloc (.cells #[.bool false, .func (.func 89) #[] #[], .func (.func 90) #[] #[], .func (.func 91) #[] #[]] 138) = wa := ⟨_, rfl⟩
    have hMa : Mod noB Wc wa := by rw [← hwa]; exact (Mod.refl _ _).alloc _
    have hda : wa.heap[Wc.heap.size]? = some (.cells #[.bool false, .func (.func 89) #[] #[], .func (.func 90) #[] #[], .func (.func 91) #[] #[]] 138) := by rw [← hwa]; exact World.alloc_heap_new _ _
    rw [hwa]
    clear hwa p0 p1 p2 p3 b0 b1 b2 b3 d0 d1 d2 d3 d4 d5 d6 d7
    obtain ⟨_, ⟨b0, b1, b2, b3⟩, _, _, _⟩ := FIN.out wa (HK.out.2.2.1.trans hMa)
    have e0 : wa.cell? ⟨Wc.heap.size, 1, none⟩ = some (.func (.func 89) #[] #[]) := by simp [World.cell?, hda]
    have HMA := Hold.mk (And.intro hMa hda)
    clear hMa hda
    refine wpIn_scope_wide ?_
    gi_wp2_with (refine ⟨trivial, ?_⟩; gi_at_call 89; refine (callsIn_wide.2 (rows_any _ _ _ _ _)).mono ?_; rintro e w2 ⟨rfl, hM2⟩; have HM2 := Hold.mk hM2; clear hM2)
    refine wpIn_label ?_
    gi_wp2
    refine wpIn_loop (fun a Wd => ∃ (y : Nat) (Ds : List Nat),
        a = { tmps := List.toArray ((picV W H N mb) :: (blockV lt tp rt bt) :: (.pointer (some ⟨w.heap.size, 0, none⟩)) :: (.pointer (some ⟨w.heap.size + 1, 0, none⟩)) :: (.pointer (some ⟨w.heap.size + 1 + 1, 0, none⟩)) :: (.bool false) :: (undef) :: (.pointer (some ⟨Wc.heap.size, 0, none⟩)) :: (tmpOf a 8) :: (.int .i64 bt) :: (.int .i64 (y : Nat)) :: (tmpOf a 11) :: (tmpOf a 12) :: (tmpOf a 13) :: (tmpOf a 14) :: (tmpOf a 15) :: (tmpOf a 16) :: (.slice (some ⟨w.heap.size + 1 + 1 + 1, 0, none⟩) 2 2) :: (.int .i64 2) :: (.int .i64 0) :: (tmpOf a 20) :: (tmpOf a 21) :: (tmpOf a 22) :: (tmpOf a 23) :: (tmpOf a 24) :: (tmpOf a 25) :: (tmpOf a 26) :: (tmpOf a 27) :: (tmpOf a 28) :: (tmpOf a 29) :: (tmpOf a 30) :: (tmpOf a 31) :: (tmpOf a 32) :: (tmpOf a 33) :: (tmpOf a 34) :: (tmpOf a 35) :: (tmpOf a 36) :: (tmpOf a 37) :: (tmpOf a 38) :: (tmpOf a 39) :: (tmpOf a 40) :: (tmpOf a 41) :: (tmpOf a 42) :: (tmpOf a 43) :: (tmpOf a 44) :: (tmpOf a 45) :: (tmpOf a 46) :: (tmpOf a 47) :: (tmpOf a 48) :: (tmpOf a 49) :: (tmpOf a 50) :: (tmpOf a 51) :: (tmpOf a 52) :: (tmpOf a 53) :: (tmpOf a 54) :: (tmpOf a 55) :: (tmpOf a 56) :: (tmpOf a 57) :: (tmpOf a 58) :: (tmpOf a 59) :: (tmpOf a 60) :: (tmpOf a 61) :: (tmpOf a 62) :: (tmpOf a 63) :: (tmpOf a 64) :: (tmpOf a 65) :: (tmpOf a 66) :: (tmpOf a 67) :: (tmpOf a 68) :: (tmpOf a 69) :: (tmpOf a 70) :: (tmpOf a 71) :: (undef) :: []), defers := Ds.map markD } ∧
        tp + 1 ≤ y ∧ y ≤ bt ∧ (∀ j, tp + 1 ≤ j → j < y → (fun y => goesB g lt tp rt y lt y rt bt) j = false) ∧ Mod noB wa Wd ∧ Ds.Nodup ∧ ∀ D ∈ Ds, W1.heap.size ≤ D ∧ Wd.heap[D]? = some (.deferred (some [])))
      (fun a _ => bt - (intOf (a.tmps.getD 10 undef)).toNat) ⟨tp + 1, Ds, by rw [← hdsE]; rfl, by omega, by omega, fun j h5 h6 => by omega, HM2.out, HK.out.2.2.2.1, fun D hD => ⟨(HK.out.2.2.2.2 D hD).1, HM2.out.at (HMA.out.1.at (HK.out.2.2.2.2 D hD).2 id) id⟩⟩ ?_
    have HDE := Hold.mk hdsE
    clear hdsE e0 b0 b1 b2 b3
    rintro a Wd ⟨y, Es, ha, hy1, hy2, hno, hmd, hnd, hes⟩
    generalize tmpOf a = v at ha
    subst ha
    have hM1d := (HK.out.2.2.1.trans HMA.out.1).trans hmd
    have HK2 := Hold.mk (And.intro hno (And.intro hmd (And.intro hnd hes)))
    clear hno hmd hnd hes
    generalize hesE : Es.map markD = es
    by_cases hyb : y < bt
    · obtain ⟨⟨p0, p1, p2, p3⟩, ⟨b0, b1, b2, b3⟩, _, _, _⟩ := FIN.out Wd hM1d
      have f3 : Wd.cell? ⟨Wc.heap.size, 3, none⟩ = some (.func (.func 91) #[] #[]) := by simp [World.cell?, HK2.out.2.1.at HMA.out.2 id]
      have hyi : (y : Int) < (bt : Int) := by omega
      have HM1d := Hold.mk hM1d
      clear hM1d
      gi_wp2_with (first
        | (refine ⟨trivial, ?_⟩; gi_at_call 91; refine (callsIn_wide.2 (across_any _ _ _ _ _ _)).mono ?_; rintro e w3 ⟨rfl, hM3⟩
           obtain ⟨⟨q0, q1, q2, q3⟩, _⟩ := FIN.out w3 (HM1d.out.trans hM3)
           have hz3 : w.heap.size < w3.heap.size := (by have := (HM1d.out.trans hM3).size; omega)
           have HM3 := Hold.mk hM3
           clear hM3 p0 p1 p2 p3 b0 b1 b2 b3 f3)
        | (refine ⟨trivial, ?_⟩; gi_at_call 86; refine (callsIn_wide.2 (within_any g W H HG.out N mb lt tp rt y (by omega) (by omega) (by omega) (by omega) _ (FIN.out _ (((HM1d.out.trans HM3.out).alloc _).alloc _)).2.2.2.1)).mono ?_; rintro e w4 ⟨rfl, hM4⟩
           have hM34 : Mod noB w3 w4 := (((Mod.refl noB w3).alloc _).alloc _).trans hM4
           have h11 := hM4.at ((Below.heap_alloc _ (.cells #[.int .i64 lt, .int .i64 y, .int .i64 rt, .int .i64 bt] 97) _ (by simp)).trans (World.alloc_heap_new w3 (.cells #[.int .i64 lt, .int .i64 tp, .int .i64 rt, .int .i64 y] 97))) id
           have h12 := hM4.at (World.alloc_heap_new (w3.alloc (.cells #[.int .i64 lt, .int .i64 tp, .int .i64 rt, .int .i64 y] 97)) (.cells #[.int .i64 lt, .int .i64 y, .int .i64 rt, .int .i64 bt] 97)) id
           rw [World.size_alloc] at h12
           have HM4 := Hold.mk (And.intro hM34 (And.intro h11 h12))
           clear hM34 h11 h12 hM4 q0 q1 q2 q3)
        | (refine wpListIn_storeRow rfl 84 (.tmp 13) (.tmp 47) rfl w4.heap.size rfl _ rfl 84 _ (World.alloc_heap_new w4 _) (by rw [boolCells, fcells_size]; kernel_rfl) (by rw [boolCells, fcells_size]; rfl) (by simp [boolCells, fcells, Value.oneCell']) ?_
           generalize hWx : World.putObj _ _ _ = Wx
           have hx := laid_put hWx
           obtain ⟨⟨q0, q1, q2, q3⟩, _⟩ := FIN.out Wx ((HM1d.out.trans HM3.out).trans (HM4.out.1.trans hx.1))
           have h12 := hx.1.at HM4.out.2.2 id
           have g0 : Wx.cell? ⟨w3.heap.size + 1, 0, none⟩ = some (.int .i64 lt) := (by simp [World.cell?, h12])
           have g1 : Wx.cell? ⟨w3.heap.size + 1, 1, none⟩ = some (.int .i64 y) := (by simp [World.cell?, h12])
           have g2 : Wx.cell? ⟨w3.heap.size + 1, 2, none⟩ = some (.int .i64 rt) := (by simp [World.cell?, h12])
           have g3 : Wx.cell? ⟨w3.heap.size + 1, 3, none⟩ = some (.int .i64 bt) := (by simp [World.cell?, h12])
           have hzx : w.heap.size < Wx.heap.size := (by have := ((HM1d.out.trans HM3.out).trans (HM4.out.1.trans hx.1)).size; omega)
           have hzy : w3.heap.size + 1 < Wx.heap.size := (Array.getElem?_eq_some_iff.1 h12).1
           have HX := Hold.mk hx
           clear hWx hx h12 hz3)
        | (refine ⟨trivial, ?_⟩; gi_at_call 84; refine (callsIn_wide.2 (numbers_any _ _ _ _ _ _ _ _ _)).mono ?_; rintro e w5 ⟨rfl, rfl⟩))
      rw [allocL2]
      obtain ⟨W5, hW5⟩ : ∃ W5, allocL Wx [.cells #[.int .i64 W, .int .i64 H, .int .i64 N, .map (some mb)] 71, .cells #[.int .i64 lt, .int .i64 y, .int .i64 rt, .int .i64 bt] 97] = W5 := ⟨_, rfl⟩
      have hM5 : Mod noB Wx W5 := by rw [← hW5]; exact allocL_mod _ _ _
      have hz5 : W5.heap.size = Wx.heap.size + 2 := by rw [← hW5]; exact allocL_size _ _
      have bp5 : W5.heap[Wx.heap.size + 0]? = some (.cells #[.int .i64 W, .int .i64 H, .int .i64 N, .map (some mb)] 71) := by rw [← hW5]; exact allocL_at _ _ _ _ rfl
      have bb5 : W5.heap[Wx.heap.size + 1]? = some (.cells #[.int .i64 lt, .int .i64 y, .int .i64 rt, .int .i64 bt] 97) := by rw [← hW5]; exact allocL_at _ _ _ _ rfl
      rw [hW5]
      simp only [Nat.add_zero] at bp5
      clear hW5 q0 q1 q2 q3 g0 g1 g2 g3
      have hMd5 : Mod noB Wd W5 := ((HM3.out.trans HM4.out.1).trans HX.out.1).trans hM5
      have hbw5 := hM5.at HX.out.2 id
      have hf5 := hM5.at (HX.out.1.at HM4.out.2.1 id) id
      have hs5 := hM5.at (HX.out.1.at HM4.out.2.2 id) id
      have hmp5 := (FIN.out W5 (HM1d.out.trans hMd5)).2.2.2.1
      have hz45 : w4.heap.size < W5.heap.size := (Array.getElem?_eq_some_iff.1 hbw5).1
      have H40 : Hold (∀ x ∈ numbersL g lt y rt bt, 0 ≤ x ∧ x < 40) := ⟨fun x hx => numbersL_le HG.out (by omega) (by omega) hx⟩
      have HB5 := Hold.mk (And.intro hbw5 (And.intro hf5 (And.intro hs5 (And.intro hMd5 hM5))))
      clear hbw5 hf5 hs5 hM5
      refine range_plain (gf := 88) (lb := #[.pointer (some ⟨Wx.heap.size + 1, 0, none⟩), .pointer (some ⟨Wx.heap.size, 0, none⟩)]) rfl rfl enter88 (numbers1_runs (Wx.heap.size + 1) Wx.heap.size mb lt y rt bt W H N g W5 bb5 bp5 hmp5 (by omega) (by omega) (by omega) (by omega))
        (by rintro b (rfl | rfl | rfl)
            · omega
            · omega
            · exact hmp5.lt) noB (fun b hb => hb.elim)
        (fun pre Wr => (∀ x ∈ pre, x ∉ numbersL g lt tp rt y) ∧ Mod noB W5 Wr)
        (fun c pre Wr => (c = .exit 3 ∧ ∃ x ∈ pre, x ∈ numbersL g lt tp rt y) ∧ Mod noB W5 Wr)
        (fun s A B h hg => ⟨h.1, h.2.then hg (fun i h1 h2 => by omega)⟩)
        (fun c s A B h hg => ⟨h.1, h.2.then hg (fun i h1 h2 => by omega)⟩)
        ⟨fun x hx => (by cases hx), Mod.refl _ _⟩
        none
        (fun _ x => { tmps := List.toArray ((picV W H N mb) :: (blockV lt tp rt bt) :: (.pointer (some ⟨w.heap.size, 0, none⟩)) :: (.pointer (some ⟨w.heap.size + 1, 0, none⟩)) :: (.pointer (some ⟨w.heap.size + 1 + 1, 0, none⟩)) :: (.bool false) :: (undef) :: (.pointer (some ⟨Wc.heap.size, 0, none⟩)) :: (v 8) :: (.int .i64 bt) :: (.int .i64 (y : Nat)) :: (.pointer (some ⟨w3.heap.size, 0, none⟩)) :: (.pointer (some ⟨w3.heap.size + 1, 0, none⟩)) :: (.pointer (some ⟨w4.heap.size, 0, none⟩)) :: (.int .i64 x) :: (v 15) :: (v 16) :: (.slice (some ⟨w.heap.size + 1 + 1 + 1, 0, none⟩) 2 2) :: (.int .i64 2) :: (.int .i64 0) :: (v 20) :: (v 21) :: (v 22) :: (v 23) :: (v 24) :: (v 25) :: (v 26) :: (v 27) :: (v 28) :: (v 29) :: (v 30) :: (v 31) :: (.int .i64 (y : Nat)) :: (.int .i64 bt) :: (.bool true) :: (v 35) :: (v 36) :: (.tuple #[.agg #[.int .i64 lt, .int .i64 tp, .int .i64 rt, .int .i64 y], .agg #[.int .i64 lt, .int .i64 y, .int .i64 rt, .int .i64 bt]]) :: (.pointer (some ⟨Wc.heap.size, 3, none⟩)) :: (.func (.func 91) #[] #[]) :: (.agg #[.int .i64 lt, .int .i64 tp, .int .i64 rt, .int .i64 bt]) :: (.int .i64 (y : Nat)) :: (.tuple #[.agg #[.int .i64 lt, .int .i64 tp, .int .i64 rt, .int .i64 y], .agg #[.int .i64 lt, .int .i64 y, .int .i64 rt, .int .i64 bt]]) :: (.agg #[.int .i64 lt, .int .i64 tp, .int .i64 rt, .int .i64 y]) :: (.agg #[.int .i64 lt, .int .i64 y, .int .i64 rt, .int .i64 bt]) :: (.agg #[.int .i64 W, .int .i64 H, .int .i64 N, .map (some mb)]) :: (.agg #[.int .i64 lt, .int .i64 tp, .int .i64 rt, .int .i64 y]) :: (.agg (boolCells 40 (memB (numbersL g lt tp rt y)))) :: (.agg #[.int .i64 W, .int .i64 H, .int .i64 N, .map (some mb)]) :: (.agg #[.int .i64 lt, .int .i64 y, .int .i64 rt, .int .i64 bt]) :: (.func (.func 88) #[] #[.pointer (some ⟨Wx.heap.size + 1, 0, none⟩), .pointer (some ⟨Wx.heap.size, 0, none⟩)]) :: (.int .i64 x) :: (v 52) :: (v 53) :: (v 54) :: (v 55) :: (v 56) :: (v 57) :: (v 58) :: (v 59) :: (v 60) :: (v 61) :: (v 62) :: (v 63) :: (v 64) :: (v 65) :: (v 66) :: (v 67) :: (v 68) :: (v 69) :: (v 70) :: (v 71) :: (undef) :: []), defers := [] })
        ?assign ?body ?done ?stop
      case assign =>
        intro l x W K hK
        gi_wp2
        exact hK
      case body =>
        rintro l2 pre x rest a' Wr hL hl2 hr2 hzr ⟨hno, hmr⟩ rfl
        obtain ⟨hx1, hx2⟩ := H40.out x (by rw [hL]; simp)
        obtain ⟨x, rfl⟩ := Int.eq_ofNat_of_zero_le hx1
        have hx : x < 40 := by omega
        have c0 : Wr.cell? ⟨w4.heap.size, x, none⟩ = some (.bool (memB (numbersL g lt tp rt y) x)) := fcells_cell (hmr.at HB5.out.1 id) hx
        have HR := Hold.mk (And.intro hno hmr)
        clear hL hno hmr bp5 bb5 hmp5
        cases hmb : memB (numbersL g lt tp rt y) x with
        | true =>
          rw [hmb] at c0
          have HMB : Hold ((x : Int) ∈ numbersL g lt tp rt y) := ⟨by unfold memB at hmb; simpa using hmb⟩
          clear hmb
          gi_wp2
          exact ⟨Mod.refl _ _, ⟨rfl, x, by simp, HMB.out⟩, HR.out.2⟩
        | false =>
          rw [hmb] at c0
          have HMB : Hold ((x : Int) ∉ numbersL g lt tp rt y) := ⟨by unfold memB at hmb; simpa using hmb⟩
          clear hmb
          gi_wp2
          refine ⟨Mod.refl _ _, fun z hz => ?_, HR.out.2⟩
          rcases List.mem_append.1 hz with h | h
          · exact HR.out.1 z h
          · obtain rfl : z = x := by simpa using h
            exact HMB.out
      case done =>
        rintro D W' hD hz ⟨hno', hm'⟩ hK
        have hyes : Hold ((fun y => goesB g lt tp rt y lt y rt bt) y = true) := ⟨by
          simp only [goesB, List.all_eq_true]
          intro n hn
          simpa using hno' n hn⟩
        have hM5' := HB5.out.2.2.2.1.trans hm'
        obtain ⟨_, ⟨b0, b1, b2, b3⟩, _⟩ := FIN.out W' (HM1d.out.trans hM5')
        have hpd := hM5'.at (HK2.out.2.1.at HMA.out.2 id) id
        have f2 : W'.cell? ⟨Wc.heap.size, 2, none⟩ = some (.func (.func 90) #[] #[]) := by simp [World.cell?, hpd]
        have HW := Hold.mk (And.intro hM5' (And.intro hm' (And.intro hK hpd)))
        have hzw : w.heap.size + 1 + 1 < W'.heap.size := by have := (HM1d.out.trans hM5').size; omega
        clear hno' hM5' hm' hK hpd bp5 bb5 hmp5
        gi_wp2_with (refine ⟨trivial, ?_⟩; gi_at_call 90; refine (callsIn_wide.2 (columns_any _ _ _ _ _)).mono ?_; rintro e w6 ⟨rfl, hM6⟩; have hres := (FIN.out w6 ((HM1d.out.trans HW.out.1).trans hM6)).2.2.2.2; have hf6 := hM6.at (HW.out.2.1.at HB5.out.2.1 id) id; have hs6 := hM6.at (HW.out.2.1.at HB5.out.2.2.1 id) id; have hp6 := hM6.at HW.out.2.2.2 id
                     have y0 : w6.cell? ⟨Wc.heap.size, 0, none⟩ = some (.bool false) := (by simp [World.cell?, hp6])
                     have t0 : w6.cell? ⟨w3.heap.size, 0, none⟩ = some (.int .i64 lt) := (by simp [World.cell?, hf6])
                     have t1 : w6.cell? ⟨w3.heap.size, 1, none⟩ = some (.int .i64 tp) := (by simp [World.cell?, hf6])
                     have t2 : w6.cell? ⟨w3.heap.size, 2, none⟩ = some (.int .i64 rt) := (by simp [World.cell?, hf6])
                     have t3 : w6.cell? ⟨w3.heap.size, 3, none⟩ = some (.int .i64 y) := (by simp [World.cell?, hf6])
                     have s0 : w6.cell? ⟨w3.heap.size + 1, 0, none⟩ = some (.int .i64 lt) := (by simp [World.cell?, hs6])
                     have s1 : w6.cell? ⟨w3.heap.size + 1, 1, none⟩ = some (.int .i64 y) := (by simp [World.cell?, hs6])
                     have s2 : w6.cell? ⟨w3.heap.size + 1, 2, none⟩ = some (.int .i64 rt) := (by simp [World.cell?, hs6])
                     have s3 : w6.cell? ⟨w3.heap.size + 1, 3, none⟩ = some (.int .i64 bt) := (by simp [World.cell?, hs6])
                     have r0 : w6.cell? ⟨w.heap.size + 1 + 1, 0, none⟩ = some (.bool false) := (by simp [World.cell?, hres]); have z0 := cells_frozen hres 0; have r1 : w6.cell? ⟨w.heap.size + 1 + 1, 1, none⟩ = some (.int .i64 0) := (by simp [World.cell?, hres]); have z1 := cells_frozen hres 1; have r2 : w6.cell? ⟨w.heap.size + 1 + 1, 2, none⟩ = some (.int .i64 0) := (by simp [World.cell?, hres]); have z2 := cells_frozen hres 2; have r3 : w6.cell? ⟨w.heap.size + 1 + 1, 3, none⟩ = some (.int .i64 0) := (by simp [World.cell?, hres]); have z3 := cells_frozen hres 3; have r4 : w6.cell? ⟨w.heap.size + 1 + 1, 4, none⟩ = some (.int .i64 0) := (by simp [World.cell?, hres]); have z4 := cells_frozen hres 4; have r5 : w6.cell? ⟨w.heap.size + 1 + 1, 5, none⟩ = some (.int .i64 0) := (by simp [World.cell?, hres]); have z5 := cells_frozen hres 5; have r6 : w6.cell? ⟨w.heap.size + 1 + 1, 6, none⟩ = some (.int .i64 0) := (by simp [World.cell?, hres]); have z6 := cells_frozen hres 6; have r7 : w6.cell? ⟨w.heap.size + 1 + 1, 7, none⟩ = some (.int .i64 0) := (by simp [World.cell?, hres]); have z7 := cells_frozen hres 7; have r8 : w6.cell? ⟨w.heap.size + 1 + 1, 8, none⟩ = some (.int .i64 0) := (by simp [World.cell?, hres]); have z8 := cells_frozen hres 8; have r9 : w6.cell? ⟨w.heap.size + 1 + 1, 9, none⟩ = some (.int .i64 0) := (by simp [World.cell?, hres]); have z9 := cells_frozen hres 9; have r10 : w6.cell? ⟨w.heap.size + 1 + 1, 10, none⟩ = some (.int .i64 0) := (by simp [World.cell?, hres]); have z10 := cells_frozen hres 10; have r11 : w6.cell? ⟨w.heap.size + 1 + 1, 11, none⟩ = some (.int .i64 0) := (by simp [World.cell?, hres]); have z11 := cells_frozen hres 11
                     have HM6 := Hold.mk (And.intro hM6 hres); clear hM6 hres hf6 hs6 hp6 b0 b1 b2 b3 f2)
        rw [Exit.noGoto_ret]
        gi_wp2
        rw [← hesE]
        show LeavesInM _ _ _ _ _ _ ((D :: Es).map markD) _ _
        have hzd := HW.out.2.1.size
        have hzd5 := HB5.out.2.2.2.1.size
        have hzd1 := HM1d.out.size
        refine stroke_end (B := W1.heap.size) rfl (by omega) rfl rfl HM6.out.2 (((HMW.out.trans HM1d.out).trans HW.out.1).trans HM6.out.1) ?_ ?_ _ _ _ _ _ _ _ _ _ _ _ _ ?_
        · refine List.nodup_cons.2 ⟨fun hm => ?_, HK2.out.2.2.1⟩
          have h1 := (Array.getElem?_eq_some_iff.1 (HK2.out.2.2.2 D hm).2).1
          omega
        · intro E hE
          rcases List.mem_cons.1 hE with rfl | hE
          · exact ⟨by omega, HM6.out.1.at HW.out.2.2.1 id⟩
          · exact ⟨(HK2.out.2.2.2 E hE).1, HM6.out.1.at (HW.out.1.at (HK2.out.2.2.2 E hE).2 id) id⟩
        · rw [nextL_across hy1 hyb hyes.out HK2.out.1]
          rfl
      case stop =>
        rintro D c pre Wx' hD hz hpre ⟨⟨rfl, x, hx, hxf⟩, hm'⟩ hK
        have hgo : Hold ((fun y => goesB g lt tp rt y lt y rt bt) y = false) := ⟨by
          simp only [goesB, List.all_eq_false]
          exact ⟨x, hpre.subset hx, by simp [hxf]⟩⟩
        have HW := Hold.mk (And.intro (HB5.out.2.2.2.1.trans hm') (And.intro hm' hK))
        clear hm' hK bp5 bb5 hmp5
        gi_wp2
        have hzd := HW.out.1.size
        have hzd5 := HB5.out.2.2.2.1.size
        have hzd1 := HM1d.out.size
        refine ⟨⟨y + 1, D :: Es, ?_, by omega, by omega, ?_, HK2.out.2.1.trans HW.out.1, ?_, ?_⟩, ?_⟩
        · repeat' apply And.intro
          all_goals first | rfl | (rw [← hesE]; rfl)
        · intro j h5 h6
          by_cases e : j = y
          · subst e; exact hgo.out
          · exact HK2.out.1 j h5 (by omega)
        · refine List.nodup_cons.2 ⟨fun hm => ?_, HK2.out.2.2.1⟩
          have h1 := (Array.getElem?_eq_some_iff.1 (HK2.out.2.2.2 D hm).2).1
          omega
        · intro E hE
          rcases List.mem_cons.1 hE with rfl | hE
          · exact ⟨by omega, HW.out.2.2⟩
          · exact ⟨(HK2.out.2.2.2 E hE).1, HW.out.1.at (HK2.out.2.2.2 E hE).2 id⟩
        · simp [intOf]; omega
    · have hyi : ¬ ((y : Int) < (bt : Int)) := by omega
      have HM1d := Hold.mk hM1d
      clear hM1d
      gi_wp2
      refine ⟨⟨1, Es, ?_, by omega, ?_, ?_, HM1d.out, HK2.out.2.2.1, HK2.out.2.2.2⟩, ?_⟩
      · repeat' apply And.intro
        all_goals first | rfl | (rw [← hesE]; rfl) | exact hesE.symm
      · intro _
        exact firstAt_none (fun i h1 h2 => HK2.out.1 i h1 (by omega))
      · intro _
        omega
      · simp [intOf]
  · gi_wp2
    obtain ⟨wa, hwa⟩ : ∃ wa, Wc.alloc (.cells #[.bool true, .func (.func 90) #[] #[], .func (.func 89) #[] #[], .func (.func 92) #[] #[]] 138) = wa := ⟨_, rfl⟩
    have hMa : Mod noB Wc wa := by rw [← hwa]; exact (Mod.refl _ _).alloc _
    have hda : wa.heap[Wc.heap.size]? = some (.cells #[.bool true, .func (.func 90) #[] #[], .func (.func 89) #[] #[], .func (.func 92) #[] #[]] 138) := by rw [← hwa]; exact World.alloc_heap_new _ _
    rw [hwa]
    clear hwa p0 p1 p2 p3 b0 b1 b2 b3 d0 d1 d2 d3 d4 d5 d6 d7
    obtain ⟨_, ⟨b0, b1, b2, b3⟩, _, _, _⟩ := FIN.out wa (HK.out.2.2.1.trans hMa)
    have e0 : wa.cell? ⟨Wc.heap.size, 1, none⟩ = some (.func (.func 90) #[] #[]) := by simp [World.cell?, hda]
    have HMA := Hold.mk (And.intro hMa hda)
    clear hMa hda
    refine wpIn_scope_wide ?_
    gi_wp2_with (refine ⟨trivial, ?_⟩; gi_at_call 90; refine (callsIn_wide.2 (columns_any _ _ _ _ _)).mono ?_; rintro e w2 ⟨rfl, hM2⟩; have HM2 := Hold.mk hM2; clear hM2)
    refine wpIn_label ?_
    gi_wp2
    refine wpIn_loop (fun a Wd => ∃ (y : Nat) (Ds : List Nat),
        a = { tmps := List.toArray ((picV W H N mb) :: (blockV lt tp rt bt) :: (.pointer (some ⟨w.heap.size, 0, none⟩)) :: (.pointer (some ⟨w.heap.size + 1, 0, none⟩)) :: (.pointer (some ⟨w.heap.size + 1 + 1, 0, none⟩)) :: (.bool false) :: (undef) :: (.pointer (some ⟨Wc.heap.size, 0, none⟩)) :: (tmpOf a 8) :: (.int .i64 rt) :: (.int .i64 (y : Nat)) :: (tmpOf a 11) :: (tmpOf a 12) :: (tmpOf a 13) :: (tmpOf a 14) :: (tmpOf a 15) :: (tmpOf a 16) :: (.slice (some ⟨w.heap.size + 1 + 1 + 1, 0, none⟩) 2 2) :: (.int .i64 2) :: (.int .i64 1) :: (tmpOf a 20) :: (tmpOf a 21) :: (tmpOf a 22) :: (tmpOf a 23) :: (tmpOf a 24) :: (tmpOf a 25) :: (tmpOf a 26) :: (tmpOf a 27) :: (tmpOf a 28) :: (tmpOf a 29) :: (tmpOf a 30) :: (tmpOf a 31) :: (tmpOf a 32) :: (tmpOf a 33) :: (tmpOf a 34) :: (tmpOf a 35) :: (tmpOf a 36) :: (tmpOf a 37) :: (tmpOf a 38) :: (tmpOf a 39) :: (tmpOf a 40) :: (tmpOf a 41) :: (tmpOf a 42) :: (tmpOf a 43) :: (tmpOf a 44) :: (tmpOf a 45) :: (tmpOf a 46) :: (tmpOf a 47) :: (tmpOf a 48) :: (tmpOf a 49) :: (tmpOf a 50) :: (tmpOf a 51) :: (tmpOf a 52) :: (tmpOf a 53) :: (tmpOf a 54) :: (tmpOf a 55) :: (tmpOf a 56) :: (tmpOf a 57) :: (tmpOf a 58) :: (tmpOf a 59) :: (tmpOf a 60) :: (tmpOf a 61) :: (tmpOf a 62) :: (tmpOf a 63) :: (tmpOf a 64) :: (tmpOf a 65) :: (tmpOf a 66) :: (tmpOf a 67) :: (tmpOf a 68) :: (tmpOf a 69) :: (tmpOf a 70) :: (tmpOf a 71) :: (undef) :: []), defers := Ds.map markD } ∧
        lt + 1 ≤ y ∧ y ≤ rt ∧ (∀ j, lt + 1 ≤ j → j < y → (fun x => goesB g lt tp x bt x tp rt bt) j = false) ∧ Mod noB wa Wd ∧ Ds.Nodup ∧ ∀ D ∈ Ds, W1.heap.size ≤ D ∧ Wd.heap[D]? = some (.deferred (some [])))
      (fun a _ => rt - (intOf (a.tmps.getD 10 undef)).toNat) ⟨lt + 1, Ds, by rw [← hdsE]; rfl, by omega, by omega, fun j h5 h6 => by omega, HM2.out, HK.out.2.2.2.1, fun D hD => ⟨(HK.out.2.2.2.2 D hD).1, HM2.out.at (HMA.out.1.at (HK.out.2.2.2.2 D hD).2 id) id⟩⟩ ?_
    have HDE := Hold.mk hdsE
    clear hdsE e0 b0 b1 b2 b3
    rintro a Wd ⟨y, Es, ha, hy1, hy2, hno, hmd, hnd, hes⟩
    generalize tmpOf a = v at ha
    subst ha
    have hM1d := (HK.out.2.2.1.trans HMA.out.1).trans hmd
    have HK2 := Hold.mk (And.intro hno (And.intro hmd (And.intro hnd hes)))
    clear hno hmd hnd hes
    generalize hesE : Es.map markD = es
    by_cases hyb : y < rt
    · obtain ⟨⟨p0, p1, p2, p3⟩, ⟨b0, b1, b2, b3⟩, _, _, _⟩ := FIN.out Wd hM1d
      have f3 : Wd.cell? ⟨Wc.heap.size, 3, none⟩ = some (.func (.func 92) #[] #[]) := by simp [World.cell?, HK2.out.2.1.at HMA.out.2 id]
      have hyi : (y : Int) < (rt : Int) := by omega
      have HM1d := Hold.mk hM1d
      clear hM1d
      gi_wp2_with (first
        | (refine ⟨trivial, ?_⟩; gi_at_call 92; refine (callsIn_wide.2 (upright_any _ _ _ _ _ _)).mono ?_; rintro e w3 ⟨rfl, hM3⟩
           obtain ⟨⟨q0, q1, q2, q3⟩, _⟩ := FIN.out w3 (HM1d.out.trans hM3)
           have hz3 : w.heap.size < w3.heap.size := (by have := (HM1d.out.trans hM3).size; omega)
           have HM3 := Hold.mk hM3
           clear hM3 p0 p1 p2 p3 b0 b1 b2 b3 f3)
        | (refine ⟨trivial, ?_⟩; gi_at_call 86; refine (callsIn_wide.2 (within_any g W H HG.out N mb lt tp y bt (by omega) (by omega) (by omega) (by omega) _ (FIN.out _ (((HM1d.out.trans HM3.out).alloc _).alloc _)).2.2.2.1)).mono ?_; rintro e w4 ⟨rfl, hM4⟩
           have hM34 : Mod noB w3 w4 := (((Mod.refl noB w3).alloc _).alloc _).trans hM4
           have h11 := hM4.at ((Below.heap_alloc _ (.cells #[.int .i64 y, .int .i64 tp, .int .i64 rt, .int .i64 bt] 97) _ (by simp)).trans (World.alloc_heap_new w3 (.cells #[.int .i64 lt, .int .i64 tp, .int .i64 y, .int .i64 bt] 97))) id
           have h12 := hM4.at (World.alloc_heap_new (w3.alloc (.cells #[.int .i64 lt, .int .i64 tp, .int .i64 y, .int .i64 bt] 97)) (.cells #[.int .i64 y, .int .i64 tp, .int .i64 rt, .int .i64 bt] 97)) id
           rw [World.size_alloc] at h12
           have HM4 := Hold.mk (And.intro hM34 (And.intro h11 h12))
           clear hM34 h11 h12 hM4 q0 q1 q2 q3)
        | (refine wpListIn_storeRow rfl 84 (.tmp 13) (.tmp 47) rfl w4.heap.size rfl _ rfl 84 _ (World.alloc_heap_new w4 _) (by rw [boolCells, fcells_size]; kernel_rfl) (by rw [boolCells, fcells_size]; rfl) (by simp [boolCells, fcells, Value.oneCell']) ?_
           generalize hWx : World.putObj _ _ _ = Wx
           have hx := laid_put hWx
           obtain ⟨⟨q0, q1, q2, q3⟩, _⟩ := FIN.out Wx ((HM1d.out.trans HM3.out).trans (HM4.out.1.trans hx.1))
           have h12 := hx.1.at HM4.out.2.2 id
           have g0 : Wx.cell? ⟨w3.heap.size + 1, 0, none⟩ = some (.int .i64 y) := (by simp [World.cell?, h12])
           have g1 : Wx.cell? ⟨w3.heap.size + 1, 1, none⟩ = some (.int .i64 tp) := (by simp [World.cell?, h12])
           have g2 : Wx.cell? ⟨w3.heap.size + 1, 2, none⟩ = some (.int .i64 rt) := (by simp [World.cell?, h12])
           have g3 : Wx.cell? ⟨w3.heap.size + 1, 3, none⟩ = some (.int .i64 bt) := (by simp [World.cell?, h12])
           have hzx : w.heap.size < Wx.heap.size := (by have := ((HM1d.out.trans HM3.out).trans (HM4.out.1.trans hx.1)).size; omega)
           have hzy : w3.heap.size + 1 < Wx.heap.size := (Array.getElem?_eq_some_iff.1 h12).1
           have HX := Hold.mk hx
           clear hWx hx h12 hz3)
        | (refine ⟨trivial, ?_⟩; gi_at_call 84; refine (callsIn_wide.2 (numbers_any _ _ _ _ _ _ _ _ _)).mono ?_; rintro e w5 ⟨rfl, rfl⟩))
      rw [allocL2]
      obtain ⟨W5, hW5⟩ : ∃ W5, allocL Wx [.cells #[.int .i64 W, .int .i64 H, .int .i64 N, .map (some mb)] 71, .cells #[.int .i64 y, .int .i64 tp, .int .i64 rt, .int .i64 bt] 97] = W5 := ⟨_, rfl⟩
      have hM5 : Mod noB Wx W5 := by rw [← hW5]; exact allocL_mod _ _ _
      have hz5 : W5.heap.size = Wx.heap.size + 2 := by rw [← hW5]; exact allocL_size _ _
      have bp5 : W5.heap[Wx.heap.size + 0]? = some (.cells #[.int .i64 W, .int .i64 H, .int .i64 N, .map (some mb)] 71) := by rw [← hW5]; exact allocL_at _ _ _ _ rfl
      have bb5 : W5.heap[Wx.heap.size + 1]? = some (.cells #[.int .i64 y, .int .i64 tp, .int .i64 rt, .int .i64 bt] 97) := by rw [← hW5]; exact allocL_at _ _ _ _ rfl
      rw [hW5]
      simp only [Nat.add_zero] at bp5
      clear hW5 q0 q1 q2 q3 g0 g1 g2 g3
      have hMd5 : Mod noB Wd W5 := ((HM3.out.trans HM4.out.1).trans HX.out.1).trans hM5
      have hbw5 := hM5.at HX.out.2 id
      have hf5 := hM5.at (HX.out.1.at HM4.out.2.1 id) id
      have hs5 := hM5.at (HX.out.1.at HM4.out.2.2 id) id
      have hmp5 := (FIN.out W5 (HM1d.out.trans hMd5)).2.2.2.1
      have hz45 : w4.heap.size < W5.heap.size := (Array.getElem?_eq_some_iff.1 hbw5).1
      have H40 : Hold (∀ x ∈ numbersL g y tp rt bt, 0 ≤ x ∧ x < 40) := ⟨fun x hx => numbersL_le HG.out (by omega) (by omega) hx⟩
      have HB5 := Hold.mk (And.intro hbw5 (And.intro hf5 (And.intro hs5 (And.intro hMd5 hM5))))
      clear hbw5 hf5 hs5 hM5
      refine range_plain (gf := 88) (lb := #[.pointer (some ⟨Wx.heap.size + 1, 0, none⟩), .pointer (some ⟨Wx.heap.size, 0, none⟩)]) rfl rfl enter88 (numbers1_runs (Wx.heap.size + 1) Wx.heap.size mb y tp rt bt W H N g W5 bb5 bp5 hmp5 (by omega) (by omega) (by omega) (by omega))
        (by rintro b (rfl | rfl | rfl)
            · omega
            · omega
            · exact hmp5.lt) noB (fun b hb => hb.elim)
        (fun pre Wr => (∀ x ∈ pre, x ∉ numbersL g lt tp y bt) ∧ Mod noB W5 Wr)
        (fun c pre Wr => (c = .exit 3 ∧ ∃ x ∈ pre, x ∈ numbersL g lt tp y bt) ∧ Mod noB W5 Wr)
        (fun s A B h hg => ⟨h.1, h.2.then hg (fun i h1 h2 => by omega)⟩)
        (fun c s A B h hg => ⟨h.1, h.2.then hg (fun i h1 h2 => by omega)⟩)
        ⟨fun x hx => (by cases hx), Mod.refl _ _⟩
        none
        (fun _ x => { tmps := List.toArray ((picV W H N mb) :: (blockV lt tp rt bt) :: (.pointer (some ⟨w.heap.size, 0, none⟩)) :: (.pointer (some ⟨w.heap.size + 1, 0, none⟩)) :: (.pointer (some ⟨w.heap.size + 1 + 1, 0, none⟩)) :: (.bool false) :: (undef) :: (.pointer (some ⟨Wc.heap.size, 0, none⟩)) :: (v 8) :: (.int .i64 rt) :: (.int .i64 (y : Nat)) :: (.pointer (some ⟨w3.heap.size, 0, none⟩)) :: (.pointer (some ⟨w3.heap.size + 1, 0, none⟩)) :: (.pointer (some ⟨w4.heap.size, 0, none⟩)) :: (.int .i64 x) :: (v 15) :: (v 16) :: (.slice (some ⟨w.heap.size + 1 + 1 + 1, 0, none⟩) 2 2) :: (.int .i64 2) :: (.int .i64 1) :: (v 20) :: (v 21) :: (v 22) :: (v 23) :: (v 24) :: (v 25) :: (v 26) :: (v 27) :: (v 28) :: (v 29) :: (v 30) :: (v 31) :: (.int .i64 (y : Nat)) :: (.int .i64 rt) :: (.bool true) :: (v 35) :: (v 36) :: (.tuple #[.agg #[.int .i64 lt, .int .i64 tp, .int .i64 y, .int .i64 bt], .agg #[.int .i64 y, .int .i64 tp, .int .i64 rt, .int .i64 bt]]) :: (.pointer (some ⟨Wc.heap.size, 3, none⟩)) :: (.func (.func 92) #[] #[]) :: (.agg #[.int .i64 lt, .int .i64 tp, .int .i64 rt, .int .i64 bt]) :: (.int .i64 (y : Nat)) :: (.tuple #[.agg #[.int .i64 lt, .int .i64 tp, .int .i64 y, .int .i64 bt], .agg #[.int .i64 y, .int .i64 tp, .int .i64 rt, .int .i64 bt]]) :: (.agg #[.int .i64 lt, .int .i64 tp, .int .i64 y, .int .i64 bt]) :: (.agg #[.int .i64 y, .int .i64 tp, .int .i64 rt, .int .i64 bt]) :: (.agg #[.int .i64 W, .int .i64 H, .int .i64 N, .map (some mb)]) :: (.agg #[.int .i64 lt, .int .i64 tp, .int .i64 y, .int .i64 bt]) :: (.agg (boolCells 40 (memB (numbersL g lt tp y bt)))) :: (.agg #[.int .i64 W, .int .i64 H, .int .i64 N, .map (some mb)]) :: (.agg #[.int .i64 y, .int .i64 tp, .int .i64 rt, .int .i64 bt]) :: (.func (.func 88) #[] #[.pointer (some ⟨Wx.heap.size + 1, 0, none⟩), .pointer (some ⟨Wx.heap.size, 0, none⟩)]) :: (.int .i64 x) :: (v 52) :: (v 53) :: (v 54) :: (v 55) :: (v 56) :: (v 57) :: (v 58) :: (v 59) :: (v 60) :: (v 61) :: (v 62) :: (v 63) :: (v 64) :: (v 65) :: (v 66) :: (v 67) :: (v 68) :: (v 69) :: (v 70) :: (v 71) :: (undef) :: []), defers := [] })
        ?assign ?body ?done ?stop
      case assign =>
        intro l x W K hK
        gi_wp2
        exact hK
      case body =>
        rintro l2 pre x rest a' Wr hL hl2 hr2 hzr ⟨hno, hmr⟩ rfl
        obtain ⟨hx1, hx2⟩ := H40.out x (by rw [hL]; simp)
        obtain ⟨x, rfl⟩ := Int.eq_ofNat_of_zero_le hx1
        have hx : x < 40 := by omega
        have c0 : Wr.cell? ⟨w4.heap.size, x, none⟩ = some (.bool (memB (numbersL g lt tp y bt) x)) := fcells_cell (hmr.at HB5.out.1 id) hx
        have HR := Hold.mk (And.intro hno hmr)
        clear hL hno hmr bp5 bb5 hmp5
        cases hmb : memB (numbersL g lt tp y bt) x with
        | true =>
          rw [hmb] at c0
          have HMB : Hold ((x : Int) ∈ numbersL g lt tp y bt) := ⟨by unfold memB at hmb; simpa using hmb⟩
          clear hmb
          gi_wp2
          exact ⟨Mod.refl _ _, ⟨rfl, x, by simp, HMB.out⟩, HR.out.2⟩
        | false =>
          rw [hmb] at c0
          have HMB : Hold ((x : Int) ∉ numbersL g lt tp y bt) := ⟨by unfold memB at hmb; simpa using hmb⟩
          clear hmb
          gi_wp2
          refine ⟨Mod.refl _ _, fun z hz => ?_, HR.out.2⟩
          rcases List.mem_append.1 hz with h | h
          · exact HR.out.1 z h
          · obtain rfl : z = x := by simpa using h
            exact HMB.out
      case done =>
        rintro D W' hD hz ⟨hno', hm'⟩ hK
        have hyes : Hold ((fun x => goesB g lt tp x bt x tp rt bt) y = true) := ⟨by
          simp only [goesB, List.all_eq_true]
          intro n hn
          simpa using hno' n hn⟩
        have hM5' := HB5.out.2.2.2.1.trans hm'
        obtain ⟨_, ⟨b0, b1, b2, b3⟩, _⟩ := FIN.out W' (HM1d.out.trans hM5')
        have hpd := hM5'.at (HK2.out.2.1.at HMA.out.2 id) id
        have f2 : W'.cell? ⟨Wc.heap.size, 2, none⟩ = some (.func (.func 89) #[] #[]) := by simp [World.cell?, hpd]
        have HW := Hold.mk (And.intro hM5' (And.intro hm' (And.intro hK hpd)))
        have hzw : w.heap.size + 1 + 1 < W'.heap.size := by have := (HM1d.out.trans hM5').size; omega
        clear hno' hM5' hm' hK hpd bp5 bb5 hmp5
        gi_wp2_with (refine ⟨trivial, ?_⟩; gi_at_call 89; refine (callsIn_wide.2 (rows_any _ _ _ _ _)).mono ?_; rintro e w6 ⟨rfl, hM6⟩; have hres := (FIN.out w6 ((HM1d.out.trans HW.out.1).trans hM6)).2.2.2.2; have hf6 := hM6.at (HW.out.2.1.at HB5.out.2.1 id) id; have hs6 := hM6.at (HW.out.2.1.at HB5.out.2.2.1 id) id; have hp6 := hM6.at HW.out.2.2.2 id
                     have y0 : w6.cell? ⟨Wc.heap.size, 0, none⟩ = some (.bool true) := (by simp [World.cell?, hp6])
                     have t0 : w6.cell? ⟨w3.heap.size, 0, none⟩ = some (.int .i64 lt) := (by simp [World.cell?, hf6])
                     have t1 : w6.cell? ⟨w3.heap.size, 1, none⟩ = some (.int .i64 tp) := (by simp [World.cell?, hf6])
                     have t2 : w6.cell? ⟨w3.heap.size, 2, none⟩ = some (.int .i64 y) := (by simp [World.cell?, hf6])
                     have t3 : w6.cell? ⟨w3.heap.size, 3, none⟩ = some (.int .i64 bt) := (by simp [World.cell?, hf6])
                     have s0 : w6.cell? ⟨w3.heap.size + 1, 0, none⟩ = some (.int .i64 y) := (by simp [World.cell?, hs6])
                     have s1 : w6.cell? ⟨w3.heap.size + 1, 1, none⟩ = some (.int .i64 tp) := (by simp [World.cell?, hs6])
                     have s2 : w6.cell? ⟨w3.heap.size + 1, 2, none⟩ = some (.int .i64 rt) := (by simp [World.cell?, hs6])
                     have s3 : w6.cell? ⟨w3.heap.size + 1, 3, none⟩ = some (.int .i64 bt) := (by simp [World.cell?, hs6])
                     have r0 : w6.cell? ⟨w.heap.size + 1 + 1, 0, none⟩ = some (.bool false) := (by simp [World.cell?, hres]); have z0 := cells_frozen hres 0; have r1 : w6.cell? ⟨w.heap.size + 1 + 1, 1, none⟩ = some (.int .i64 0) := (by simp [World.cell?, hres]); have z1 := cells_frozen hres 1; have r2 : w6.cell? ⟨w.heap.size + 1 + 1, 2, none⟩ = some (.int .i64 0) := (by simp [World.cell?, hres]); have z2 := cells_frozen hres 2; have r3 : w6.cell? ⟨w.heap.size + 1 + 1, 3, none⟩ = some (.int .i64 0) := (by simp [World.cell?, hres]); have z3 := cells_frozen hres 3; have r4 : w6.cell? ⟨w.heap.size + 1 + 1, 4, none⟩ = some (.int .i64 0) := (by simp [World.cell?, hres]); have z4 := cells_frozen hres 4; have r5 : w6.cell? ⟨w.heap.size + 1 + 1, 5, none⟩ = some (.int .i64 0) := (by simp [World.cell?, hres]); have z5 := cells_frozen hres 5; have r6 : w6.cell? ⟨w.heap.size + 1 + 1, 6, none⟩ = some (.int .i64 0) := (by simp [World.cell?, hres]); have z6 := cells_frozen hres 6; have r7 : w6.cell? ⟨w.heap.size + 1 + 1, 7, none⟩ = some (.int .i64 0) := (by simp [World.cell?, hres]); have z7 := cells_frozen hres 7; have r8 : w6.cell? ⟨w.heap.size + 1 + 1, 8, none⟩ = some (.int .i64 0) := (by simp [World.cell?, hres]); have z8 := cells_frozen hres 8; have r9 : w6.cell? ⟨w.heap.size + 1 + 1, 9, none⟩ = some (.int .i64 0) := (by simp [World.cell?, hres]); have z9 := cells_frozen hres 9; have r10 : w6.cell? ⟨w.heap.size + 1 + 1, 10, none⟩ = some (.int .i64 0) := (by simp [World.cell?, hres]); have z10 := cells_frozen hres 10; have r11 : w6.cell? ⟨w.heap.size + 1 + 1, 11, none⟩ = some (.int .i64 0) := (by simp [World.cell?, hres]); have z11 := cells_frozen hres 11
                     have HM6 := Hold.mk (And.intro hM6 hres); clear hM6 hres hf6 hs6 hp6 b0 b1 b2 b3 f2)
        rw [Exit.noGoto_ret]
        gi_wp2
        rw [← hesE]
        show LeavesInM _ _ _ _ _ _ ((D :: Es).map markD) _ _
        have hzd := HW.out.2.1.size
        have hzd5 := HB5.out.2.2.2.1.size
        have hzd1 := HM1d.out.size
        refine stroke_end (B := W1.heap.size) rfl (by omega) rfl rfl HM6.out.2 (((HMW.out.trans HM1d.out).trans HW.out.1).trans HM6.out.1) ?_ ?_ _ _ _ _ _ _ _ _ _ _ _ _ ?_
        · refine List.nodup_cons.2 ⟨fun hm => ?_, HK2.out.2.2.1⟩
          have h1 := (Array.getElem?_eq_some_iff.1 (HK2.out.2.2.2 D hm).2).1
          omega
        · intro E hE
          rcases List.mem_cons.1 hE with rfl | hE
          · exact ⟨by omega, HM6.out.1.at HW.out.2.2.1 id⟩
          · exact ⟨(HK2.out.2.2.2 E hE).1, HM6.out.1.at (HW.out.1.at (HK2.out.2.2.2 E hE).2 id) id⟩
        · rw [nextL_upright (HK.out.1 (Nat.le_refl _)) hy1 hyb hyes.out HK2.out.1]
          rfl
      case stop =>
        rintro D c pre Wx' hD hz hpre ⟨⟨rfl, x, hx, hxf⟩, hm'⟩ hK
        have hgo : Hold ((fun x => goesB g lt tp x bt x tp rt bt) y = false) := ⟨by
          simp only [goesB, List.all_eq_false]
          exact ⟨x, hpre.subset hx, by simp [hxf]⟩⟩
        have HW := Hold.mk (And.intro (HB5.out.2.2.2.1.trans hm') (And.intro hm' hK))
        clear hm' hK bp5 bb5 hmp5
        gi_wp2
        have hzd := HW.out.1.size
        have hzd5 := HB5.out.2.2.2.1.size
        have hzd1 := HM1d.out.size
        refine ⟨⟨y + 1, D :: Es, ?_, by omega, by omega, ?_, HK2.out.2.1.trans HW.out.1, ?_, ?_⟩, ?_⟩
        · repeat' apply And.intro
          all_goals first | rfl | (rw [← hesE]; rfl)
        · intro j h5 h6
          by_cases e : j = y
          · subst e; exact hgo.out
          · exact HK2.out.1 j h5 (by omega)
        · refine List.nodup_cons.2 ⟨fun hm => ?_, HK2.out.2.2.1⟩
          have h1 := (Array.getElem?_eq_some_iff.1 (HK2.out.2.2.2 D hm).2).1
          omega
        · intro E hE
          rcases List.mem_cons.1 hE with rfl | hE
          · exact ⟨by omega, HW.out.2.2⟩
          · exact ⟨(HK2.out.2.2.2 E hE).1, HW.out.1.at (HK2.out.2.2.2 E hE).2 id⟩
        · simp [intOf]; omega
    · have hyi : ¬ ((y : Int) < (rt : Int)) := by omega
      have HM1d := Hold.mk hM1d
      clear hM1d
      gi_wp2
      refine ⟨⟨2, Es, ?_, by omega, ?_, ?_, HM1d.out, HK2.out.2.2.1, HK2.out.2.2.2⟩, ?_⟩
      · repeat' apply And.intro
        all_goals first | rfl | (rw [← hesE]; rfl) | exact hesE.symm
      · intro _
        exact HK.out.1 (Nat.le_refl _)
      · intro _
        exact firstAt_none (fun i h1 h2 => HK2.out.1 i h1 (by omega))
      · simp [intOf]
  · have hres := (FIN.out Wc HK.out.2.2.1).2.2.2.2
    have r0 : Wc.cell? ⟨w.heap.size + 1 + 1, 0, none⟩ = some (.bool false) := (by simp [World.cell?, hres]); have z0 := cells_frozen hres 0; have r1 : Wc.cell? ⟨w.heap.size + 1 + 1, 1, none⟩ = some (.int .i64 0) := (by simp [World.cell?, hres]); have z1 := cells_frozen hres 1; have r2 : Wc.cell? ⟨w.heap.size + 1 + 1, 2, none⟩ = some (.int .i64 0) := (by simp [World.cell?, hres]); have z2 := cells_frozen hres 2; have r3 : Wc.cell? ⟨w.heap.size + 1 + 1, 3, none⟩ = some (.int .i64 0) := (by simp [World.cell?, hres]); have z3 := cells_frozen hres 3; have r4 : Wc.cell? ⟨w.heap.size + 1 + 1, 4, none⟩ = some (.int .i64 0) := (by simp [World.cell?, hres]); have z4 := cells_frozen hres 4; have r5 : Wc.cell? ⟨w.heap.size + 1 + 1, 5, none⟩ = some (.int .i64 0) := (by simp [World.cell?, hres]); have z5 := cells_frozen hres 5; have r6 : Wc.cell? ⟨w.heap.size + 1 + 1, 6, none⟩ = some (.int .i64 0) := (by simp [World.cell?, hres]); have z6 := cells_frozen hres 6; have r7 : Wc.cell? ⟨w.heap.size + 1 + 1, 7, none⟩ = some (.int .i64 0) := (by simp [World.cell?, hres]); have z7 := cells_frozen hres 7; have r8 : Wc.cell? ⟨w.heap.size + 1 + 1, 8, none⟩ = some (.int .i64 0) := (by simp [World.cell?, hres]); have z8 := cells_frozen hres 8; have r9 : Wc.cell? ⟨w.heap.size + 1 + 1, 9, none⟩ = some (.int .i64 0) := (by simp [World.cell?, hres]); have z9 := cells_frozen hres 9; have r10 : Wc.cell? ⟨w.heap.size + 1 + 1, 10, none⟩ = some (.int .i64 0) := (by simp [World.cell?, hres]); have z10 := cells_frozen hres 10; have r11 : Wc.cell? ⟨w.heap.size + 1 + 1, 11, none⟩ = some (.int .i64 0) := (by simp [World.cell?, hres]); have z11 := cells_frozen hres 11
    have HF := Hold.mk hres
    clear hres p0 p1 p2 p3 b0 b1 b2 b3 d0 d1 d2 d3 d4 d5 d6 d7
    gi_wp2
    rw [← hdsE]
    show LeavesInM _ _ _ _ _ _ (Ds.map markD) _ _
    refine stroke_end (B := W1.heap.size) rfl (by omega) rfl rfl HF.out (HMW.out.trans HK.out.2.2.1) HK.out.2.2.2.1 HK.out.2.2.2.2 _ _ _ _ _ _ _ _ _ _ _ _ ?_
    rw [nextL_none (HK.out.1 (by omega)) (HK.out.2.1 (by omega))]
    rfl
end Go.Proofs.Ytogalmkeipigeaa

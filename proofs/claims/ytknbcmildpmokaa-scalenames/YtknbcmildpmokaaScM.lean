/- fill: the closure that calls itself, which hands over all lists. -/
import Derived.Test.YtknbcmildpmokaaScL
import Derived.Test.YtknbcmildpmokaaGru
set_option linter.unusedSimpArgs false
set_option linter.unusedVariables false
namespace Go.Proofs.Ytknbcmildpmokaa
open Go.RowKit Go.Shelf


attribute [local go_sem] Oper.semAt_some

/-- The blocks that fill captured, and what they are like. -/
structure FB where
  bb : Nat
  yb : Nat
  hb : Nat
  fb : Nat
  /-- The loop that the lists are handed over to. -/
  l : Nat
  B : Nat
  B0 : Nat
  h1 : B ≤ bb
  h2 : bb < B0
  h3 : B0 ≤ yb
  h4 : yb < hb
  h5 : hb < fb
  h6 : fb < B0 + 3
@[reducible] def FB.lb (q : FB) : Array Value := #[.pointer (some ⟨q.bb, 0, none⟩), .pointer (some ⟨q.yb, 0, none⟩), .pointer (some ⟨q.hb, 0, none⟩), .pointer (some ⟨q.fb, 0, none⟩)]
/-- What the loop may turn. -/
def FB.T (q : FB) (k : Nat) : Prop := ¬ (k < q.B ∨ k = q.bb) ∧ ¬ (q.B0 ≤ k ∧ k < q.B0 + 3)
/-- What lies where between two steps. -/
structure FS (q : FB) (ao : Option Addr) (cap : Nat) (b : Bx) (hs : List Int) (W : World) : Prop where
  b : BoxAt q.B W q.bb ao cap b
  y : W.heap[q.yb]? = some (.cells #[.func (.yield q.l) #[] #[]] 128)
  h : W.heap[q.hb]? = some (.cells (liC hs) 77)
  f : W.heap[q.fb]? = some (.cells #[.func (.func 82) #[] q.lb] 102)
theorem FS.turn {q : FB} {ao : Option Addr} {cap : Nat} {b : Bx} {hs : List Int} {W W' : World} (h : FS q ao cap b hs W) (hm : Mod q.T W W') : FS q ao cap b hs W' := by
  have l1 := q.h1; have l2 := q.h2; have l3 := q.h3; have l4 := q.h4; have l5 := q.h5; have l6 := q.h6
  have hz := at_ltS h.y
  refine ⟨⟨hm.at h.b.c (fun ht => ht.1 (.inr rfl)), h.b.k.low ⟨hm.size, fun k hk => hm.block k (by omega) (fun ht => ht.1 (.inl hk))⟩⟩, hm.at h.y (fun ht => ht.2 (by omega)), hm.at h.h (fun ht => ht.2 (by omega)), hm.at h.f (fun ht => ht.2 (by omega))⟩
theorem liC_set {hs : List Int} {k : Nat} (hk : k < hs.length) (h4 : hs.length ≤ 4) (z : Int) : (liC hs).setIfInBounds k (.int .i64 z) = liC (hs.set k z) := by
  have g : ∀ j, (hs.set k z)[j]?.getD 0 = if j = k then z else hs[j]?.getD 0 := fun j => by
    rw [List.getElem?_set]
    by_cases e : k = j
    · subst e; simp [hk]
    · rw [if_neg e, if_neg (fun h => e h.symm)]
  simp only [liC, g]
  rcases (by omega : k = 0 ∨ k = 1 ∨ k = 2 ∨ k = 3) with rfl | rfl | rfl | rfl <;> rfl
theorem FS.set {q : FB} {ao : Option Addr} {cap : Nat} {b : Bx} {hs : List Int} {W : World} (h : FS q ao cap b hs W) {k : Nat} (hk : k < hs.length) (h4 : hs.length ≤ 4) (z : Int) : FS q ao cap b (hs.set k z) (W.setCell ⟨q.hb, k, none⟩ (.int .i64 z)) := by
  have l1 := q.h1; have l2 := q.h2; have l3 := q.h3; have l4 := q.h4; have l5 := q.h5
  have hm : Mod (fun j => j = q.hb) W (W.setCell ⟨q.hb, k, none⟩ (.int .i64 z)) := (Mod.refl (fun j => j = q.hb) W).setCell (p := ⟨q.hb, k, none⟩) (fun _ => rfl) _
  refine ⟨⟨hm.at h.b.c (by omega), h.b.k.low ⟨hm.size, fun j hj => hm.block j (by have := at_ltS h.y; omega) (by omega)⟩⟩, hm.at h.y (by omega), ?_, hm.at h.f (by omega)⟩
  rw [setCell_at h.h, liC_set hk h4]

/-- What the loop does with what is handed over to it. -/
def YieldL (n0 : Nat) (q : FB) (L : List (List Int)) (J Jx : List (List Int) → World → Prop) : Prop :=
  ∀ pre x rest W1, L = pre ++ x :: rest → J pre W1 → q.B0 + 3 ≤ W1.heap.size → YieldAt Fence.wide n0 Try.prog q.l #[liV x] W1 fun e W' =>
      (e = .returned (.bool true) ∧ J (pre ++ [x]) W' ∧ Mod q.T W1 W') ∨ (e = .returned (.bool false) ∧ Jx (pre ++ [x]) W' ∧ Mod q.T W1 W')
theorem YieldL.at {n0 n1 : Nat} {q : FB} {L : List (List Int)} {J Jx : List (List Int) → World → Prop} (h : YieldL n0 q L J Jx) : YieldL n1 q L J Jx := fun pre x rest W1 h1 h2 h3 => by
  obtain ⟨fn, tmps, assign, body, hy, hR⟩ := h pre x rest W1 h1 h2 h3
  exact ⟨fn, tmps, assign, body, hy, roundIn_any rfl hR⟩
/-- How fill ends. -/
def FPost (q : FB) (ao : Option Addr) (cap : Nat) (b : Bx) (J Jx : List (List Int) → World → Prop) (done PL : List (List Int)) (pre : List Int) (W : World) (e : Ending) (W' : World) : Prop :=
  W.heap.size ≤ W'.heap.size ∧ ((e = .returned (.bool true) ∧ (∃ hs, hs.length = b.ks.length ∧ hs.take pre.length = pre ∧ FS q ao cap b hs W') ∧ J (done ++ PL) W') ∨ (e = .returned (.bool false) ∧ ∃ vs, vs <+: PL ∧ Jx (done ++ vs) W'))

theorem yield_two {e : Ending} {A B M : Prop} (h : (e = .returned (.bool true) ∧ A ∧ M) ∨ (e = .returned (.bool false) ∧ B ∧ M)) : ∃ bb : Bool, e = .returned (.bool bb) ∧ Hold (M ∧ (bb = true → A) ∧ (bb = false → B)) := by
  rcases h with ⟨rfl, a, m⟩ | ⟨rfl, a, m⟩
  · exact ⟨true, rfl, ⟨⟨m, fun _ => a, nofun⟩⟩⟩
  · exact ⟨false, rfl, ⟨⟨m, nofun, fun _ => a⟩⟩⟩

set_option maxRecDepth 100000 in
set_option maxHeartbeats 4000000 in
theorem fill_zero (q : FB) (ao : Option Addr) (cap : Nat) (b : Bx) (J Jx : List (List Int) → World → Prop) (L : List (List Int)) (n0 : Nat) (hY : YieldL n0 q L J Jx) (hs : List Int) (l e : Int) (done : List (List Int)) (W : World)
    (hn : hs.length = b.ks.length) (h4 : b.ks.length ≤ 4) (hsz : q.B0 + 3 ≤ W.heap.size) (hS : FS q ao cap b hs W) (hj : J done W) (hL : ∃ rest, L = done ++ ([hs] ++ rest)) (N : Nat) :
    CallsIn Fence.wide (N + 1) Try.prog 82 (#[.int .i64 b.ks.length, .int .i64 l, .int .i64 e] ++ q.lb) W (FPost q ao cap b J Jx done [hs] hs W) := by
  have l1 := q.h1; have l2 := q.h2; have l3 := q.h3; have l4 := q.h4; have l5 := q.h5
  have hz := at_ltS hS.f
  obtain ⟨b0, b1, b2, b3, b4⟩ := hS.b.cells
  obtain ⟨c0, c1, c2, c3⟩ := li_cells hS.h
  have y0 := cellsAt hS.y 0
  obtain ⟨rest, hL⟩ := hL
  obtain ⟨fn, tmps, assign, body, hy, hR⟩ := hY.at (n1 := N) done hs rest W (by rw [hL]; rfl) hj (by omega)
  have hy2 : (Instr.yield q.l #[.agg #[.int .i64 (hs[0]?.getD 0), .int .i64 (hs[1]?.getD 0), .int .i64 (hs[2]?.getD 0), .int .i64 (hs[3]?.getD 0)]]).run Try.prog W = .ok (.round q.l fn tmps assign body) W := hy
  have HS := Hold.mk hS
  have HN := Hold.mk hn
  clear hY hj hL hS hy hn
  refine callsIn_of_wp Try.func82 rfl trivial ?_ rfl
  simp only [Try.ntmps82, List.size_toArray, List.length_cons, List.length_nil, Nat.reduceAdd, Nat.reduceSub, Array.replicate_succ, Array.replicate_zero, List.push_toArray, List.append_toArray, List.nil_append, List.cons_append]
  gi_wp2
  refine hR.mono ?_
  rintro e W3 h3
  obtain ⟨bb, rfl, HB⟩ := yield_two h3
  clear h3
  gi_wp2
  go_ret
  obtain ⟨hm, g1, g2⟩ := HB.out
  refine ⟨hm.size, ?_⟩
  cases bb with
  | true => exact .inl ⟨rfl, ⟨hs, HN.out, by rw [List.take_length], HS.out.turn hm⟩, g1 rfl⟩
  | false => exact .inr ⟨rfl, [hs], List.prefix_refl _, g2 rfl⟩

end Go.Proofs.Ytknbcmildpmokaa

/- offOf: how far a blade is off, as two functions; sort.Search. -/
import Derived.Test.YtdncppempgpooaaDoorRuD
import Derived.Deep.RegionHeld3
import Derived.Laws.EntriesVeiled
set_option linter.unusedSimpArgs false
set_option linter.unusedVariables false
namespace Go.Proofs.YtdncppempgpooaaDoor
open Go.RowKit

@[reducible] def offC (p : Nat × Nat × Nat × Nat) : Array Value := #[.func (.func 64) #[] #[.pointer (some ⟨p.1, 0, none⟩), .pointer (some ⟨p.2.1, 0, none⟩)], .func (.func 64) #[] #[.pointer (some ⟨p.2.2.1, 0, none⟩), .pointer (some ⟨p.2.2.2, 0, none⟩)]]
@[reducible] def offV (p : Nat × Nat × Nat × Nat) : Value := .agg #[.func (.func 64) #[] #[.pointer (some ⟨p.1, 0, none⟩), .pointer (some ⟨p.2.1, 0, none⟩)], .func (.func 64) #[] #[.pointer (some ⟨p.2.2.1, 0, none⟩), .pointer (some ⟨p.2.2.2, 0, none⟩)]]
/-- What the two functions of a blade have captured. -/
structure OffIs (B : Nat) (w : World) (p : Nat × Nat × Nat × Nat) (b : Bld) : Prop where
  l1 : p.1 < B
  l2 : p.2.1 < B
  l3 : p.2.2.1 < B
  l4 : p.2.2.2 < B
  c1 : w.heap[p.1]? = some (.cells #[.int .i64 b.f.1] 3)
  c2 : w.heap[p.2.1]? = some (.cells #[.int .i64 b.w.1] 3)
  c3 : w.heap[p.2.2.1]? = some (.cells #[.int .i64 b.f.2] 3)
  c4 : w.heap[p.2.2.2]? = some (.cells #[.int .i64 b.w.2] 3)
theorem OffIs.low {B : Nat} {w w' : World} {p : Nat × Nat × Nat × Nat} {b : Bld} (h : OffIs B w p b) (hm : Low B w w') : OffIs B w' p b :=
  ⟨h.l1, h.l2, h.l3, h.l4, (hm.2 _ h.l1).trans h.c1, (hm.2 _ h.l2).trans h.c2, (hm.2 _ h.l3).trans h.c3, (hm.2 _ h.l4).trans h.c4⟩
theorem OffIs.mono {B C : Nat} {w : World} {p : Nat × Nat × Nat × Nat} {b : Bld} (h : OffIs B w p b) (hB : B ≤ C) : OffIs C w p b :=
  ⟨Nat.lt_of_lt_of_le h.l1 hB, Nat.lt_of_lt_of_le h.l2 hB, Nat.lt_of_lt_of_le h.l3 hB, Nat.lt_of_lt_of_le h.l4 hB, h.c1, h.c2, h.c3, h.c4⟩

set_option maxHeartbeats 400000 in
theorem after_any (a c : Int) (w : World) : Calls Tryd.prog 63 #[.int .i64 a, .int .i64 c] w fun e w' =>
    e = .returned (.func (.func 64) #[] #[.pointer (some ⟨w.heap.size, 0, none⟩), .pointer (some ⟨w.heap.size + 1, 0, none⟩)]) ∧ w' = (w.alloc (.cells #[.int .i64 a] 3)).alloc (.cells #[.int .i64 c] 3) := by
  go_enter Tryd.func63, Tryd.ntmps63
  go_wp2
  go_ret
  exact ⟨rfl, rfl⟩

/-- The function that offOf's function returns: a + n c. -/
theorem clo_any (p q : Nat) (a c n : Int) (w : World) (hp : w.heap[p]? = some (.cells #[.int .i64 a] 3)) (hq : w.heap[q]? = some (.cells #[.int .i64 c] 3)) (ha : 0 ≤ a ∧ a ≤ 10000) (hc : 0 ≤ c ∧ c ≤ 10000) (hn : 0 ≤ n ∧ n ≤ 100000) :
    Calls Tryd.prog 64 #[.int .i64 n, .pointer (some ⟨p, 0, none⟩), .pointer (some ⟨q, 0, none⟩)] w fun e w' => e = .returned (.int .i64 (a + n * c)) ∧ w = w' := by
  have c0 := cellsAt hp 0
  have c1 := cellsAt hq 0
  obtain ⟨m1, m2⟩ := mul_bd (m := 100000) (k := 10000) (a := n) (b := c) (by omega) (by omega)
  obtain ⟨n1, n2⟩ := hn
  obtain ⟨a1, a2⟩ := ha
  clear hp hq
  go_enter Tryd.func64, Tryd.ntmps64
  go_wp2
  go_ret
  exact ⟨rfl, rfl⟩

def OffOut (b : Bld) (w : World) (e : Ending) (w' : World) : Prop := ∃ p, e = .returned (offV p) ∧ OffIs w'.heap.size w' p b ∧ Mod noB w w'
theorem off_out {b : Bld} {w w' : World} {x y z u : Nat} (h1 : Mod noB w w') (l1 : w'.heap[x]? = some (.cells #[.int .i64 b.f.1] 3)) (l2 : w'.heap[y]? = some (.cells #[.int .i64 b.w.1] 3)) (l3 : w'.heap[z]? = some (.cells #[.int .i64 b.f.2] 3)) (l4 : w'.heap[u]? = some (.cells #[.int .i64 b.w.2] 3)) :
    OffOut b w (.returned (.agg #[.func (.func 64) #[] #[.pointer (some ⟨x, 0, none⟩), .pointer (some ⟨y, 0, none⟩)], .func (.func 64) #[] #[.pointer (some ⟨z, 0, none⟩), .pointer (some ⟨u, 0, none⟩)]])) w' :=
  ⟨(x, y, z, u), rfl, ⟨at_ltS l1, at_ltS l2, at_ltS l3, at_ltS l4, l1, l2, l3, l4⟩, h1⟩

theorem Mod.setNew {T : Nat → Prop} {A B : World} (h : Mod T A B) {b o : Nat} (hb : A.heap.size ≤ b) (v : Value) : Mod T A (B.setCell ⟨b, o, none⟩ v) :=
  h.setCell (fun hl => absurd hl (by show ¬ (b < A.heap.size); omega)) v
theorem four_at {w w' : World} {v0 v1 v2 v3 : Value} (h : Mod noB (w.alloc (.cells #[v0, v1, v2, v3] 53)) w') :
    w'.cell? ⟨w.heap.size, 0, none⟩ = some v0 ∧ w'.cell? ⟨w.heap.size, 1, none⟩ = some v1 ∧ w'.cell? ⟨w.heap.size, 2, none⟩ = some v2 ∧ w'.cell? ⟨w.heap.size, 3, none⟩ = some v3 := by
  have hb := new_at w _ w' h
  exact ⟨cellsAt hb 0, cellsAt hb 1, cellsAt hb 2, cellsAt hb 3⟩
theorem six_new {w : World} {o1 o2 o3 o4 o5 o6 : Obj} {W : World} (hW : W = ((((((w.alloc o1).alloc o2).alloc o3).alloc o4).alloc o5).alloc o6).drew) :
    Mod noB w W ∧ W.heap[w.heap.size + 1 + 1]? = some o3 ∧ W.heap[w.heap.size + 1 + 1 + 1]? = some o4 ∧ W.heap[w.heap.size + 1 + 1 + 1 + 1]? = some o5 ∧ W.heap[w.heap.size + 1 + 1 + 1 + 1 + 1]? = some o6 := by
  subst hW
  have hL := allocL_at [o1, o2, o3, o4, o5, o6] w
  exact ⟨((((((((Mod.refl _ _).alloc _).alloc _).alloc _).alloc _).alloc _).alloc _).drew), hL 2 _ rfl, hL 3 _ rfl, hL 4 _ rfl, hL 5 _ rfl⟩

set_option maxHeartbeats 4000000 in
theorem offOf_any (b : Bld) (w : World) : Calls Tryd.prog 42 #[blV b] w (OffOut b w) := by
  obtain ⟨⟨f1, f2⟩, w1, w2⟩ := b
  go_enter Tryd.func42, Tryd.ntmps42
  go_wp2
  go_region_held3 (fun w' => w'.cell? ⟨w.heap.size, 0, none⟩ = some (.int .i64 f1) ∧ w'.cell? ⟨w.heap.size, 1, none⟩ = some (.int .i64 f2) ∧ w'.cell? ⟨w.heap.size, 2, none⟩ = some (.int .i64 w1) ∧ w'.cell? ⟨w.heap.size, 3, none⟩ = some (.int .i64 w2))
    (((try dsimp only); refine four_at (w := w) ?_; repeat (first | exact Mod.refl _ _ | refine Mod.drew ?_ | refine Mod.alloc ?_ _ | refine Mod.setNew ?_ (by simp) _)))
    (first | (go_at_call 63; refine (after_any _ _ _).mono ?_; rintro e w' ⟨rfl, rfl⟩))
  go_wp2
  obtain ⟨hm, h3, h4, h5, h6⟩ := six_new (w := w) rfl
  exact bodyPost_ret (v := .agg #[.func (.func 64) #[] #[.pointer (some ⟨w.heap.size + 1 + 1, 0, none⟩), .pointer (some ⟨w.heap.size + 1 + 1 + 1, 0, none⟩)], .func (.func 64) #[] #[.pointer (some ⟨w.heap.size + 1 + 1 + 1 + 1, 0, none⟩), .pointer (some ⟨w.heap.size + 1 + 1 + 1 + 1 + 1, 0, none⟩)]]) (by simp [results, Tryd.results42, go_sem]) rfl
    (off_out hm h3 h4 h5 h6)

set_option maxHeartbeats 1000000 in
theorem search_any (n : Int) (fn : Nat) (lb : Array Value) (p : Int → Bool) (w : World) (hn : 0 ≤ n ∧ n ≤ 1000000)
    (eg : ∀ args w, (callFunc fn args).run Tryd.prog w = .ok (.enter fn args) w)
    (hf : ∀ (k : Int) (w1 : World), 0 ≤ k → k < n → Mod noB w w1 → Calls Tryd.prog fn (#[.int .i64 k] ++ lb) w1 fun r w' => r = .returned (.bool (p k)) ∧ Mod noB w1 w') :
    Calls Tryd.prog 65 #[.int .i64 n, .func (.func fn) #[] lb] w fun e w' => ∃ i, e = .returned (.int .i64 i) ∧ 0 ≤ i ∧ i ≤ n ∧ (i = 0 ∨ p (i - 1) = false) ∧ (i = n ∨ p i = true) ∧ Mod noB w w' := by
  have HF := Hold.mk hf
  obtain ⟨n1, n2⟩ := hn
  clear hf
  go_enter Tryd.func65, Tryd.ntmps65
  go_wp2
  go_loopw [5, 6] (fun x y wr => ∃ i j : Int, 0 ≤ i ∧ i ≤ j ∧ j ≤ n ∧ x = .int .i64 i ∧ y = .int .i64 j ∧ (i = 0 ∨ p (i - 1) = false) ∧ (j = n ∨ p j = true) ∧ Mod noB w wr) (fun x y _ => (intOf y - intOf x).toNat)
  case atStart => exact ⟨0, n, by omega, by omega, by omega, rfl, rfl, .inl rfl, .inl rfl, Mod.refl _ _⟩
  case round =>
    obtain ⟨i, j, hi, hij, hj, rfl, rfl, h1, h2, hm⟩ := hrel
    have H := Hold.mk (And.intro h1 (And.intro h2 hm))
    clear h1 h2 hm
    by_cases hlt : i < j
    · cases hp : p ((i + j) / 2) with
      | true =>
        have HF' : Hold (Calls Tryd.prog fn (#[.int .i64 ((i + j) / 2)] ++ lb) wr fun r w' => r = .returned (.bool true) ∧ Mod noB wr w') := ⟨by rw [← hp]; exact HF.out _ wr (by omega) (by omega) H.out.2.2⟩
        have HP := Hold.mk hp
        clear hp
        go_wp2_with (refine HF'.out.mono ?_; rintro e w' ⟨rfl, hM⟩; have HM2 := Hold.mk hM; clear hM)
        go_roundw
        case rel => exact ⟨i, (i + j) / 2, by omega, by omega, by omega, rfl, rfl, H.out.1, .inr HP.out, H.out.2.2.trans HM2.out⟩
        case measure => simp [intOf]; omega
      | false =>
        have HF' : Hold (Calls Tryd.prog fn (#[.int .i64 ((i + j) / 2)] ++ lb) wr fun r w' => r = .returned (.bool false) ∧ Mod noB wr w') := ⟨by rw [← hp]; exact HF.out _ wr (by omega) (by omega) H.out.2.2⟩
        have HP := Hold.mk hp
        clear hp
        go_wp2_with (refine HF'.out.mono ?_; rintro e w' ⟨rfl, hM⟩; have HM2 := Hold.mk hM; clear hM)
        go_roundw
        case rel => exact ⟨(i + j) / 2 + 1, j, by omega, by omega, by omega, rfl, rfl, .inr (by rw [Int.add_sub_cancel]; exact HP.out), H.out.2.1, H.out.2.2.trans HM2.out⟩
        case measure => simp [intOf]; omega
    · obtain rfl : i = j := by omega
      go_wp2
      go_ret
      exact ⟨i, rfl, hi, hj, H.out.1, H.out.2.1, H.out.2.2⟩
end Go.Proofs.YtdncppempgpooaaDoor

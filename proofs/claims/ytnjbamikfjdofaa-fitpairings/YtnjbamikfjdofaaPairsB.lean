/- Pairs: the first two pairings. -/
import Derived.Test.YtnjbamikfjdofaaPairsA
set_option linter.unusedSimpArgs false
set_option linter.unusedVariables false
namespace Go.Proofs.Ytnjbamikfjdofaa
open Go.RowKit Go.Shelf
attribute [local go_sem] Oper.semAt_some

theorem enter86 : ∀ args w, (callFunc 86 args).run Try.prog w = .ok (.enter 86 args) w := enters_of Try.func86 (by kernel_rfl) rfl

def withOf (pre : List Held) : Value := match pre with | [] => .slice none 0 0 | x :: _ => x.2
/-- Between two pairings. -/
structure PI (w : World) (b9 : Nat) (pre : List Held) (Wr : World) : Prop where
  len : pre.length ≤ 1
  m9 : Wr.heap[b9]? = some (.cells #[.int .i64 pre.length] 3)
  m6 : Wr.heap[w.heap.size + 1]? = some (.cells #[withOf pre] 43)
  m7 : Wr.heap[w.heap.size + 1 + 1]? = some (.cells #[.slice none 0 0] 43)
  m8 : Wr.heap[w.heap.size + 1 + 1 + 1]? = some (.cells #[.int .i64 0] 28)
  own : ∀ p ∈ pre, OwnV (b9 + 1) Wr p
  m : Mod noB w Wr
/-- Behind the second one. -/
structure PX (w : World) (c : Code) (pre : List Held) (Wr : World) : Prop where
  c : c = .ret
  two : ∃ x y, pre = [x, y] ∧ Wr.heap[w.heap.size + 1]? = some (.cells #[x.2] 43) ∧ Wr.heap[w.heap.size + 1 + 1]? = some (.cells #[y.2] 43) ∧ OwnV w.heap.size Wr x ∧ OwnV w.heap.size Wr y ∧ (∀ r, x.2.ownBlock = some r → y.2.ownBlock ≠ some r)
  m8 : Wr.heap[w.heap.size + 1 + 1 + 1]? = some (.cells #[.int .i64 0] 28)
  m : Mod noB w Wr

theorem pi_stable {w : World} {b9 z : Nat} (h1 : w.heap.size + 1 + 1 + 1 < b9) (h2 : b9 < z) : StableV z (PI w b9) := fun s W W' h hm =>
  ⟨h.len, hm.at h.m9 (fun hf => by have := hf.1; omega), hm.at h.m6 (fun hf => by have := hf.1; omega), hm.at h.m7 (fun hf => by have := hf.1; omega), hm.at h.m8 (fun hf => by have := hf.1; omega),
    fun p hp => (h.own p hp).same (fun r hr => hm.block r ((h.own p hp).cells hr).2.1 (fun hf => hf.2 p hp hr)), h.m.then hm (fun i hi hf => by have := hf.1; omega)⟩
theorem px_stable {w : World} {b9 z : Nat} (h1 : w.heap.size + 1 + 1 + 1 < b9) (h2 : b9 < z) (c : Code) : StableV z (PX w c) := fun s W W' h hm => by
  obtain ⟨hc, ⟨x, y, rfl, e1, e2, e3, e4, e5⟩, h8, hM⟩ := h
  exact ⟨hc, ⟨x, y, rfl, hm.at e1 (fun hf => by have := hf.1; omega), hm.at e2 (fun hf => by have := hf.1; omega), e3.same (fun r hr => hm.block r (e3.cells hr).2.1 (fun hf => hf.2 x (by simp) hr)),
    e4.same (fun r hr => hm.block r (e4.cells hr).2.1 (fun hf => hf.2 y (by simp) hr)), e5⟩, hm.at h8 (fun hf => by have := hf.1; omega), hM.then hm (fun i hi hf => by have := hf.1; omega)⟩
/-- The first pairing is kept. -/
theorem pi_one {w : World} {b9 : Nat} (h1 : w.heap.size + 1 + 1 + 1 < b9) {x : Held} {W : World} (h : PI w b9 [] W) (hx : OwnV (b9 + 1) W x) :
    Mod (fun k => k = w.heap.size + 1 ∨ k = w.heap.size + 1 + 1 ∨ k = w.heap.size + 1 + 1 + 1 ∨ k = b9) W ((W.setCell ⟨b9, 0, none⟩ (.int .i64 1)).setCell ⟨w.heap.size + 1, 0, none⟩ x.2) ∧
    PI w b9 [x] ((W.setCell ⟨b9, 0, none⟩ (.int .i64 1)).setCell ⟨w.heap.size + 1, 0, none⟩ x.2) := by
  have m1 : Mod (fun k => k = w.heap.size + 1 ∨ k = w.heap.size + 1 + 1 ∨ k = w.heap.size + 1 + 1 + 1 ∨ k = b9) W (W.setCell ⟨b9, 0, none⟩ (.int .i64 1)) := (Mod.refl _ W).setCell (p := ⟨b9, 0, none⟩) (fun _ => .inr (.inr (.inr rfl))) _
  have m2 := m1.setCell (p := ⟨w.heap.size + 1, 0, none⟩) (fun _ => .inl rfl) x.2
  refine ⟨m2, ?_⟩
  have n9 : Mod (fun k => k = b9) W (W.setCell ⟨b9, 0, none⟩ (.int .i64 1)) := (Mod.refl (fun k => k = b9) W).setCell (p := ⟨b9, 0, none⟩) (fun _ => rfl) _
  have n6 : Mod (fun k => k = w.heap.size + 1) (W.setCell ⟨b9, 0, none⟩ (.int .i64 1)) ((W.setCell ⟨b9, 0, none⟩ (.int .i64 1)).setCell ⟨w.heap.size + 1, 0, none⟩ x.2) := (Mod.refl (fun k => k = w.heap.size + 1) _).setCell (p := ⟨w.heap.size + 1, 0, none⟩) (fun _ => rfl) _
  refine ⟨by simp, n6.at (by rw [setCell_at h.m9 0]; rfl) (by omega), by rw [setCell_at (n9.at h.m6 (by omega)) 0]; rfl, n6.at (n9.at h.m7 (by omega)) (by omega), n6.at (n9.at h.m8 (by omega)) (by omega), fun p hp => ?_, h.m.then m2 (fun i hi hk => by omega)⟩
  obtain rfl : p = x := by simpa using hp
  exact hx.same (fun r hr => m2.block r (hx.cells hr).2.1 (by have := (hx.cells hr).1; omega))
theorem pi_two {w : World} {b9 : Nat} (h1 : w.heap.size + 1 + 1 + 1 < b9) {x y : Held} {W : World} (h : PI w b9 [x] W) (hy : OwnV (b9 + 1) W y) (hap : ∀ r, x.2.ownBlock = some r → y.2.ownBlock ≠ some r) :
    Mod (fun k => k = w.heap.size + 1 ∨ k = w.heap.size + 1 + 1 ∨ k = w.heap.size + 1 + 1 + 1 ∨ k = b9) W ((((W.setCell ⟨b9, 0, none⟩ (.int .i64 2)).setCell ⟨w.heap.size + 1, 0, none⟩ x.2).setCell ⟨w.heap.size + 1 + 1, 0, none⟩ y.2).setCell ⟨w.heap.size + 1 + 1 + 1, 0, none⟩ (.int .i64 0)) ∧
    PX w .ret [x, y] ((((W.setCell ⟨b9, 0, none⟩ (.int .i64 2)).setCell ⟨w.heap.size + 1, 0, none⟩ x.2).setCell ⟨w.heap.size + 1 + 1, 0, none⟩ y.2).setCell ⟨w.heap.size + 1 + 1 + 1, 0, none⟩ (.int .i64 0)) := by
  have n9 : Mod (fun k => k = b9) W (W.setCell ⟨b9, 0, none⟩ (.int .i64 2)) := (Mod.refl (fun k => k = b9) W).setCell (p := ⟨b9, 0, none⟩) (fun _ => rfl) _
  generalize W.setCell ⟨b9, 0, none⟩ (.int .i64 2) = A at *
  have n6 : Mod (fun k => k = w.heap.size + 1) A (A.setCell ⟨w.heap.size + 1, 0, none⟩ x.2) := (Mod.refl (fun k => k = w.heap.size + 1) _).setCell (p := ⟨w.heap.size + 1, 0, none⟩) (fun _ => rfl) _
  have c6 : (A.setCell ⟨w.heap.size + 1, 0, none⟩ x.2).heap[w.heap.size + 1]? = some (.cells #[x.2] 43) := by rw [setCell_at (n9.at h.m6 (by omega)) 0]; rfl
  generalize A.setCell ⟨w.heap.size + 1, 0, none⟩ x.2 = B at *
  have n7 : Mod (fun k => k = w.heap.size + 1 + 1) B (B.setCell ⟨w.heap.size + 1 + 1, 0, none⟩ y.2) := (Mod.refl (fun k => k = w.heap.size + 1 + 1) _).setCell (p := ⟨w.heap.size + 1 + 1, 0, none⟩) (fun _ => rfl) _
  have c7 : (B.setCell ⟨w.heap.size + 1 + 1, 0, none⟩ y.2).heap[w.heap.size + 1 + 1]? = some (.cells #[y.2] 43) := by rw [setCell_at (n6.at (n9.at h.m7 (by omega)) (by omega)) 0]; rfl
  have c6' := n7.at c6 (by omega)
  generalize B.setCell ⟨w.heap.size + 1 + 1, 0, none⟩ y.2 = C at *
  have n8 : Mod (fun k => k = w.heap.size + 1 + 1 + 1) C (C.setCell ⟨w.heap.size + 1 + 1 + 1, 0, none⟩ (.int .i64 0)) := (Mod.refl (fun k => k = w.heap.size + 1 + 1 + 1) _).setCell (p := ⟨w.heap.size + 1 + 1 + 1, 0, none⟩) (fun _ => rfl) _
  have c8 : (C.setCell ⟨w.heap.size + 1 + 1 + 1, 0, none⟩ (.int .i64 0)).heap[w.heap.size + 1 + 1 + 1]? = some (.cells #[.int .i64 0] 28) := by rw [setCell_at (n7.at (n6.at (n9.at h.m8 (by omega)) (by omega)) (by omega)) 0]; rfl
  have c6'' := n8.at c6' (by omega)
  have c7' := n8.at c7 (by omega)
  generalize C.setCell ⟨w.heap.size + 1 + 1 + 1, 0, none⟩ (.int .i64 0) = D at *
  have m : Mod (fun k => k = w.heap.size + 1 ∨ k = w.heap.size + 1 + 1 ∨ k = w.heap.size + 1 + 1 + 1 ∨ k = b9) W D :=
    (((n9.wider (fun i _ h => .inr (.inr (.inr h)))).trans (n6.wider (fun i _ h => .inl h))).trans (n7.wider (fun i _ h => .inr (.inl h)))).trans (n8.wider (fun i _ h => .inr (.inr (.inl h))))
  have hx := h.own x (by simp)
  exact ⟨m, rfl, ⟨x, y, rfl, c6'', c7', (hx.same (fun r hr => m.block r (hx.cells hr).2.1 (by have := (hx.cells hr).1; omega))).mono (by omega), (hy.same (fun r hr => m.block r (hy.cells hr).2.1 (by have := (hy.cells hr).1; omega))).mono (by omega), hap⟩, c8, h.m.then m (fun i hi hk => by omega)⟩

/-- The three results are stored. -/
theorem store_three {w W : World} {a6 a7 a8 v6 v7 v8 : Value} (m6 : W.heap[w.heap.size + 1]? = some (.cells #[a6] 43)) (m7 : W.heap[w.heap.size + 1 + 1]? = some (.cells #[a7] 43)) (m8 : W.heap[w.heap.size + 1 + 1 + 1]? = some (.cells #[a8] 28)) :
    (((W.setCell ⟨w.heap.size + 1, 0, none⟩ v6).setCell ⟨w.heap.size + 1 + 1, 0, none⟩ v7).setCell ⟨w.heap.size + 1 + 1 + 1, 0, none⟩ v8).heap[w.heap.size + 1]? = some (.cells #[v6] 43) ∧
    (((W.setCell ⟨w.heap.size + 1, 0, none⟩ v6).setCell ⟨w.heap.size + 1 + 1, 0, none⟩ v7).setCell ⟨w.heap.size + 1 + 1 + 1, 0, none⟩ v8).heap[w.heap.size + 1 + 1]? = some (.cells #[v7] 43) ∧
    (((W.setCell ⟨w.heap.size + 1, 0, none⟩ v6).setCell ⟨w.heap.size + 1 + 1, 0, none⟩ v7).setCell ⟨w.heap.size + 1 + 1 + 1, 0, none⟩ v8).heap[w.heap.size + 1 + 1 + 1]? = some (.cells #[v8] 28) ∧
    Mod (fun k => k = w.heap.size + 1 ∨ k = w.heap.size + 1 + 1 ∨ k = w.heap.size + 1 + 1 + 1) W (((W.setCell ⟨w.heap.size + 1, 0, none⟩ v6).setCell ⟨w.heap.size + 1 + 1, 0, none⟩ v7).setCell ⟨w.heap.size + 1 + 1 + 1, 0, none⟩ v8) := by
  have n6 : Mod (fun k => k = w.heap.size + 1) W (W.setCell ⟨w.heap.size + 1, 0, none⟩ v6) := (Mod.refl (fun k => k = w.heap.size + 1) _).setCell (p := ⟨w.heap.size + 1, 0, none⟩) (fun _ => rfl) _
  have c6 : (W.setCell ⟨w.heap.size + 1, 0, none⟩ v6).heap[w.heap.size + 1]? = some (.cells #[v6] 43) := by rw [setCell_at m6 0]; rfl
  generalize W.setCell ⟨w.heap.size + 1, 0, none⟩ v6 = B at *
  have n7 : Mod (fun k => k = w.heap.size + 1 + 1) B (B.setCell ⟨w.heap.size + 1 + 1, 0, none⟩ v7) := (Mod.refl (fun k => k = w.heap.size + 1 + 1) _).setCell (p := ⟨w.heap.size + 1 + 1, 0, none⟩) (fun _ => rfl) _
  have c7 : (B.setCell ⟨w.heap.size + 1 + 1, 0, none⟩ v7).heap[w.heap.size + 1 + 1]? = some (.cells #[v7] 43) := by rw [setCell_at (n6.at m7 (by omega)) 0]; rfl
  have c6' := n7.at c6 (by omega)
  generalize B.setCell ⟨w.heap.size + 1 + 1, 0, none⟩ v7 = C at *
  have n8 : Mod (fun k => k = w.heap.size + 1 + 1 + 1) C (C.setCell ⟨w.heap.size + 1 + 1 + 1, 0, none⟩ v8) := (Mod.refl (fun k => k = w.heap.size + 1 + 1 + 1) _).setCell (p := ⟨w.heap.size + 1 + 1 + 1, 0, none⟩) (fun _ => rfl) _
  have c8 : (C.setCell ⟨w.heap.size + 1 + 1 + 1, 0, none⟩ v8).heap[w.heap.size + 1 + 1 + 1]? = some (.cells #[v8] 28) := by rw [setCell_at (n7.at (n6.at m8 (by omega)) (by omega)) 0]; rfl
  exact ⟨n8.at c6' (by omega), n8.at c7 (by omega), c8, ((n6.wider (fun i _ h => .inl h)).trans (n7.wider (fun i _ h => .inr (.inl h)))).trans (n8.wider (fun i _ h => .inr (.inr h)))⟩

/-- What was handed over lies on when the loop's deferred calls have been taken. -/
theorem own_taken {B : Nat} {W : World} {x : Held} {D : Nat} {o : Obj} (h : OwnV B W x) (hK : W.heap[D]? = some (.deferred (some []))) : OwnV B (W.putObj D o) x := h.same (fun r hr => by
  obtain ⟨_, _, cs, hc⟩ := h.cells hr
  exact World.putObj_heap_other (fun e => by rw [e, hK] at hc; cases hc))

theorem results26 {tmps : Array Value} {W : World} {b6 b7 b8 : Nat} {a1 a2 : Option Addr} {n1 n2 c1 c2 : Nat} {er : Int} (h6 : tmps.getD 6 undef = .pointer (some ⟨b6, 0, none⟩)) (h7 : tmps.getD 7 undef = .pointer (some ⟨b7, 0, none⟩)) (h8 : tmps.getD 8 undef = .pointer (some ⟨b8, 0, none⟩))
    (k6 : W.heap[b6]? = some (.cells #[.slice a1 n1 c1] 43)) (k7 : W.heap[b7]? = some (.cells #[.slice a2 n2 c2] 43)) (k8 : W.heap[b8]? = some (.cells #[.int .i64 er] 28)) :
    (results Try.f26 tmps).run Try.prog W = .ok (.tuple #[.slice a1 n1 c1, .slice a2 n2 c2, .int .i64 er]) W := by
  have c6 := cellsAt k6 0
  have c7 := cellsAt k7 0
  have c8 := cellsAt k8 0
  have h6' : tmps[6]?.getD undef = .pointer (some ⟨b6, 0, none⟩) := by simpa using h6
  have h7' : tmps[7]?.getD undef = .pointer (some ⟨b7, 0, none⟩) := by simpa using h7
  have h8' : tmps[8]?.getD undef = .pointer (some ⟨b8, 0, none⟩) := by simpa using h8
  simp [results, Try.results26, go_sem, *]

set_option maxRecDepth 100000 in
set_option maxHeartbeats 4000000 in
theorem pairs_go (p : Ply) (tabs holes : List Edg) (to ho : Option Addr) (capt caph : Nat) (w : World) (hp : playB p = true) (hts : sidesB tabs = true) (hhs : sidesB holes = true) (hte : EdgesAt w to tabs) (hhe : EdgesAt w ho holes)
    (hn : tabs.length ≤ 8) (hnm : holes.length = tabs.length)
    (HP : Hold (∀ w, Calls Try.prog 46 #[plV p] w fun r w' => r = .returned (.bool true) ∧ Mod noB w w'))
    (HT : Hold (∀ w', Mod noB w w' → Calls Try.prog 47 #[.slice to tabs.length capt] w' fun r w'' => r = .returned (.bool true) ∧ Mod noB w' w''))
    (HH : Hold (∀ w', Mod noB w w' → Calls Try.prog 47 #[.slice ho tabs.length caph] w' fun r w'' => r = .returned (.bool true) ∧ Mod noB w' w''))
    (HA : Hold (∀ w', Mod noB w w' → Calls Try.prog 65 #[.int .i64 1, .slice to tabs.length capt] w' fun r w'' => r = .returned (.bool true) ∧ Mod noB w' w''))
    (HB : Hold (∀ w', Mod noB w w' → Calls Try.prog 65 #[.int .i64 2, .slice ho tabs.length caph] w' fun r w'' => r = .returned (.bool true) ∧ Mod noB w' w'')) :
    Calls Try.prog 26 #[plV p, .slice to tabs.length capt, .slice ho tabs.length caph] w (TwoOut (firstTwo (allPairs p tabs holes)).1 (firstTwo (allPairs p tabs holes)).2.1 (firstTwo (allPairs p tabs holes)).2.2 w) := by
  have HM0 : Hold (Mod noB w ((((w.alloc (.cells (plC p) 25)).alloc (.cells #[.slice none 0 0] 43)).alloc (.cells #[.slice none 0 0] 43)).alloc (.cells #[.int .i64 0] 28))) := ⟨allocL_mod noB [_, _, _, _] w⟩
  have FIN := Hold.mk (prsFacts p w)
  have HE := Hold.mk (And.intro hte hhe)
  have HSD := Hold.mk (And.intro hts hhs)
  have HPL := Hold.mk hp
  have HNM := Hold.mk hnm
  clear hte hhe hts hhs hp hnm
  refine callsIn_wide (n := 3) |>.1 ?_
  refine callsIn_of_wp_marks Try.func26 rfl trivial ?_ rfl
  simp only [Try.ntmps26, List.size_toArray, List.length_cons, List.length_nil, Nat.reduceAdd, Nat.reduceSub, Array.replicate_succ, Array.replicate_zero, List.push_toArray, List.append_toArray, List.nil_append, List.cons_append]
  gi_wp2_with (first
    | (refine ⟨trivial, ?_⟩; gi_at_call 46; (with_reducible refine (callsIn_wide.2 (HP.out _)).mono ?_); rintro e w1 ⟨rfl, hM2⟩
       obtain ⟨⟨p0, p1, p2, p3, p4⟩, _⟩ := FIN.out _ hM2
       have Hw1 := Hold.mk hM2; clear hM2)
    | (refine ⟨trivial, ?_⟩; gi_at_call 47; (with_reducible refine (callsIn_wide.2 (HT.out _ (HM0.out.trans Hw1.out))).mono ?_); rintro e w2 ⟨rfl, hM2⟩
       have Hw2 := Hold.mk (Hw1.out.trans hM2); clear hM2)
    | (refine ⟨trivial, ?_⟩; gi_at_call 47; (with_reducible refine (callsIn_wide.2 (HH.out _ (HM0.out.trans Hw2.out))).mono ?_); rintro e w3 ⟨rfl, hM2⟩
       have Hw3 := Hold.mk (Hw2.out.trans hM2); clear hM2)
    | (refine ⟨trivial, ?_⟩; gi_at_call 65; (with_reducible refine (callsIn_wide.2 (HA.out _ (HM0.out.trans Hw3.out))).mono ?_); rintro e w4 ⟨rfl, hM2⟩
       have Hw4 := Hold.mk (Hw3.out.trans hM2); clear hM2)
    | (refine ⟨trivial, ?_⟩; gi_at_call 65; (with_reducible refine (callsIn_wide.2 (HB.out _ (HM0.out.trans Hw4.out))).mono ?_); rintro e w5 ⟨rfl, hM2⟩
       clear p0 p1 p2 p3 p4
       have hM3 := Hw4.out.trans hM2
       obtain ⟨⟨p0, p1, p2, p3, p4⟩, _, _, _, hz⟩ := FIN.out _ hM3
       have hz0 : w.heap.size < w5.heap.size := (by omega)
       have Hw5 := Hold.mk hM3; clear hM2 hM3 hz)
    | (refine ⟨trivial, ?_⟩; gi_at_call 66; (with_reducible refine (callsIn_wide.2 (pairings_any p to ho tabs.length tabs.length capt caph _)).mono ?_); rintro e w6 ⟨rfl, hW6⟩; have HW6 := Hold.mk hW6; clear hW6))
  have hM5 := HM0.out.trans Hw5.out
  have F5 := FIN.out _ Hw5.out
  have e6 : Mod noB w5 w6 := by rw [HW6.out]; exact ((((Mod.refl _ _).alloc _).alloc _).alloc _).alloc _
  have hM6 := hM5.trans e6
  have hs6 : w6.heap.size = w5.heap.size + 4 := by rw [HW6.out]; simp
  have a6 : allocL w5 [.cells #[.int .i64 0] 3, .cells (plC p) 25, .cells #[Value.slice to tabs.length capt] 42, .cells #[Value.slice ho tabs.length caph] 42] = w6 := by rw [HW6.out]; rfl
  have k0 := allocL_at [.cells #[.int .i64 0] 3, .cells (plC p) 25, .cells #[Value.slice to tabs.length capt] 42, .cells #[Value.slice ho tabs.length caph] 42] w5 0 _ rfl
  have k1 := allocL_at [.cells #[.int .i64 0] 3, .cells (plC p) 25, .cells #[Value.slice to tabs.length capt] 42, .cells #[Value.slice ho tabs.length caph] 42] w5 1 _ rfl
  have k2 := allocL_at [.cells #[.int .i64 0] 3, .cells (plC p) 25, .cells #[Value.slice to tabs.length capt] 42, .cells #[Value.slice ho tabs.length caph] 42] w5 2 _ rfl
  have k3 := allocL_at [.cells #[.int .i64 0] 3, .cells (plC p) 25, .cells #[Value.slice to tabs.length capt] 42, .cells #[Value.slice ho tabs.length caph] 42] w5 3 _ rfl
  rw [a6] at k0 k1 k2 k3
  have hE6 : Env p tabs holes (w5.heap.size + 1 + 1) (w5.heap.size + 1) (w5.heap.size + 1 + 1 + 1) to ho capt caph w6 := ⟨k2, k1, by rw [HNM.out]; exact k3, HE.out.1.mod hM6, HE.out.2.mod hM6⟩
  have h5 : w.heap.size + 4 ≤ w5.heap.size := by have := F5.n; omega
  have hside : ∀ (es : List Edg), sidesB es = true → ∀ e ∈ es, sideB e = true := fun es h e he => by simp only [sidesB, List.all_eq_true] at h; exact h e he
  have hrun := pairIt_runs p tabs holes (w5.heap.size + 1 + 1) (w5.heap.size + 1) (w5.heap.size + 1 + 1 + 1) to ho capt caph w6 hE6 HPL.out (hside _ HSD.out.1) (hside _ HSD.out.2) (by omega) (by rw [HNM.out]; omega)
    (fun k => k = w5.heap.size + 1 + 1 ∨ k = w5.heap.size + 1 ∨ k = w5.heap.size + 1 + 1 + 1 ∨ k < w.heap.size) (.inl rfl) (.inr (.inl rfl)) (.inr (.inr (.inl rfl)))
    (fun hne b off he => .inr (.inr (.inr (by obtain ⟨b', off', e1, e2, _⟩ := HE.out.1.lies hne; rw [he] at e1; cases e1; exact e2)))) (fun hne b off he => .inr (.inr (.inr (by obtain ⟨b', off', e1, e2, _⟩ := HE.out.2.lies hne; rw [he] at e1; cases e1; exact e2))))
  refine range_plainV (gf := 86) (lb := #[.pointer (some ⟨w5.heap.size + 1 + 1, 0, none⟩), .pointer (some ⟨w5.heap.size + 1, 0, none⟩), .pointer (some ⟨w5.heap.size + 1 + 1 + 1, 0, none⟩)]) rfl rfl enter86 hrun
    (by rintro k (h | h | h | h) <;> omega) (fun k => k = w.heap.size + 1 ∨ k = w.heap.size + 1 + 1 ∨ k = w.heap.size + 1 + 1 + 1 ∨ k = w5.heap.size) (by rintro k (h | h | h | h) <;> exact ⟨by omega, by omega⟩)
    (PI w w5.heap.size) (PX w)
    ?stI ?stX ?begin none
    (fun _ x => { tmps := #[plV p, Value.slice to tabs.length capt, Value.slice ho tabs.length caph, Value.pointer (some ⟨w.heap.size, 0, none⟩), undef, undef, Value.pointer (some ⟨w.heap.size + 1, 0, none⟩), Value.pointer (some ⟨w.heap.size + 1 + 1, 0, none⟩), Value.pointer (some ⟨w.heap.size + 1 + 1 + 1, 0, none⟩), Value.pointer (some ⟨w5.heap.size, 0, none⟩), x.2, Value.agg #[.int .i64 p.len, .int .i64 p.slack, .int .i64 p.loose, .int .i64 p.damp.1, .int .i64 p.damp.2], Value.bool true, Value.bool false, Value.bool false, Value.slice to tabs.length capt, Value.bool true, Value.bool false, Value.bool false, Value.bool false, Value.slice ho tabs.length caph, Value.bool true, Value.bool false, Value.bool false, Value.slice to tabs.length capt, Value.int .i64 tabs.length, Value.bool (decide (8 < (tabs.length : Int))), Value.bool (decide (8 < (tabs.length : Int))), Value.slice ho tabs.length caph, Value.int .i64 tabs.length, Value.bool (decide (8 < (tabs.length : Int))), Value.bool (decide (8 < (tabs.length : Int))), Value.slice to tabs.length capt, Value.bool true, Value.bool false, Value.bool false, Value.slice ho tabs.length caph, Value.bool true, Value.bool false, Value.bool false, Value.slice to tabs.length capt, Value.int .i64 tabs.length, Value.slice ho tabs.length caph, Value.int .i64 tabs.length, Value.bool false, Value.agg #[.int .i64 p.len, .int .i64 p.slack, .int .i64 p.loose, .int .i64 p.damp.1, .int .i64 p.damp.2], Value.slice to tabs.length capt, Value.slice ho tabs.length caph, Value.func (.func 86) #[] #[.pointer (some ⟨w5.heap.size + 1 + 1, 0, none⟩), .pointer (some ⟨w5.heap.size + 1, 0, none⟩), .pointer (some ⟨w5.heap.size + 1 + 1 + 1, 0, none⟩)], x.2, undef, undef, undef, undef, undef, undef, undef, undef, undef, undef], defers := [] })
    ?assign ?body ?done ?stop
  case assign =>
    intro l x W K hK
    gi_wp2
    exact hK
  case stI => exact pi_stable (b9 := w5.heap.size) (by omega) (by omega)
  case stX => exact px_stable (b9 := w5.heap.size) (by omega) (by omega)
  case begin => exact ⟨by simp, by simpa using k0, e6.at F5.b6 id, e6.at F5.b7 id, e6.at F5.b8 id, by simp, hM6⟩
  case body =>
    rintro l2 pre x rest a' Wr hL hl2 hr2 hzr hI hown hap rfl
    have c9 := cellsAt hI.m9 0
    have c6 := cellsAt hI.m6 0
    have c7 := cellsAt hI.m7 0
    have c8 := cellsAt hI.m8 0
    have f9 := cells_frozen hI.m9 0
    have f6 := cells_frozen hI.m6 0
    have f7 := cells_frozen hI.m7 0
    have f8 := cells_frozen hI.m8 0
    obtain ⟨L, v⟩ := x
    obtain ⟨ao, cap, rfl⟩ := own_slice hown
    have n1 : ¬ (w5.heap.size = w.heap.size + 1) := by omega
    have n2 : ¬ (w5.heap.size = w.heap.size + 1 + 1) := by omega
    have n3 : ¬ (w5.heap.size = w.heap.size + 1 + 1 + 1) := by omega
    have HI := Hold.mk hI
    have HO := Hold.mk (hown.mono (B' := w5.heap.size + 1) (by omega))
    have HAP := Hold.mk hap
    have HH5 := Hold.mk h5
    clear hL hr2 hI hown hap k0 k1 k2 k3 a6 hE6 hrun e6 F5 hM5 hM6 hside
    match pre with
    | [] =>
      simp only [withOf, List.length_nil] at c9 c6
      gi_wp2
      exact pi_one (by have := HH5.out; omega) HI.out HO.out
    | [x0] =>
      obtain ⟨L0, v0⟩ := x0
      obtain ⟨ao0, cap0, rfl⟩ := own_slice (HI.out.own (L0, v0) (by simp))
      simp only [withOf, List.length_cons, List.length_nil] at c9 c6
      gi_wp2
      exact pi_two (x := (L0, .slice ao0 L0.length cap0)) (y := (L, .slice ao L.length cap)) (by have := HH5.out; omega) HI.out HO.out (HAP.out (L0, .slice ao0 L0.length cap0) (by simp))
    | _ :: _ :: _ => exact absurd HI.out.len (by simp)
  case done =>
    rintro D pre W' hD hz hpre hI hK
    have c9 := cellsAt hI.m9 0
    have c6 := cellsAt hI.m6 0
    have c7 := cellsAt hI.m7 0
    have c8 := cellsAt hI.m8 0
    have f6 := cells_frozen hI.m6 0
    have f7 := cells_frozen hI.m7 0
    have f8 := cells_frozen hI.m8 0
    have HI := Hold.mk hI
    have HK := Hold.mk (And.intro hK hD)
    have HPR := Hold.mk hpre
    have HH5 := Hold.mk (And.intro h5 hs6)
    clear hI hpre hK hz k0 k1 k2 k3 a6 hE6 hrun e6 F5 hM5 hM6 hside hD
    match pre with
    | [] =>
      simp only [withOf, List.length_nil] at c9 c6
      have HF : Hold (firstTwo (allPairs p tabs holes) = ([], [], 4)) := ⟨by rw [allPairs, ← HPR.out]; rfl⟩
      rw [HF.out]
      gi_wp2
      obtain ⟨hK, hD⟩ := HK.out
      have hD5 : w.heap.size + 4 < D := by have := HH5.out; omega
      have S := store_three (v6 := .slice none 0 0) (v7 := .slice none 0 0) (v8 := .int .i64 4) HI.out.m6 HI.out.m7 HI.out.m8
      obtain ⟨s6, s7, s8, sm⟩ := S
      have hK2 := sm.at hK (by omega)
      refine ⟨by simp, .inl ⟨_, _, rfl, run_takeDeferred hK2, ?_⟩⟩
      rw [HF.out]
      exact ⟨_, results26 rfl rfl rfl ((World.putObj_heap_other (by omega)).trans s6) ((World.putObj_heap_other (by omega)).trans s7) ((World.putObj_heap_other (by omega)).trans s8), twoNil (((HI.out.m.then sm (fun i hi hk => by omega))).putObj (fun h => by omega) _)⟩
    | [x0] =>
      obtain ⟨L0, v0⟩ := x0
      obtain ⟨ao0, cap0, rfl⟩ := own_slice (HI.out.own (L0, v0) (by simp))
      simp only [withOf, List.length_cons, List.length_nil] at c9 c6
      have HF : Hold (firstTwo (allPairs p tabs holes) = (L0, [], 0)) := ⟨by rw [allPairs, ← HPR.out]; rfl⟩
      rw [HF.out]
      gi_wp2
      obtain ⟨hK, hD⟩ := HK.out
      have hD5 : w.heap.size + 4 < D := by have := HH5.out; omega
      have hO0 := HI.out.own (L0, .slice ao0 L0.length cap0) (by simp)
      have S := store_three (v6 := .slice ao0 L0.length cap0) (v7 := .slice none 0 0) (v8 := .int .i64 0) HI.out.m6 HI.out.m7 HI.out.m8
      obtain ⟨s6, s7, s8, sm⟩ := S
      have hK2 := sm.at hK (by omega)
      refine ⟨by simp, .inl ⟨_, _, rfl, run_takeDeferred hK2, ?_⟩⟩
      rw [HF.out]
      have hO1 : OwnV (w5.heap.size + 1) _ (L0, .slice ao0 L0.length cap0) := hO0.same (fun r hr => sm.block r (hO0.cells hr).2.1 (by have := (hO0.cells hr).1; have := HH5.out; omega))
      exact ⟨_, results26 rfl rfl rfl ((World.putObj_heap_other (by omega)).trans s6) ((World.putObj_heap_other (by omega)).trans s7) ((World.putObj_heap_other (by omega)).trans s8), _, _, rfl, (own_taken hO1 hK2).mono (by have := HH5.out; omega), World.ownsRow_nil _ _ _ _, (by intro r _ h; cases h), ((HI.out.m.then sm (fun i hi hk => by omega))).putObj (fun h => by omega) _⟩
    | _ :: _ :: _ => exact absurd HI.out.len (by simp)
  case stop =>
    rintro D c pre W' hD hz hpre ⟨rfl, ⟨x, y, rfl, e1, e2, e3, e4, e5⟩, h8, hM⟩ hK
    have HF : Hold (firstTwo (allPairs p tabs holes) = (x.1, y.1, 0)) := ⟨by
      obtain ⟨r, hr⟩ := hpre
      rw [allPairs, ← hr]; rfl⟩
    rw [HF.out]
    obtain ⟨Lx, vx⟩ := x
    obtain ⟨Ly, vy⟩ := y
    obtain ⟨ax, cx, rfl⟩ := own_slice e3
    obtain ⟨ay, cy, rfl⟩ := own_slice e4
    have hD5 : w.heap.size + 4 < D := by omega
    gi_wp2
    refine ⟨by simp, .inl ⟨_, _, rfl, run_takeDeferred hK, ?_⟩⟩
    refine ⟨_, results26 rfl rfl rfl ((World.putObj_heap_other (by omega)).trans e1) ((World.putObj_heap_other (by omega)).trans e2) ((World.putObj_heap_other (by omega)).trans h8), _, _, rfl, own_taken e3 hK, own_taken e4 hK, e5, hM.putObj (fun h => by omega) _⟩

theorem pairs_any (p : Ply) (tabs holes : List Edg) (to ho : Option Addr) (capt caph : Nat) (w : World) (hte : EdgesAt w to tabs) (hhe : EdgesAt w ho holes) :
    Calls Try.prog 26 #[plV p, .slice to tabs.length capt, .slice ho holes.length caph] w (TwoOut (pairsE p tabs holes).1 (pairsE p tabs holes).2.1 (pairsE p tabs holes).2.2 w) := by
  have HP := fun w => isPlay_any p w
  have HT : ∀ w', Mod noB w w' → Calls Try.prog 47 #[.slice to tabs.length capt] w' fun r w'' => r = .returned (.bool (sidesB tabs)) ∧ Mod noB w' w'' := fun w' h => areSides_any to tabs capt w' (hte.mod h)
  have HH : ∀ w', Mod noB w w' → Calls Try.prog 47 #[.slice ho holes.length caph] w' fun r w'' => r = .returned (.bool (sidesB holes)) ∧ Mod noB w' w'' := fun w' h => areSides_any ho holes caph w' (hhe.mod h)
  have HA : ∀ w', Mod noB w w' → Calls Try.prog 65 #[.int .i64 1, .slice to tabs.length capt] w' fun r w'' => r = .returned (.bool (tabs.all fun e => e.k == 1)) ∧ Mod noB w' w'' := fun w' h => areOf_any 1 to tabs capt w' (hte.mod h)
  have HB : ∀ w', Mod noB w w' → Calls Try.prog 65 #[.int .i64 2, .slice ho holes.length caph] w' fun r w'' => r = .returned (.bool (holes.all fun e => e.k == 2)) ∧ Mod noB w' w'' := fun w' h => areOf_any 2 ho holes caph w' (hhe.mod h)
  cases hp : playB p with
  | false =>
    rw [hp] at HP
    rw [show pairsE p tabs holes = ([], [], 1) by simp [pairsE, hp]]
    exact pairs_1p p to ho _ _ capt caph w ⟨HP⟩
  | true =>
    rw [hp] at HP
    cases h1 : sidesB tabs with
    | false =>
      rw [h1] at HT
      rw [show pairsE p tabs holes = ([], [], 1) by simp [pairsE, h1]]
      exact pairs_1t p to ho _ _ capt caph w ⟨HP⟩ ⟨HT⟩
    | true =>
      rw [h1] at HT
      cases h2 : sidesB holes with
      | false =>
        rw [h2] at HH
        rw [show pairsE p tabs holes = ([], [], 1) by simp [pairsE, h2]]
        exact pairs_1h p to ho _ _ capt caph w ⟨HP⟩ ⟨HT⟩ ⟨HH⟩
      | true =>
        rw [h2] at HH
        by_cases h8 : tabs.length ≤ 8
        · by_cases h9 : holes.length ≤ 8
          · cases h3 : (tabs.all fun e => e.k == 1) with
            | false =>
              rw [h3] at HA
              rw [show pairsE p tabs holes = ([], [], 6) by simp [pairsE, hp, h1, h2, h8, h9, h3]]
              exact pairs_6a p to ho _ _ capt caph w ⟨HP⟩ ⟨HT⟩ ⟨HH⟩ ⟨HA⟩ h8 h9
            | true =>
              rw [h3] at HA
              cases h4 : (holes.all fun e => e.k == 2) with
              | false =>
                rw [h4] at HB
                rw [show pairsE p tabs holes = ([], [], 6) by simp [pairsE, hp, h1, h2, h8, h9, h4]]
                exact pairs_6b p to ho _ _ capt caph w ⟨HP⟩ ⟨HT⟩ ⟨HH⟩ ⟨HA⟩ ⟨HB⟩ h8 h9
              | true =>
                rw [h4] at HB
                by_cases hnm : tabs.length = holes.length
                · rw [show pairsE p tabs holes = firstTwo (allPairs p tabs holes) by simp only [pairsE, hp, h1, h2, h8, h9, h3, h4, hnm]; simp]
                  rw [← hnm] at HH HB ⊢
                  exact pairs_go p tabs holes to ho capt caph w hp h1 h2 hte hhe h8 hnm.symm ⟨HP⟩ ⟨HT⟩ ⟨HH⟩ ⟨HA⟩ ⟨HB⟩
                · rw [show pairsE p tabs holes = ([], [], 2) by simp only [pairsE, hp, h1, h2, h8, h9, h3, h4]; simp [hnm]]
                  exact pairs_2 p to ho _ _ capt caph w ⟨HP⟩ ⟨HT⟩ ⟨HH⟩ ⟨HA⟩ ⟨HB⟩ h8 h9 (by simp; omega)
          · rw [show pairsE p tabs holes = ([], [], 3) by simp [pairsE, hp, h1, h2, h9]]
            exact pairs_3b p to ho _ _ capt caph w ⟨HP⟩ ⟨HT⟩ ⟨HH⟩ hte.small hhe.small h8 h9
        · rw [show pairsE p tabs holes = ([], [], 3) by simp [pairsE, hp, h1, h2, h8]]
          exact pairs_3a p to ho _ _ capt caph w ⟨HP⟩ ⟨HT⟩ ⟨HH⟩ hte.small hhe.small h8
end Go.Proofs.Ytnjbamikfjdofaa

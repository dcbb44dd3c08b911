/- FitTrue: the walk: where there is nothing to try, or no tab and hole; where there are both. -/
import Derived.Test.YtnjbamikfjdofaaTruB
import Derived.Deep.DeepCutAuto
import Derived.Deep.CutRange
set_option linter.unusedSimpArgs false
set_option linter.unusedVariables false
namespace Go.Proofs.Ytnjbamikfjdofaa
section
open Go.RowKit Go.Shelf

set_option maxRecDepth 100000 in
set_option maxHeartbeats 8000000 in
theorem true_skip (p : Ply) (a b : Edg) (r : Int × Int) (n : Int) (ao : Option Addr) (ln cp : Nat) (w : World) (pb sa sb : Bool) (hl : ln ≤ 9223372036854775807)
    (P1 : Hold (∀ w, Calls Try.prog 35 #[plV p] w fun e w' => e = .returned (.bool pb) ∧ Mod noB w w'))
    (S1 : Hold (∀ w, Calls Try.prog 36 #[edV a] w fun e w' => e = .returned (.bool sa) ∧ Mod noB w w'))
    (S2 : Hold (∀ w, Calls Try.prog 36 #[edV b] w fun e w' => e = .returned (.bool sb) ∧ Mod noB w w'))
    (hc : ln = 0 ∨ (1 ≤ ln ∧ pb = false) ∨ (1 ≤ ln ∧ pb = true ∧ sa = false) ∨ (1 ≤ ln ∧ pb = true ∧ sa = true ∧ sb = false)) :
    Calls Try.prog 7 #[plV p, edV a, edV b, spV r, .int .i64 n, .slice ao ln cp] w fun e w' => e = .returned (.bool true) ∧ Mod noB w w' := by
  have HF := Hold.mk (lk_kept p a b r w)
  rcases hc with rfl | ⟨h1, rfl⟩ | ⟨h1, rfl, rfl⟩ | ⟨h1, rfl, rfl, rfl⟩
  all_goals
    go_enter Try.func7, Try.ntmps7
    go_wp2_with (first
      | (go_at_call 35; refine (P1.out _).mono ?_; rintro e w1 ⟨rfl, hM⟩; replace HF := Hold.mk (HF.out.later hM); obtain ⟨a0, a1, a2, a3, a4, a5, a6⟩ := EdgeAt.of HF.out.now.1.1.2; have ha := at_ltS HF.out.now.1.1.2; clear hM)
      | (go_at_call 36; have Kx := S1; refine (S1.out _).mono ?_; rintro e w2 ⟨rfl, hM⟩; clear a0 a1 a2 a3 a4 a5 a6 ha S1; replace HF := Hold.mk (HF.out.later hM); obtain ⟨b0, b1, b2, b3, b4, b5, b6⟩ := EdgeAt.of HF.out.now.1.2; have hb := at_ltS HF.out.now.1.2; clear hM)
      | (go_at_call 36; refine (S2.out _).mono ?_; rintro e w3 ⟨rfl, hM⟩; clear b0 b1 b2 b3 b4 b5 b6 hb; replace HF := Hold.mk (HF.out.later hM); clear hM)
      | (go_at_call 21; refine (alive_any _).mono ?_; rintro e w9 ⟨rfl, hM⟩; replace HF := Hold.mk (HF.out.later hM); clear hM))
    go_ret
    exact ⟨rfl, HF.out.now.1.1.1.1⟩

set_option maxRecDepth 100000 in
set_option maxHeartbeats 8000000 in
theorem true_flat (p : Ply) (a b t u : Edg) (r : Int × Int) (n : Int) (ao : Option Addr) (ln cp : Nat) (w : World) (hl : ln ≤ 9223372036854775807) (h1 : 1 ≤ ln)
    (P1 : Hold (∀ w, Calls Try.prog 35 #[plV p] w fun e w' => e = .returned (.bool true) ∧ Mod noB w w'))
    (S1 : Hold (∀ w, Calls Try.prog 36 #[edV a] w fun e w' => e = .returned (.bool true) ∧ Mod noB w w'))
    (S2 : Hold (∀ w, Calls Try.prog 36 #[edV b] w fun e w' => e = .returned (.bool true) ∧ Mod noB w w'))
    (F1 : Hold (∀ w, Calls Try.prog 15 #[plV p, edV a, edV b] w fun e w' => e = .returned (.tuple #[.int .i64 0, .int .i64 0]) ∧ Mod noB w w'))
    (G1 : Hold (∀ w, Calls Try.prog 17 #[plV p, edV a, edV b] w fun e w' => e = .returned (.tuple #[gpV zeroG, .int .i64 6]) ∧ Mod noB w w'))
    (O1 : Hold (∀ w, Calls Try.prog 37 #[edV a, edV b] w fun e w' => e = .returned (.tuple #[edV t, edV u, .bool false]) ∧ Mod noB w w')) :
    Calls Try.prog 7 #[plV p, edV a, edV b, spV r, .int .i64 n, .slice ao ln cp] w fun e w' => e = .returned (.bool true) ∧ Mod noB w w' := by
  have HF := Hold.mk (lk_kept p a b r w)
  go_enter Try.func7, Try.ntmps7
  go_wp2_with (first
    | (go_at_call 35; refine (P1.out _).mono ?_; rintro e w1 ⟨rfl, hM⟩; replace HF := Hold.mk (HF.out.later hM); obtain ⟨a0, a1, a2, a3, a4, a5, a6⟩ := EdgeAt.of HF.out.now.1.1.2; have ha := at_ltS HF.out.now.1.1.2; clear hM)
    | (go_at_call 36; have Kx := S1; refine (S1.out _).mono ?_; rintro e w2 ⟨rfl, hM⟩; clear a0 a1 a2 a3 a4 a5 a6 ha S1; replace HF := Hold.mk (HF.out.later hM); obtain ⟨b0, b1, b2, b3, b4, b5, b6⟩ := EdgeAt.of HF.out.now.1.2; have hb := at_ltS HF.out.now.1.2; clear hM)
    | (go_at_call 36; refine (S2.out _).mono ?_; rintro e w3 ⟨rfl, hM⟩; clear b0 b1 b2 b3 b4 b5 b6 hb; replace HF := Hold.mk (HF.out.later hM); obtain ⟨p0, p1, p2, p3, p4⟩ := PlayAt.of HF.out.now.1.1.1.2; have hp := at_ltS HF.out.now.1.1.1.2; obtain ⟨a0, a1, a2, a3, a4, a5, a6⟩ := EdgeAt.of HF.out.now.1.1.2; have ha := at_ltS HF.out.now.1.1.2; obtain ⟨b0, b1, b2, b3, b4, b5, b6⟩ := EdgeAt.of HF.out.now.1.2; have hb := at_ltS HF.out.now.1.2; clear hM)
    | (go_at_call 15; refine (F1.out _).mono ?_; rintro e w4 ⟨rfl, hM⟩; clear p0 p1 p2 p3 p4 hp a0 a1 a2 a3 a4 a5 a6 ha b0 b1 b2 b3 b4 b5 b6 hb; replace HF := Hold.mk (HF.out.later hM); obtain ⟨p0, p1, p2, p3, p4⟩ := PlayAt.of HF.out.now.1.1.1.2; have hp := at_ltS HF.out.now.1.1.1.2; obtain ⟨a0, a1, a2, a3, a4, a5, a6⟩ := EdgeAt.of HF.out.now.1.1.2; have ha := at_ltS HF.out.now.1.1.2; obtain ⟨b0, b1, b2, b3, b4, b5, b6⟩ := EdgeAt.of HF.out.now.1.2; have hb := at_ltS HF.out.now.1.2; clear hM)
    | (go_at_call 17; refine (G1.out _).mono ?_; rintro e w5 ⟨rfl, hM⟩; clear p0 p1 p2 p3 p4 hp a0 a1 a2 a3 a4 a5 a6 ha b0 b1 b2 b3 b4 b5 b6 hb; replace HF := Hold.mk (HF.out.later hM); obtain ⟨a0, a1, a2, a3, a4, a5, a6⟩ := EdgeAt.of HF.out.now.1.1.2; have ha := at_ltS HF.out.now.1.1.2; obtain ⟨b0, b1, b2, b3, b4, b5, b6⟩ := EdgeAt.of HF.out.now.1.2; have hb := at_ltS HF.out.now.1.2; clear hM)
    | (go_at_call 37; refine (O1.out _).mono ?_; rintro e w6 ⟨rfl, hM⟩; clear a0 a1 a2 a3 a4 a5 a6 ha b0 b1 b2 b3 b4 b5 b6 hb; replace HF := Hold.mk ((HF.out.later (((Mod.refl noB w5).alloc _).trans hM)).and (kept_block (hM.at (World.alloc_heap_new w5 _) id))); have x0 := cellsAt HF.out.now.2 0; have x1 := cellsAt HF.out.now.2 1; have x2 := cellsAt HF.out.now.2 2; have x3 := cellsAt HF.out.now.2 3; have x4 := cellsAt HF.out.now.2 4; have x5 := cellsAt HF.out.now.2 5; have hx := at_ltS HF.out.now.2; clear hM)
    | (go_at_call 21; refine (alive_any _).mono ?_; rintro e w9 ⟨rfl, hM⟩; replace HF := Hold.mk (HF.out.later (((Mod.refl noB w6).alloc _).alloc _ |>.trans hM)); clear hM))
  go_ret
  exact ⟨rfl, HF.out.now.1.1.1.1.1⟩
end

section
open Go.RowKit Go.Shelf

/-- Behind the truth: what came in, what is between, and the drawer. -/
def TQ (p : Ply) (a b : Edg) (r : Int × Int) (g : Gp) (w : World) (G db : Nat) (ao : Option Addr) (ln cp k : Nat) (w' : World) : Prop :=
  (LK p a b r w w' ∧ w'.heap[G]? = some (.cells (gpC g) 32)) ∧ DrawAt w' db ao ln cp k
theorem tq_kept {p : Ply} {a b : Edg} {r : Int × Int} {g : Gp} {w w1 w2 : World} {G db : Nat} {ao : Option Addr} {ln cp k : Nat} (h : LK p a b r w w1 ∧ w1.heap[G]? = some (.cells (gpC g) 32)) (hm : Mod (fun b => b = db) w1 w2) (hw : w.heap.size + 1 + 1 + 1 < db) (hG : G ≠ db) (hd : DrawAt w2 db ao ln cp k) :
    Kept w2 (TQ p a b r g w G db ao ln cp k) := fun w' hm' => by
  have n0 : ¬ w.heap.size = db := by omega
  have n1 : ¬ w.heap.size + 1 = db := by omega
  have n2 : ¬ w.heap.size + 1 + 1 = db := by omega
  have n3 : ¬ w.heap.size + 1 + 1 + 1 = db := by omega
  refine ⟨⟨LK.later ⟨⟨⟨⟨h.1.1.1.1.1.then hm (fun i hi e => by omega), hm.at h.1.1.1.1.2 n0⟩, hm.at h.1.1.1.2 n1⟩, hm.at h.1.1.2 n2⟩, hm.at h.1.2 n3⟩ hm', hm'.at (hm.at h.2 hG) id⟩, hm'.at hd id⟩

/-- What is asked of a truth. -/
structure TruthN (p : Ply) (g : Gp) (N x y z : Int) : Prop where
  two : N = 2 → goodX p x y z = true
  zero : N = 0 → goodX p x y z = false
  x1 : 1000 * g.1.1 ≤ x
  x2 : x ≤ 1000 * g.1.2
  y1 : 1000 * g.2.1.1 ≤ y
  y2 : y ≤ 1000 * g.2.1.2
  z1 : 1000 * g.2.2.1 ≤ z
  z2 : z ≤ 1000 * g.2.2.2

set_option maxRecDepth 100000 in
set_option maxHeartbeats 8000000 in
theorem true_ok (p : Ply) (a b t u : Edg) (r : Int × Int) (n : Int) (ao : Option Addr) (ln cp : Nat) (w : World) (g : Gp) (N : Int) (s' : Edg) (er : Int) (ww : Int × Int) (hl : ln ≤ 9223372036854775807) (h1 : 1 ≤ ln)
    (hN : Hold (N = 0 ∨ N = 1 ∨ N = 2)) (hg : Hold ((Small 100000000 g.1 ∧ Small 100000000 g.2.1) ∧ Small 100000000 g.2.2))
    (HTR : Hold (∀ x y z, TrueOf p t u x y z → TruthN p g N x y z))
    (P1 : Hold (∀ w, Calls Try.prog 35 #[plV p] w fun e w' => e = .returned (.bool true) ∧ Mod noB w w'))
    (S1 : Hold (∀ w, Calls Try.prog 36 #[edV a] w fun e w' => e = .returned (.bool true) ∧ Mod noB w w'))
    (S2 : Hold (∀ w, Calls Try.prog 36 #[edV b] w fun e w' => e = .returned (.bool true) ∧ Mod noB w w'))
    (F1 : Hold (∀ w, Calls Try.prog 15 #[plV p, edV a, edV b] w fun e w' => e = .returned (.tuple #[.int .i64 N, .int .i64 0]) ∧ Mod noB w w'))
    (G1 : Hold (∀ w, Calls Try.prog 17 #[plV p, edV a, edV b] w fun e w' => e = .returned (.tuple #[gpV g, .int .i64 0]) ∧ Mod noB w w'))
    (O1 : Hold (∀ w, Calls Try.prog 37 #[edV a, edV b] w fun e w' => e = .returned (.tuple #[edV t, edV u, .bool true]) ∧ Mod noB w w'))
    (T1 : Hold (∀ W db, Mod noB w W → w.heap.size ≤ db → DrawAt W db ao ln cp 0 → Calls Try.prog 38 #[plV p, edV t, edV u, .pointer (some ⟨db, 0, none⟩)] W (TrulyPost p t u db ao ln cp W)))
    (W1 : Hold (∀ w, Calls Try.prog 19 #[edV a, spV r, .int .i64 n] w fun e w' => e = .returned (.tuple #[edV s', .int .i64 er]) ∧ Mod noB w w'))
    (D1 : Hold (∀ W db k s, Mod noB w W → w.heap.size ≤ db → DrawAt W db ao ln cp k → k ≤ 1001 → s.1 ≤ s.2 → Small 1000000 s → Calls Try.prog 39 #[.pointer (some ⟨db, 0, none⟩), spV s] W (OfPost s db ao ln cp k W)))
    (hka : Hold (a.k = 1 ∨ a.k = 2))
    (hE : Hold ((er = 2 ∨ er = 11) ∧ s' = zeroE ∨ er = 0 ∧ s' = ⟨a.k, a.a, ww, a.d⟩ ∧ 0 ≤ r.1 ∧ r.1 ≤ r.2 ∧ r.2 ≤ 100 ∧ 0 ≤ n ∧ n ≤ 20000 ∧ (a.w.1 ≤ a.w.2 ∧ Small 1000000 a.w) ∧ Small 1000000 ww))
    (HWm : Hold (∀ v q : Int, a.w.1 ≤ v → v ≤ a.w.2 → r.1 ≤ q → q ≤ r.2 → 0 ≤ n → er = 0 → (a.k = 1 → 1000 * ww.1 ≤ 1000 * v - q * n ∧ 1000 * v - q * n ≤ 1000 * ww.2) ∧ (a.k = 2 → 1000 * ww.1 ≤ 1000 * v + q * n ∧ 1000 * v + q * n ≤ 1000 * ww.2))) :
    Calls Try.prog 7 #[plV p, edV a, edV b, spV r, .int .i64 n, .slice ao ln cp] w fun e w' => e = .returned (.bool true) ∧ Mod noB w w' := by
  have HF := Hold.mk (lk_kept p a b r w)
  go_enter Try.func7, Try.ntmps7
  go_upto_region 11 with (first
    | (go_at_call 35; refine (P1.out _).mono ?_; rintro e w1 ⟨rfl, hM⟩; replace HF := Hold.mk (HF.out.later hM); obtain ⟨a0, a1, a2, a3, a4, a5, a6⟩ := EdgeAt.of HF.out.now.1.1.2; have ha := at_ltS HF.out.now.1.1.2; clear hM)
    | (go_at_call 36; have Kx := S1; refine (S1.out _).mono ?_; rintro e w2 ⟨rfl, hM⟩; clear a0 a1 a2 a3 a4 a5 a6 ha S1; replace HF := Hold.mk (HF.out.later hM); obtain ⟨b0, b1, b2, b3, b4, b5, b6⟩ := EdgeAt.of HF.out.now.1.2; have hb := at_ltS HF.out.now.1.2; clear hM)
    | (go_at_call 36; refine (S2.out _).mono ?_; rintro e w3 ⟨rfl, hM⟩; clear b0 b1 b2 b3 b4 b5 b6 hb; replace HF := Hold.mk (HF.out.later hM); obtain ⟨p0, p1, p2, p3, p4⟩ := PlayAt.of HF.out.now.1.1.1.2; have hp := at_ltS HF.out.now.1.1.1.2; obtain ⟨a0, a1, a2, a3, a4, a5, a6⟩ := EdgeAt.of HF.out.now.1.1.2; have ha := at_ltS HF.out.now.1.1.2; obtain ⟨b0, b1, b2, b3, b4, b5, b6⟩ := EdgeAt.of HF.out.now.1.2; have hb := at_ltS HF.out.now.1.2; clear hM)
    | (go_at_call 15; refine (F1.out _).mono ?_; rintro e w4 ⟨rfl, hM⟩; clear p0 p1 p2 p3 p4 hp a0 a1 a2 a3 a4 a5 a6 ha b0 b1 b2 b3 b4 b5 b6 hb; replace HF := Hold.mk (HF.out.later hM); obtain ⟨p0, p1, p2, p3, p4⟩ := PlayAt.of HF.out.now.1.1.1.2; have hp := at_ltS HF.out.now.1.1.1.2; obtain ⟨a0, a1, a2, a3, a4, a5, a6⟩ := EdgeAt.of HF.out.now.1.1.2; have ha := at_ltS HF.out.now.1.1.2; obtain ⟨b0, b1, b2, b3, b4, b5, b6⟩ := EdgeAt.of HF.out.now.1.2; have hb := at_ltS HF.out.now.1.2; clear hM)
    | (go_at_call 17; refine (G1.out _).mono ?_; rintro e w5 ⟨rfl, hM⟩; clear p0 p1 p2 p3 p4 hp a0 a1 a2 a3 a4 a5 a6 ha b0 b1 b2 b3 b4 b5 b6 hb; replace HF := Hold.mk (HF.out.later hM); obtain ⟨a0, a1, a2, a3, a4, a5, a6⟩ := EdgeAt.of HF.out.now.1.1.2; have ha := at_ltS HF.out.now.1.1.2; obtain ⟨b0, b1, b2, b3, b4, b5, b6⟩ := EdgeAt.of HF.out.now.1.2; have hb := at_ltS HF.out.now.1.2; clear hM)
    | (go_at_call 37; refine (O1.out _).mono ?_; rintro e w6 ⟨rfl, hM⟩; clear a0 a1 a2 a3 a4 a5 a6 ha b0 b1 b2 b3 b4 b5 b6 hb; have hwl : w.heap.size + 1 + 1 + 1 < w5.heap.size := (Array.getElem?_eq_some_iff.1 HF.out.now.2).1; replace HF := Hold.mk ((HF.out.later (((Mod.refl noB w5).alloc _).trans hM)).and (kept_block (hM.at (World.alloc_heap_new w5 _) id))); have hG5 : w5.heap.size < w6.heap.size := (Array.getElem?_eq_some_iff.1 HF.out.now.2).1; clear hM))
  have HF7 : Hold (Kept (((w6.alloc (.cells (edC t) 27)).alloc (.cells (edC u) 27)).alloc (.cells #[.slice ao ln cp, .int .i64 0] 60)) (fun w' => (((LK p a b r w w' ∧ w'.heap[w5.heap.size]? = some (.cells (gpC g) 32)) ∧ w'.heap[w6.heap.size]? = some (.cells (edC t) 27)) ∧ w'.heap[w6.heap.size + 1]? = some (.cells (edC u) 27)) ∧ DrawAt w' (w6.heap.size + 1 + 1) ao ln cp 0)) := ⟨fun w' hm => by
    rw [allocL3] at hm
    exact ⟨⟨⟨HF.out w' ((allocL_mod noB _ w6).trans hm), at_allocL _ hm 0 _ rfl⟩, at_allocL _ hm 1 _ rfl⟩, at_allocL _ hm 2 _ rfl⟩⟩
  clear HF
  generalize ((w6.alloc (.cells (edC t) 27)).alloc (.cells (edC u) 27)).alloc (.cells #[.slice ao ln cp, .int .i64 0] 60) = W7 at *
  obtain ⟨p0, p1, p2, p3, p4⟩ := PlayAt.of HF7.out.now.1.1.1.1.1.1.1.2; have hp := at_ltS HF7.out.now.1.1.1.1.1.1.1.2
  obtain ⟨t0, t1, t2, t3, t4, t5, t6⟩ := EdgeAt.of HF7.out.now.1.1.2; have ht := at_ltS HF7.out.now.1.1.2; obtain ⟨u0, u1, u2, u3, u4, u5, u6⟩ := EdgeAt.of HF7.out.now.1.2; have hu := at_ltS HF7.out.now.1.2
  go_wp2_with fail
  refine (T1.out _ _ HF7.out.now.1.1.1.1.1.1.1.1 (by omega) HF7.out.now.2).mono ?_
  rintro e w8 ⟨X, Y, Z, k, rfl, hT, hM, hk, hD⟩
  have HQ : Hold (Kept w8 (TQ p a b r g w w5.heap.size (w6.heap.size + 1 + 1) ao ln cp k)) := ⟨tq_kept HF7.out.now.1.1.1 hM (by omega) (by omega) hD⟩
  have HT : Hold (TruthN p g N X Y Z) := ⟨HTR.out _ _ _ hT⟩
  clear hT hM hD p0 p1 p2 p3 p4 hp t0 t1 t2 t3 t4 t5 t6 ht u0 u1 u2 u3 u4 u5 u6 hu HF7
  go_upto_region 12 with fail
  obtain ⟨gd, hgd⟩ : ∃ gd, goodX p X Y Z = gd := ⟨_, rfl⟩
  have H2 : Hold (N = 2 → gd = true) := ⟨by rw [← hgd]; exact HT.out.two⟩
  have H0 : Hold (N = 0 → gd = false) := ⟨by rw [← hgd]; exact HT.out.zero⟩
  rw [hgd]
  clear hgd
  have HQ9 : Hold (Kept (w8.alloc (.cells #[.int .i64 X, .int .i64 Y, .int .i64 Z] 61)) (fun w' => TQ p a b r g w w5.heap.size (w6.heap.size + 1 + 1) ao ln cp k w' ∧ w'.heap[w8.heap.size]? = some (.cells #[.int .i64 X, .int .i64 Y, .int .i64 Z] 61))) := ⟨(HQ.out.later ((Mod.refl noB w8).alloc _)).and (kept_block (World.alloc_heap_new w8 _))⟩
  clear HQ
  generalize (w8.alloc (.cells #[.int .i64 X, .int .i64 Y, .int .i64 Z] 61)) = W9 at *
  go_cut [124] from 104 to 123 (fun s124 wz => s124 = .bool false ∧ wz = W9)
  case first =>
    rcases hN.out with h | h | h
    · have e := H0.out h
      clear HTR HT H2 H0 hN
      subst h; subst e
      go_wp2_with fail
      all_goals go_meet
      all_goals exact ⟨rfl, rfl⟩
    · clear HTR HT H2 H0 hN
      subst h
      cases gd
      all_goals go_wp2_with fail
      all_goals go_meet
      all_goals exact ⟨rfl, rfl⟩
    · have e := H2.out h
      clear HTR HT H2 H0 hN
      subst h; subst e
      go_wp2_with fail
      all_goals go_meet
      all_goals exact ⟨rfl, rfl⟩
  case rest =>
  obtain ⟨rfl, rfl⟩ := hcut
  clear H2 H0
  have g0 := cellsAt HQ9.out.now.1.1.2 0; have g1 := cellsAt HQ9.out.now.1.1.2 1; have g2 := cellsAt HQ9.out.now.1.1.2 2; have g3 := cellsAt HQ9.out.now.1.1.2 3; have g4 := cellsAt HQ9.out.now.1.1.2 4; have g5 := cellsAt HQ9.out.now.1.1.2 5
  have hgl := at_ltS HQ9.out.now.1.1.2
  go_wp2_with fail
  clear g0 g1 g2 g3 g4 g5 hgl
  obtain ⟨TLF, hTLF⟩ : ∃ F : World → Prop, F = fun w' => (TQ p a b r g w w5.heap.size (w6.heap.size + 1 + 1) ao ln cp k w' ∧ w'.heap[w8.heap.size]? = some (.cells #[.int .i64 X, .int .i64 Y, .int .i64 Z] 61)) ∧ w'.heap[wc.heap.size]? = some (.cells #[.int .i64 g.1.1, .int .i64 g.1.2, .int .i64 g.2.1.1, .int .i64 g.2.1.2, .int .i64 g.2.2.1, .int .i64 g.2.2.2] 23) := ⟨_, rfl⟩
  have HL : Hold (Kept (wc.alloc (.cells #[.int .i64 g.1.1, .int .i64 g.1.2, .int .i64 g.2.1.1, .int .i64 g.2.1.2, .int .i64 g.2.2.1, .int .i64 g.2.2.2] 23)) TLF) := ⟨by rw [hTLF]; exact (HQ9.out.later ((Mod.refl noB wc).alloc _)).and (kept_block (World.alloc_heap_new wc _))⟩
  have HFX : Hold (∀ w', TLF w' → w'.heap[w8.heap.size]? = some (.cells #[.int .i64 X, .int .i64 Y, .int .i64 Z] 61) ∧ w'.heap[wc.heap.size]? = some (.cells #[.int .i64 g.1.1, .int .i64 g.1.2, .int .i64 g.2.1.1, .int .i64 g.2.1.2, .int .i64 g.2.2.1, .int .i64 g.2.2.2] 23)) := ⟨fun w' h => by rw [hTLF] at h; exact ⟨h.1.2, h.2⟩⟩
  have HFQ : Hold (∀ w', TLF w' → TQ p a b r g w w5.heap.size (w6.heap.size + 1 + 1) ao ln cp k w') := ⟨fun w' h => by rw [hTLF] at h; exact h.1.1⟩
  clear HQ9 hTLF
  generalize (wc.alloc (.cells #[.int .i64 g.1.1, .int .i64 g.1.2, .int .i64 g.2.1.1, .int .i64 g.2.1.2, .int .i64 g.2.2.1, .int .i64 g.2.2.2] 23)) = W10 at *
  go_loopw [133] (fun i wr => ∃ kk : Int, i = .int .i64 kk ∧ (kk = 0 ∨ kk = 1 ∨ kk = 2 ∨ kk = 3) ∧ Hold (Kept wr TLF)) (fun i _ => 3 - (intOf i).toNat)
  case atStart => exact ⟨0, rfl, .inl rfl, HL⟩
  case round =>
    clear HL
    obtain ⟨kk, rfl, hkk, HK⟩ := hrel
    obtain ⟨xb, sb⟩ := HFX.out _ HK.out.now
    have hxl := at_ltS xb
    have hsl := at_ltS sb
    have c0 := cellsAt xb 0; have c1 := cellsAt xb 1; have c2 := cellsAt xb 2
    have s0 := cellsAt sb 0; have s1 := cellsAt sb 1; have s2 := cellsAt sb 2; have s3 := cellsAt sb 3; have s4 := cellsAt sb 4; have s5 := cellsAt sb 5
    clear xb sb
    rcases hkk with rfl | rfl | rfl | rfl
    · obtain ⟨⟨ga, gb⟩, gc, gd2⟩ := hg.out.1.1
      have hx1 := HT.out.x1; have hx2 := HT.out.x2
      have hd1 : ¬ X < 1000 * g.1.1 := by omega
      have hd2 : ¬ 1000 * g.1.2 < X := by omega
      have hb1 : decide (X < 1000 * g.1.1) = false := decide_eq_false hd1
      have hb2 : decide (1000 * g.1.2 < X) = false := decide_eq_false hd2
      clear hx1 hx2
      go_wp2_with fail
      go_region
      go_wp2_with fail
      go_roundw
      case rel => exact ⟨1, rfl, by omega, ⟨HK.out.later (((Mod.refl noB wr).alloc _).drew)⟩⟩
      case measure => simp [intOf]
    · obtain ⟨⟨ga, gb⟩, gc, gd2⟩ := hg.out.1.2
      have hx1 := HT.out.y1; have hx2 := HT.out.y2
      have hd1 : ¬ Y < 1000 * g.2.1.1 := by omega
      have hd2 : ¬ 1000 * g.2.1.2 < Y := by omega
      have hb1 : decide (Y < 1000 * g.2.1.1) = false := decide_eq_false hd1
      have hb2 : decide (1000 * g.2.1.2 < Y) = false := decide_eq_false hd2
      clear hx1 hx2
      go_wp2_with fail
      go_region
      go_wp2_with fail
      go_roundw
      case rel => exact ⟨2, rfl, by omega, ⟨HK.out.later (((Mod.refl noB wr).alloc _).drew)⟩⟩
      case measure => simp [intOf]
    · obtain ⟨⟨ga, gb⟩, gc, gd2⟩ := hg.out.2
      have hx1 := HT.out.z1; have hx2 := HT.out.z2
      have hd1 : ¬ Z < 1000 * g.2.2.1 := by omega
      have hd2 : ¬ 1000 * g.2.2.2 < Z := by omega
      have hb1 : decide (Z < 1000 * g.2.2.1) = false := decide_eq_false hd1
      have hb2 : decide (1000 * g.2.2.2 < Z) = false := decide_eq_false hd2
      clear hx1 hx2
      go_wp2_with fail
      go_region
      go_wp2_with fail
      go_roundw
      case rel => exact ⟨3, rfl, by omega, ⟨HK.out.later (((Mod.refl noB wr).alloc _).drew)⟩⟩
      case measure => simp [intOf]
    · clear c0 c1 c2 s0 s1 s2 s3 s4 s5 hxl hsl
      have HQ : Hold (Kept wr (TQ p a b r g w w5.heap.size (w6.heap.size + 1 + 1) ao ln cp k)) := ⟨fun w' hm => HFQ.out _ (HK.out w' hm)⟩
      clear HK HFX HFQ
      obtain ⟨a0, a1, a2, a3, a4, a5, a6⟩ := EdgeAt.of HQ.out.now.1.1.1.1.2; have ha := at_ltS HQ.out.now.1.1.1.1.2
      have r0 := cellsAt HQ.out.now.1.1.2 0; have r1 := cellsAt HQ.out.now.1.1.2 1; have hr := at_ltS HQ.out.now.1.1.2
      go_wp2_with fail
      refine (W1.out _).mono ?_
      rintro e w11 ⟨rfl, hM⟩
      replace HQ := Hold.mk (HQ.out.later hM)
      have hdl : w6.heap.size + 1 + 1 < w11.heap.size := at_ltS HQ.out.now.2
      clear hM a0 a1 a2 a3 a4 a5 a6 ha r0 r1 hr
      rcases hE.out with ⟨he, hs⟩ | ⟨he, hs, hr1, hr2, hr3, hn1, hn2, hw1, hw2⟩
      · clear hE HWm
        subst hs
        rcases he with he | he
        all_goals
          subst he
          go_wp2_with (go_at_call 21; refine (alive_any _).mono ?_; rintro e w9 ⟨rfl, hM⟩; replace HQ := Hold.mk (HQ.out.later (((Mod.refl noB w11).alloc _).trans hM)); clear hM)
          go_ret
          exact ⟨rfl, HQ.out.now.1.1.1.1.1.1⟩
      · subst he
        subst hs
        clear hE
        have r0 := cellsAt HQ.out.now.1.1.2 0; have r1 := cellsAt HQ.out.now.1.1.2 1; have hr := at_ltS HQ.out.now.1.1.2
        have HS : Hold (Kept (w11.alloc (.cells (edC ⟨a.k, a.a, ww, a.d⟩) 27)) (fun w' => TQ p a b r g w w5.heap.size (w6.heap.size + 1 + 1) ao ln cp k w' ∧ w'.heap[w11.heap.size]? = some (.cells (edC ⟨a.k, a.a, ww, a.d⟩) 27))) := ⟨(HQ.out.later ((Mod.refl noB w11).alloc _)).and (kept_block (World.alloc_heap_new w11 _))⟩
        clear HQ
        go_upto_region 23 with fail
        clear r0 r1 hr
        generalize (w11.alloc (.cells (edC ⟨a.k, a.a, ww, a.d⟩) 27)) = W12 at *
        have r0 := cellsAt HS.out.now.1.1.1.2 0; have r1 := cellsAt HS.out.now.1.1.1.2 1; have hr := at_ltS HS.out.now.1.1.1.2
        obtain ⟨a0, a1, a2, a3, a4, a5, a6⟩ := EdgeAt.of HS.out.now.1.1.1.1.1.2; have ha := at_ltS HS.out.now.1.1.1.1.1.2
        go_wp2_with fail
        refine (D1.out _ _ _ _ HS.out.now.1.1.1.1.1.1.1 (by omega) HS.out.now.1.2 (by omega) hw1.1 hw1.2).mono ?_
        rintro e w13 ⟨v, v1, v2, rfl, hM, hD⟩
        have HS2 : Hold (Kept w13 (fun w' => TQ p a b r g w w5.heap.size (w6.heap.size + 1 + 1) ao ln cp (k + 1) w' ∧ w'.heap[w11.heap.size]? = some (.cells (edC ⟨a.k, a.a, ww, a.d⟩) 27))) := ⟨(tq_kept HS.out.now.1.1 hM (by omega) (by omega) hD).and (kept_block (hM.at HS.out.now.2 (by omega)))⟩
        clear hM hD r0 r1 hr a0 a1 a2 a3 a4 a5 a6 ha HS
        obtain ⟨⟨wa, wb⟩, we, wf⟩ := hw1.2
        obtain ⟨⟨xa, xb⟩, xc, xd⟩ := hw2
        clear hw1
        rcases hka.out with hka | hka
        · have hk1 : a.k = 1 := hka
          obtain ⟨a0, a1, a2, a3, a4, a5, a6⟩ := EdgeAt.of HS2.out.now.1.1.1.1.1.2; have ha := at_ltS HS2.out.now.1.1.1.1.1.2
          have r0 := cellsAt HS2.out.now.1.1.1.2 0; have r1 := cellsAt HS2.out.now.1.1.1.2 1; have hr := at_ltS HS2.out.now.1.1.1.2
          go_wp2_with fail
          refine (D1.out _ _ _ r HS2.out.now.1.1.1.1.1.1.1 (by omega) HS2.out.now.1.2 (by omega) hr2 ⟨⟨by omega, by omega⟩, by omega, by omega⟩).mono ?_
          rintro e w14 ⟨q, q1, q2, rfl, hM, hD⟩
          have HS3 : Hold (Kept w14 (fun w' => TQ p a b r g w w5.heap.size (w6.heap.size + 1 + 1) ao ln cp (k + 1 + 1) w' ∧ w'.heap[w11.heap.size]? = some (.cells (edC ⟨a.k, a.a, ww, a.d⟩) 27))) := ⟨(tq_kept HS2.out.now.1.1 hM (by omega) (by omega) hD).and (kept_block (hM.at HS2.out.now.2 (by omega)))⟩
          clear hM hD r0 r1 hr a0 a1 a2 a3 a4 a5 a6 ha HS2
          obtain ⟨m1, m2⟩ := mul_bd (a := q) (b := n) (m := 100) (k := 20000) ⟨by omega, by omega⟩ ⟨by omega, by omega⟩
          obtain ⟨l1, l2⟩ := (HWm.out v q v1 v2 q1 q2 hn1 (by trivial)).1 hk1
          obtain ⟨a0, a1, a2, a3, a4, a5, a6⟩ := EdgeAt.of HS3.out.now.1.1.1.1.1.2; have ha := at_ltS HS3.out.now.1.1.1.1.1.2
          obtain ⟨s0, s1, s2, s3, s4, s5, s6⟩ := EdgeAt.of HS3.out.now.2; have hsl := at_ltS HS3.out.now.2
          clear HWm
          go_upto_region 31 with fail
          have HS5 : Hold (Kept (w14.alloc (.cells (edC ⟨1, a.a, a.w, a.d⟩) 27)) (fun w' => (TQ p a b r g w w5.heap.size (w6.heap.size + 1 + 1) ao ln cp (k + 1 + 1) w' ∧ w'.heap[w11.heap.size]? = some (.cells (edC ⟨a.k, a.a, ww, a.d⟩) 27)) ∧ w'.heap[w14.heap.size]? = some (.cells (edC ⟨1, a.a, a.w, a.d⟩) 27))) := ⟨(HS3.out.later ((Mod.refl noB w14).alloc _)).and (kept_block (World.alloc_heap_new w14 _))⟩
          clear a0 a1 a2 a3 a4 a5 a6 ha s0 s1 s2 s3 s4 s5 s6 hsl HS3
          generalize (w14.alloc (.cells (edC ⟨1, a.a, a.w, a.d⟩) 27)) = W15 at *
          obtain ⟨a0, a1, a2, a3, a4, a5, a6⟩ := EdgeAt.of HS5.out.now.1.1.1.1.1.1.2; have ha := at_ltS HS5.out.now.1.1.1.1.1.1.2
          obtain ⟨s0, s1, s2, s3, s4, s5, s6⟩ := EdgeAt.of HS5.out.now.1.2; have hsl := at_ltS HS5.out.now.1.2
          obtain ⟨o0, o1, o2, o3, o4, o5, o6⟩ := EdgeAt.of HS5.out.now.2; have hol := at_ltS HS5.out.now.2
          go_wp2_with (go_at_call 21; refine (alive_any _).mono ?_; rintro e w9 ⟨rfl, hM⟩; replace HS5 := Hold.mk (HS5.out.later hM); clear hM)
          go_ret
          exact ⟨rfl, HS5.out.now.1.1.1.1.1.1.1.1⟩
        · have hk1 : a.k = 2 := hka
          obtain ⟨a0, a1, a2, a3, a4, a5, a6⟩ := EdgeAt.of HS2.out.now.1.1.1.1.1.2; have ha := at_ltS HS2.out.now.1.1.1.1.1.2
          have r0 := cellsAt HS2.out.now.1.1.1.2 0; have r1 := cellsAt HS2.out.now.1.1.1.2 1; have hr := at_ltS HS2.out.now.1.1.1.2
          go_wp2_with fail
          refine (D1.out _ _ _ r HS2.out.now.1.1.1.1.1.1.1 (by omega) HS2.out.now.1.2 (by omega) hr2 ⟨⟨by omega, by omega⟩, by omega, by omega⟩).mono ?_
          rintro e w14 ⟨q, q1, q2, rfl, hM, hD⟩
          have HS3 : Hold (Kept w14 (fun w' => TQ p a b r g w w5.heap.size (w6.heap.size + 1 + 1) ao ln cp (k + 1 + 1) w' ∧ w'.heap[w11.heap.size]? = some (.cells (edC ⟨a.k, a.a, ww, a.d⟩) 27))) := ⟨(tq_kept HS2.out.now.1.1 hM (by omega) (by omega) hD).and (kept_block (hM.at HS2.out.now.2 (by omega)))⟩
          clear hM hD r0 r1 hr a0 a1 a2 a3 a4 a5 a6 ha HS2
          obtain ⟨m1, m2⟩ := mul_bd (a := q) (b := n) (m := 100) (k := 20000) ⟨by omega, by omega⟩ ⟨by omega, by omega⟩
          obtain ⟨l1, l2⟩ := (HWm.out v q v1 v2 q1 q2 hn1 (by trivial)).2 hk1
          obtain ⟨a0, a1, a2, a3, a4, a5, a6⟩ := EdgeAt.of HS3.out.now.1.1.1.1.1.2; have ha := at_ltS HS3.out.now.1.1.1.1.1.2
          obtain ⟨s0, s1, s2, s3, s4, s5, s6⟩ := EdgeAt.of HS3.out.now.2; have hsl := at_ltS HS3.out.now.2
          clear HWm
          go_upto_region 31 with fail
          have HS5 : Hold (Kept (w14.alloc (.cells (edC ⟨2, a.a, a.w, a.d⟩) 27)) (fun w' => (TQ p a b r g w w5.heap.size (w6.heap.size + 1 + 1) ao ln cp (k + 1 + 1) w' ∧ w'.heap[w11.heap.size]? = some (.cells (edC ⟨a.k, a.a, ww, a.d⟩) 27)) ∧ w'.heap[w14.heap.size]? = some (.cells (edC ⟨2, a.a, a.w, a.d⟩) 27))) := ⟨(HS3.out.later ((Mod.refl noB w14).alloc _)).and (kept_block (World.alloc_heap_new w14 _))⟩
          clear a0 a1 a2 a3 a4 a5 a6 ha s0 s1 s2 s3 s4 s5 s6 hsl HS3
          generalize (w14.alloc (.cells (edC ⟨2, a.a, a.w, a.d⟩) 27)) = W15 at *
          obtain ⟨a0, a1, a2, a3, a4, a5, a6⟩ := EdgeAt.of HS5.out.now.1.1.1.1.1.1.2; have ha := at_ltS HS5.out.now.1.1.1.1.1.1.2
          obtain ⟨s0, s1, s2, s3, s4, s5, s6⟩ := EdgeAt.of HS5.out.now.1.2; have hsl := at_ltS HS5.out.now.1.2
          obtain ⟨o0, o1, o2, o3, o4, o5, o6⟩ := EdgeAt.of HS5.out.now.2; have hol := at_ltS HS5.out.now.2
          go_wp2_with (go_at_call 21; refine (alive_any _).mono ?_; rintro e w9 ⟨rfl, hM⟩; replace HS5 := Hold.mk (HS5.out.later hM); clear hM)
          go_ret
          exact ⟨rfl, HS5.out.now.1.1.1.1.1.1.1.1⟩
end
end Go.Proofs.Ytnjbamikfjdofaa

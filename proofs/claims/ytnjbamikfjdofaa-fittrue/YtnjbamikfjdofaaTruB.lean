/- FitTrue: the drawn region of the document's truth, whole; what the document's truth returns. -/
import Derived.Test.YtnjbamikfjdofaaTruRa
set_option linter.unusedSimpArgs false
set_option linter.unusedVariables false
namespace Go.Proofs.Ytnjbamikfjdofaa
section
open Go.RowKit Go.Shelf
variable {p : Ply} {t u : Edg} {db b4 b5 b6 b8 : Nat} {T8 : TypeId} {E : Int} {ao : Option Addr} {n c k0 : Nat} {w w' : World} {D : Nat → Bool}

set_option maxRecDepth 100000 in
set_option maxHeartbeats 8000000 in
theorem region_truth {rid : Nat} {Q : Exit → Act → World → Prop} {a0 : Act} {w0 : World} (hsz : a0.tmps.size = 96)
    (x3 : a0.eval (.tmp 3) = .pointer (some ⟨db, 0, none⟩)) (x4 : a0.eval (.tmp 4) = .pointer (some ⟨b4, 0, none⟩)) (x5 : a0.eval (.tmp 5) = .pointer (some ⟨b5, 0, none⟩)) (x6 : a0.eval (.tmp 6) = .pointer (some ⟨b6, 0, none⟩)) (x8 : a0.eval (.tmp 8) = .pointer (some ⟨b8, 0, none⟩)) (x10 : a0.eval (.tmp 10) = .int .i64 E)
    (h4 : w.heap[b4]? = some (.cells (plC p) 25)) (h5 : w.heap[b5]? = some (.cells (edC t) 27)) (h6 : w.heap[b6]? = some (.cells (edC u) 27))
    (n4 : b4 ≠ db ∧ b4 ≠ b8) (n5 : b5 ≠ db ∧ b5 ≠ b8) (n6 : b6 ≠ db ∧ b6 ≠ b8) (n8 : b8 ≠ db)
    (hR : RawAt w0 ao n) (hw0 : Mod noB w0 w) (hd0 : w0.heap.size ≤ db) (h80 : w0.heap.size ≤ b8) (hk : k0 ≤ 900)
    (ot : Ordered t) (ou : Ordered u) (st : ESmall 20000 t) (su : ESmall 20000 u) (hp : 0 ≤ p.len ∧ p.len ≤ 10000) (hE : 0 ≤ E ∧ E ≤ 2000)
    (h8 : ∃ old : Array Value, old.size = 3 ∧ w.heap[b8]? = some (.cells old T8)) (hd : DrawAt w db ao n c k0)
    (hend : ∀ (vs : Nat → Value) w' cs k, Mod (fun b => b = db ∨ b = b8) w w' → k ≤ 1000 → DrawAt w' db ao n c k → InA p t u E cs → w'.heap[b8]? = some (.cells cs T8) → Q .normal (dsT.foldl (fun a x => a.put (some x.2) (vs x.1)) a0) w') : (Code.region rid opsT.toArray true).wp Try.prog Q a0 w := by
  refine region_pred (by kernel_rfl) dsT (PT p t u db b4 b5 b6 E) (WT p t u db b8 T8 E ao n c k0 w) (by decide) (by decide) ?_ ?_ ?_ ?_ ⟨(Mod.refl _ w).drew, ⟨k0, by omega, hd⟩, fun _ => h8, fun h => by cases h⟩ ?_ ?_
  · intro x hx; rw [hsz]
    simp only [dsT, List.mem_cons, List.not_mem_nil, or_false] at hx
    rcases hx with rfl | rfl | rfl | rfl | rfl | rfl | rfl | rfl | rfl | rfl | rfl | rfl | rfl | rfl | rfl | rfl | rfl | rfl | rfl | rfl | rfl | rfl | rfl | rfl | rfl | rfl | rfl | rfl | rfl | rfl | rfl | rfl | rfl | rfl | rfl | rfl | rfl <;> decide
  · intro i o s ho hs
    have hlt : i < 38 := (List.getElem?_eq_some_iff.1 ho).1
    rcases (by omega : i = 0 ∨ i = 1 ∨ i = 2 ∨ i = 3 ∨ i = 4 ∨ i = 5 ∨ i = 6 ∨ i = 7 ∨ i = 8 ∨ i = 9 ∨ i = 10 ∨ i = 11 ∨ i = 12 ∨ i = 13 ∨ i = 14 ∨ i = 15 ∨ i = 16 ∨ i = 17 ∨ i = 18 ∨ i = 19 ∨ i = 20 ∨ i = 21 ∨ i = 22 ∨ i = 23 ∨ i = 24 ∨ i = 25 ∨ i = 26 ∨ i = 27 ∨ i = 28 ∨ i = 29 ∨ i = 30 ∨ i = 31 ∨ i = 32 ∨ i = 33 ∨ i = 34 ∨ i = 35 ∨ i = 36 ∨ i = 37) with rfl | rfl | rfl | rfl | rfl | rfl | rfl | rfl | rfl | rfl | rfl | rfl | rfl | rfl | rfl | rfl | rfl | rfl | rfl | rfl | rfl | rfl | rfl | rfl | rfl | rfl | rfl | rfl | rfl | rfl | rfl | rfl | rfl | rfl | rfl | rfl | rfl | rfl
    all_goals (obtain rfl := Option.some.inj ho; first | (cases hs; done) | (cases hs; decide))
  · intro i o ho hs
    have hlt : i < 38 := (List.getElem?_eq_some_iff.1 ho).1
    rcases (by omega : i = 0 ∨ i = 1 ∨ i = 2 ∨ i = 3 ∨ i = 4 ∨ i = 5 ∨ i = 6 ∨ i = 7 ∨ i = 8 ∨ i = 9 ∨ i = 10 ∨ i = 11 ∨ i = 12 ∨ i = 13 ∨ i = 14 ∨ i = 15 ∨ i = 16 ∨ i = 17 ∨ i = 18 ∨ i = 19 ∨ i = 20 ∨ i = 21 ∨ i = 22 ∨ i = 23 ∨ i = 24 ∨ i = 25 ∨ i = 26 ∨ i = 27 ∨ i = 28 ∨ i = 29 ∨ i = 30 ∨ i = 31 ∨ i = 32 ∨ i = 33 ∨ i = 34 ∨ i = 35 ∨ i = 36 ∨ i = 37) with rfl | rfl | rfl | rfl | rfl | rfl | rfl | rfl | rfl | rfl | rfl | rfl | rfl | rfl | rfl | rfl | rfl | rfl | rfl | rfl | rfl | rfl | rfl | rfl | rfl | rfl | rfl | rfl | rfl | rfl | rfl | rfl | rfl | rfl | rfl | rfl | rfl | rfl
    all_goals (obtain rfl := Option.some.inj ho; first | (exact absurd hs (by decide)) | decide)
  · intro x hx
    simp only [dsT, List.mem_cons, List.not_mem_nil, or_false] at hx
    rcases hx with rfl | rfl | rfl | rfl | rfl | rfl | rfl | rfl | rfl | rfl | rfl | rfl | rfl | rfl | rfl | rfl | rfl | rfl | rfl | rfl | rfl | rfl | rfl | rfl | rfl | rfl | rfl | rfl | rfl | rfl | rfl | rfl | rfl | rfl | rfl | rfl | rfl <;> decide
  · intro D i o ρ w' hcl ho hD hdep EV EO hW
    have hlt : i < 38 := (List.getElem?_eq_some_iff.1 ho).1
    by_cases c1 : i < 13
    · exact step_truth0 x3 x4 x5 x6 x8 x10 h4 h5 h6 n4 n5 n6 n8 hR hw0 hd0 h80 hk ot ou st su hp hE D i o ρ w' ho hD hdep EV EO hW (by omega) c1
    · by_cases c2 : i < 26
      · exact step_truth1 x3 x4 x5 x6 x8 x10 h4 h5 h6 n4 n5 n6 n8 hR hw0 hd0 h80 hk ot ou st su hp hE D i o ρ w' ho hD hdep EV EO hW (by omega) c2
      · exact step_truth2 x3 x4 x5 x6 x8 x10 h4 h5 h6 n4 n5 n6 n8 hR hw0 hd0 h80 hk ot ou st su hp hE D i o ρ w' ho hD hdep EV EO hW (by omega) hlt
  · intro vs D w' hall hP hW
    obtain ⟨k, hk1, hk2⟩ := hW.d
    have := cntT_le D
    obtain ⟨cs, hA, hc⟩ := hW.x (hall 37 (by decide))
    exact hend vs w' cs k hW.m (by omega) hk2 hA hc
end

section
open Go.RowKit Go.Shelf

theorem thrice (w2 : World) (b : Nat) (x y z : Value) : Mod (fun i => i = b) w2 (((w2.setCell ⟨b, 0, none⟩ x).setCell ⟨b, 1, none⟩ y).setCell ⟨b, 2, none⟩ z).drew :=
  ((((Mod.refl (fun i => i = b) w2).setCell (p := ⟨b, 0, none⟩) (fun _ => rfl) _).setCell (p := ⟨b, 1, none⟩) (fun _ => rfl) _).setCell (p := ⟨b, 2, none⟩) (fun _ => rfl) _).drew

def TrulyPost (p : Ply) (t u : Edg) (db : Nat) (ao : Option Addr) (n c : Nat) (w : World) (e : Ending) (w' : World) : Prop :=
  ∃ x y z k, e = .returned (.tuple #[.agg #[.int .i64 x, .int .i64 y, .int .i64 z], .bool (goodX p x y z)]) ∧ TrueOf p t u x y z ∧ Mod (fun b => b = db) w w' ∧ k ≤ 1000 ∧ DrawAt w' db ao n c k

def OfPost (s : Int × Int) (db : Nat) (ao : Option Addr) (n c k : Nat) (w : World) (e : Ending) (w' : World) : Prop := ∃ r, s.1 ≤ r ∧ r ≤ s.2 ∧ e = .returned (.int .i64 r) ∧ Mod (fun b => b = db) w w' ∧ DrawAt w' db ao n c (k + 1)

set_option maxRecDepth 100000 in
set_option maxHeartbeats 8000000 in
theorem truly_any (p : Ply) (t u : Edg) (w0 w : World) (db : Nat) (ao : Option Addr) (n c k0 : Nat) (hp : playB p = true) (ot : Ordered t) (ou : Ordered u) (st : ESmall 20000 t) (su : ESmall 20000 u)
    (hR : RawAt w0 ao n) (hw : Mod noB w0 w) (hd0 : w0.heap.size ≤ db) (hd : DrawAt w db ao n c k0) (hk : k0 ≤ 100) :
    Calls Try.prog 38 #[plV p, edV t, edV u, .pointer (some ⟨db, 0, none⟩)] w (TrulyPost p t u db ao n c w) := by
  obtain ⟨⟨l1, l2⟩, ⟨s1, s2⟩, ⟨o1, o2⟩, f0, f1, f2⟩ := play_facts hp
  have hdl : db < w.heap.size := (Array.getElem?_eq_some_iff.1 hd).1
  have hwl : w0.heap.size ≤ w.heap.size := hw.size
  have HOf : Hold (∀ w', Mod noB w w' → Calls Try.prog 39 #[.pointer (some ⟨db, 0, none⟩), spV p.damp] w' (OfPost p.damp db ao n c k0 w')) := ⟨fun w' h => of_any w0 w' db ao n c k0 p.damp hR (hw.trans (h.wider fun _ _ e => e)) hd0 (h.at hd id) (by omega) f1 ⟨⟨by omega, by omega⟩, by omega, by omega⟩⟩
  have HR := Hold.mk hR
  have HW := Hold.mk hw
  have HD := Hold.mk hd
  have HO := Hold.mk (And.intro ot ou)
  have HS := Hold.mk (And.intro st su)
  clear hR hw hd ot ou st su
  go_enter Try.func38, Try.ntmps38
  go_wp2_with fail
  refine (HOf.out _ ?_).mono ?_
  · exact ((((Mod.refl noB w).alloc _).alloc _).alloc _).alloc _
  rintro e w1 ⟨r, r1, r2, rfl, hM, hD1⟩
  have HB : Hold ((((Mod (fun b => b = db) w w1 ∧ w1.heap[w.heap.size]? = some (.cells (plC p) 25)) ∧ w1.heap[w.heap.size + 1]? = some (.cells (edC t) 27)) ∧ w1.heap[w.heap.size + 1 + 1]? = some (.cells (edC u) 27)) ∧ w1.heap[w.heap.size + 1 + 1 + 1]? = some (.cells #[.int .i64 0, .int .i64 0, .int .i64 0] 61)) := ⟨by
    rw [allocL4] at hM
    exact ⟨⟨⟨⟨(allocL_mod _ _ w).trans hM, hM.at (allocL_at _ w 0 _ rfl) (by omega)⟩, hM.at (allocL_at _ w 1 _ rfl) (by omega)⟩, hM.at (allocL_at _ w 2 _ rfl) (by omega)⟩, hM.at (allocL_at _ w 3 _ rfl) (by omega)⟩⟩
  have HD1 := Hold.mk hD1
  obtain ⟨p0, p1, p2, p3, p4⟩ := PlayAt.of HB.out.1.1.1.2
  have hb8 : w.heap.size + 1 + 1 + 1 < w1.heap.size := (Array.getElem?_eq_some_iff.1 HB.out.2).1
  clear hM hD1
  go_wp2_with fail
  clear p0 p1 p2 p3 p4
  refine region_truth (p := p) (t := t) (u := u) (db := db) (b4 := w.heap.size) (b5 := w.heap.size + 1) (b6 := w.heap.size + 1 + 1) (b8 := w.heap.size + 1 + 1 + 1) (T8 := 61) (E := 1000 + r) (ao := ao) (n := n) (c := c) (k0 := k0 + 1) (w := w1) (w0 := w0) rfl rfl rfl rfl rfl rfl rfl
    HB.out.1.1.1.2 HB.out.1.1.2 HB.out.1.2 ⟨by omega, by omega⟩ ⟨by omega, by omega⟩ ⟨by omega, by omega⟩ (by omega) HR.out (HW.out.then HB.out.1.1.1.1 (fun i hi e => by omega)) hd0 (by omega) (by omega) HO.out.1 HO.out.2 HS.out.1 HS.out.2 ⟨by omega, by omega⟩ ⟨by omega, by omega⟩ ⟨_, rfl, HB.out.2⟩ HD1.out ?_
  intro vs w2 cs k hm2 hk2 hd2 hA hc
  obtain ⟨A, B, C, A1, A2, B1, B2, C1, C2, rfl⟩ := hA
  have HT : Hold (TrueOf p t u (A * (1000 + r)) (B * (1000 + r)) (C * (1000 + r))) := ⟨r, A, B, C, r1, r2, A1, A2, B1, B2, C1, C2, rfl, rfl, rfl⟩
  have HM : Hold (Mod (fun b => b = db) w w2) := ⟨HB.out.1.1.1.1.then hm2 (fun i hi e => by rcases e with e | e; exact e; omega)⟩
  have HK : Hold (k ≤ 1000 ∧ DrawAt w2 db ao n c k) := ⟨hk2, hd2⟩
  have h4 := hm2.at HB.out.1.1.1.2 (fun e => by omega)
  clear hm2 hk2 hd2 A1 A2 B1 B2 C1 C2
  generalize A * (1000 + r) = X at *
  generalize B * (1000 + r) = Y at *
  generalize C * (1000 + r) = Z at *
  have HC := Hold.mk hc
  obtain ⟨p0, p1, p2, p3, p4⟩ := PlayAt.of h4
  have hp4 : w.heap.size < w2.heap.size := (Array.getElem?_eq_some_iff.1 h4).1
  have hl8 : w.heap.size + 1 + 1 + 1 < w2.heap.size := (Array.getElem?_eq_some_iff.1 hc).1
  have c0 := cellsAt hc 0
  have c1 := cellsAt hc 1
  have c2 := cellsAt hc 2
  have q0 := cells_frozen hc 0
  have q1 := cells_frozen hc 1
  have q2 := cells_frozen hc 2
  clear hc h4
  simp only [dsT, List.foldl_cons, List.foldl_nil]
  have hcase : ¬ X ≤ 1000 * p.slack ∨ (X ≤ 1000 * p.slack ∧ ¬ -1000 * p.slack ≤ X) ∨ (X ≤ 1000 * p.slack ∧ -1000 * p.slack ≤ X ∧ ¬ 0 ≤ Y) ∨ (X ≤ 1000 * p.slack ∧ -1000 * p.slack ≤ X ∧ 0 ≤ Y ∧ ¬ Y ≤ 1000 * p.loose) ∨ (X ≤ 1000 * p.slack ∧ -1000 * p.slack ≤ X ∧ 0 ≤ Y ∧ Y ≤ 1000 * p.loose ∧ ¬ 0 ≤ Z) ∨ (X ≤ 1000 * p.slack ∧ -1000 * p.slack ≤ X ∧ 0 ≤ Y ∧ Y ≤ 1000 * p.loose ∧ 0 ≤ Z ∧ ¬ Z ≤ 1000 * p.loose) ∨ (X ≤ 1000 * p.slack ∧ -1000 * p.slack ≤ X ∧ 0 ≤ Y ∧ Y ≤ 1000 * p.loose ∧ 0 ≤ Z ∧ Z ≤ 1000 * p.loose) := by omega
  rcases hcase with h1 | ⟨h1, h2⟩ | ⟨h1, h2, h3⟩ | ⟨h1, h2, h3, h4⟩ | ⟨h1, h2, h3, h4, h5⟩ | ⟨h1, h2, h3, h4, h5, h6⟩ | ⟨h1, h2, h3, h4, h5, h6⟩
  case' inr.inr.inr.inr.inr.inr =>
    have hg : Hold (goodX p X Y Z = true) := ⟨by unfold goodX; simp only [Bool.and_eq_true, decide_eq_true_eq]; omega⟩
    go_wp2_with fail
    try (have g3 : decide (0 ≤ Y) = false := decide_eq_false (by omega))
    try (have g4 : decide (Y ≤ 1000 * p.loose) = false := decide_eq_false (by omega))
    try (have g5 : decide (0 ≤ Z) = false := decide_eq_false (by omega))
    try (have g6 : decide (Z ≤ 1000 * p.loose) = false := decide_eq_false (by omega))
    go_region
    go_wp2_with fail
    refine bodyPost_ret (v := .tuple #[.agg #[.int .i64 X, .int .i64 Y, .int .i64 Z], .bool true]) (by simp [results, Try.results38, go_sem, *]) rfl ?_
    exact ⟨X, Y, Z, k, by rw [hg.out], HT.out, HM.out.then (thrice _ _ _ _ _) (fun i hi e => by omega), HK.out.1, (thrice _ _ _ _ _).at HK.out.2 (by omega)⟩
  all_goals
    have hg : Hold (goodX p X Y Z = false) := ⟨by unfold goodX; simp only [Bool.and_eq_false_iff, decide_eq_false_iff_not]; omega⟩
    go_wp2_with fail
    try (have g3 : decide (0 ≤ Y) = false := decide_eq_false (by omega))
    try (have g4 : decide (Y ≤ 1000 * p.loose) = false := decide_eq_false (by omega))
    try (have g5 : decide (0 ≤ Z) = false := decide_eq_false (by omega))
    try (have g6 : decide (Z ≤ 1000 * p.loose) = false := decide_eq_false (by omega))
    go_region
    go_wp2_with fail
    refine bodyPost_ret (v := .tuple #[.agg #[.int .i64 X, .int .i64 Y, .int .i64 Z], .bool false]) (by simp [results, Try.results38, go_sem, *]) rfl ?_
    exact ⟨X, Y, Z, k, by rw [hg.out], HT.out, HM.out.then (thrice _ _ _ _ _) (fun i hi e => by omega), HK.out.1, (thrice _ _ _ _ _).at HK.out.2 (by omega)⟩
end
end Go.Proofs.Ytnjbamikfjdofaa

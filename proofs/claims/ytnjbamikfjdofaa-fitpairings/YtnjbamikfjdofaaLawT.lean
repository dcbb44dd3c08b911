/- FitStrokes: after each number of strokes from the first to the last one that Last returns the sides fit always, and after no other one. -/
import Derived.Test.YtnjbamikfjdofaaLastM
import Derived.Test.YtnjbamikfjdofaaRefA
import Derived.Test.YtnjbamikfjdofaaAlive
set_option linter.unusedSimpArgs false
set_option linter.unusedVariables false
namespace Go.Proofs.Ytnjbamikfjdofaa
open Go.RowKit Go.Shelf

theorem at_ltS {w : World} {b : Nat} {o : Obj} (h : w.heap[b]? = some o) : b < w.heap.size := (Array.getElem?_eq_some_iff.1 h).1

/-- What came in lies in four blocks. -/
def LK (p : Ply) (a b : Edg) (r : Int × Int) (w w' : World) : Prop := (((Mod noB w w' ∧ w'.heap[w.heap.size]? = some (.cells (plC p) 25)) ∧ w'.heap[w.heap.size + 1]? = some (.cells (edC a) 27)) ∧ w'.heap[w.heap.size + 1 + 1]? = some (.cells (edC b) 27)) ∧ w'.heap[w.heap.size + 1 + 1 + 1]? = some (.cells #[.int .i64 r.1, .int .i64 r.2] 23)
theorem lk_kept (p : Ply) (a b : Edg) (r : Int × Int) (w : World) : Kept ((((w.alloc (.cells (plC p) 25)).alloc (.cells (edC a) 27)).alloc (.cells (edC b) 27)).alloc (.cells #[.int .i64 r.1, .int .i64 r.2] 23)) (LK p a b r w) := fun w' h => by
  rw [allocL4] at h
  exact ⟨⟨⟨⟨(allocL_mod noB _ w).trans h, at_allocL _ h 0 _ rfl⟩, at_allocL _ h 1 _ rfl⟩, at_allocL _ h 2 _ rfl⟩, at_allocL _ h 3 _ rfl⟩
theorem LK.later {p : Ply} {a b : Edg} {r : Int × Int} {w w1 w2 : World} (h : LK p a b r w w1) (hm : Mod noB w1 w2) : LK p a b r w w2 := ⟨⟨⟨⟨h.1.1.1.1.trans hm, hm.at h.1.1.1.2 id⟩, hm.at h.1.1.2 id⟩, hm.at h.1.2 id⟩, hm.at h.2 id⟩
theorem LK.kept {p : Ply} {a b : Edg} {r : Int × Int} {w w1 : World} (h : LK p a b r w w1) : Kept w1 (LK p a b r w) := fun _ hm => h.later hm

set_option maxRecDepth 100000 in
set_option maxHeartbeats 8000000 in
theorem good_walk (p : Ply) (a b : Edg) (r : Int × Int) (n : Int) (w w1 : World) (hk : LK p a b r w w1) (x y : Edg) (e1 e2 k e3 : Int) (res : Bool)
    (hc : (e1 == 0) = false ∧ res = false ∨ (e1 = 0 ∧ (e2 == 0) = false ∧ res = false) ∨ (e1 = 0 ∧ e2 = 0 ∧ (e3 == 0) = false ∧ res = false) ∨ (e1 = 0 ∧ e2 = 0 ∧ e3 = 0 ∧ res = (k == 2)))
    (W1 : Hold (∀ w, Calls Try.prog 19 #[edV a, spV r, .int .i64 n] w fun e w' => e = .returned (.tuple #[edV x, .int .i64 e1]) ∧ Mod noB w w'))
    (W2 : Hold (∀ w, Calls Try.prog 19 #[edV b, spV r, .int .i64 n] w fun e w' => e = .returned (.tuple #[edV y, .int .i64 e2]) ∧ Mod noB w w'))
    (HK : Hold (∀ w, Calls Try.prog 15 #[plV p, edV x, edV y] w fun e w' => e = .returned (.tuple #[.int .i64 k, .int .i64 e3]) ∧ Mod noB w w')) :
    Calls Try.prog 43 #[.int .i64 n, .pointer (some ⟨w.heap.size + 1, 0, none⟩), .pointer (some ⟨w.heap.size + 1 + 1 + 1, 0, none⟩), .pointer (some ⟨w.heap.size + 1 + 1, 0, none⟩), .pointer (some ⟨w.heap.size, 0, none⟩)] w1 fun e w' => e = .returned (.bool res) ∧ Mod noB w1 w' := by
  have HF := Hold.mk (hk.kept.and (kept_mod w1))
  obtain ⟨a0, a1, a2, a3, a4, a5, a6⟩ := EdgeAt.of HF.out.now.1.1.1.2; have ha := at_ltS HF.out.now.1.1.1.2; obtain ⟨b0, b1, b2, b3, b4, b5, b6⟩ := EdgeAt.of HF.out.now.1.1.2; have hb := at_ltS HF.out.now.1.1.2; have r0 := cellsAt HF.out.now.1.2 0; have r1 := cellsAt HF.out.now.1.2 1; have hr := at_ltS HF.out.now.1.2
  clear hk
  rcases hc with ⟨h1, rfl⟩ | ⟨rfl, h1, rfl⟩ | ⟨rfl, rfl, h1, rfl⟩ | ⟨rfl, rfl, rfl, rfl⟩
  all_goals
    go_enter Try.func43, Try.ntmps43
    go_wp2_with (first
      | (go_at_call 19; have Kx := W1; refine (W1.out _).mono ?_; rintro e w2 ⟨rfl, hM⟩; clear a0 a1 a2 a3 a4 a5 a6 ha b0 b1 b2 b3 b4 b5 b6 hb r0 r1 hr; replace HF := Hold.mk (HF.out.later hM); obtain ⟨p0, p1, p2, p3, p4⟩ := PlayAt.of HF.out.now.1.1.1.1.2; have hp := at_ltS HF.out.now.1.1.1.1.2; obtain ⟨b0, b1, b2, b3, b4, b5, b6⟩ := EdgeAt.of HF.out.now.1.1.2; have hb := at_ltS HF.out.now.1.1.2; have r0 := cellsAt HF.out.now.1.2 0; have r1 := cellsAt HF.out.now.1.2 1; have hr := at_ltS HF.out.now.1.2; clear hM W1 Kx)
      | (go_at_call 19; have Kx := W2; refine (W2.out _).mono ?_; rintro e w3 ⟨rfl, hM⟩; clear p0 p1 p2 p3 p4 hp b0 b1 b2 b3 b4 b5 b6 hb r0 r1 hr; replace HF := Hold.mk ((HF.out.later (((Mod.refl noB w2).alloc _).trans hM)).and (kept_block (hM.at (World.alloc_heap_new w2 _) id))); obtain ⟨p0, p1, p2, p3, p4⟩ := PlayAt.of HF.out.now.1.1.1.1.1.2; have hp := at_ltS HF.out.now.1.1.1.1.1.2; obtain ⟨x0, x1, x2, x3, x4, x5, x6⟩ := EdgeAt.of (e := x) HF.out.now.2; have hx := at_ltS HF.out.now.2; clear hM W2 Kx)
      | (go_at_call 15; refine (HK.out _).mono ?_; rintro e w4 ⟨rfl, hM⟩; clear p0 p1 p2 p3 p4 hp; clear x0 x1 x2 x3 x4 x5 x6 hx; replace HF := Hold.mk (HF.out.later (((Mod.refl noB w3).alloc _).trans hM)); clear hM))
    go_ret
    first
      | exact ⟨rfl, HF.out.now.1.2⟩
      | exact ⟨rfl, HF.out.now.1.2.alloc _⟩
      | exact ⟨rfl, HF.out.now.2.alloc _⟩

theorem good_any (p : Ply) (a b : Edg) (r : Int × Int) (n : Int) (w w1 : World) (hk : LK p a b r w w1) :
    Calls Try.prog 43 #[.int .i64 n, .pointer (some ⟨w.heap.size + 1, 0, none⟩), .pointer (some ⟨w.heap.size + 1 + 1 + 1, 0, none⟩), .pointer (some ⟨w.heap.size + 1 + 1, 0, none⟩), .pointer (some ⟨w.heap.size, 0, none⟩)] w1 fun e w' => e = .returned (.bool (goodE p a b r n)) ∧ Mod noB w1 w' := by
  refine good_walk p a b r n w w1 hk _ _ _ _ (fitE p (wornE a r n).1 (wornE b r n).1).1 (fitE p (wornE a r n).1 (wornE b r n).1).2 _ ?_ ⟨fun w => wornE_any a r n w⟩ ⟨fun w => wornE_any b r n w⟩ ⟨fun w => fit_any p _ _ w⟩
  unfold goodE
  by_cases h1 : (wornE a r n).2 = 0
  · by_cases h2 : (wornE b r n).2 = 0
    · generalize fitE p (wornE a r n).1 (wornE b r n).1 = f
      obtain ⟨k, e⟩ := f
      have hb : ((k, e) == ((2 : Int), (0 : Int))) = (k == 2 && e == 0) := rfl
      rw [h1, h2, hb]
      by_cases h3 : e = 0
      · subst h3
        exact .inr (.inr (.inr ⟨rfl, rfl, rfl, by simp⟩))
      · have h3' : (e == 0) = false := by simpa using h3
        exact .inr (.inr (.inl ⟨rfl, rfl, h3', by simp [h3]⟩))
    · refine .inr (.inl ⟨h1, by simpa using h2, ?_⟩)
      have : ((wornE b r n).2 == 0) = false := by simpa using h2
      rw [this]
      simp
  · have : ((wornE a r n).2 == 0) = false := by simpa using h1
    exact .inl ⟨this, by rw [this]; simp⟩

set_option maxRecDepth 100000 in
set_option maxHeartbeats 4000000 in
theorem strokes_err (p : Ply) (a b : Edg) (r : Int × Int) (s q : Int) (w : World) (er : Int) (he : er = 1 ∨ er = 2 ∨ er = 6)
    (HL : Hold (∀ w, Calls Try.prog 22 #[plV p, edV a, edV b, spV r] w fun e w' => e = .returned (.tuple #[.int .i64 0, .int .i64 0, .int .i64 er]) ∧ Mod noB w w'))
    : Calls Try.prog 9 #[plV p, edV a, edV b, spV r, .int .u16 s, .int .u8 q] w fun e w' => e = .returned (.bool true) ∧ Mod noB w w' := by
  have HF := Hold.mk (lk_kept p a b r w)
  rcases he with rfl | rfl | rfl
  all_goals
    go_enter Try.func9, Try.ntmps9
    go_wp2_with (first
      | (go_at_call 22; have Kx := HL; refine (HL.out _).mono ?_; rintro e w1 ⟨rfl, hM⟩; replace HF := Hold.mk (HF.out.later hM); obtain ⟨p0, p1, p2, p3, p4⟩ := PlayAt.of HF.out.now.1.1.1.2; have hp := at_ltS HF.out.now.1.1.1.2; obtain ⟨a0, a1, a2, a3, a4, a5, a6⟩ := EdgeAt.of HF.out.now.1.1.2; have ha := at_ltS HF.out.now.1.1.2; obtain ⟨b0, b1, b2, b3, b4, b5, b6⟩ := EdgeAt.of HF.out.now.1.2; have hb := at_ltS HF.out.now.1.2; have r0 := cellsAt HF.out.now.2 0; have r1 := cellsAt HF.out.now.2 1; have hr := at_ltS HF.out.now.2; clear hM HL Kx)
      | (go_at_call 21; refine (alive_any _).mono ?_; rintro e w9 ⟨rfl, hM⟩; clear p0 p1 p2 p3 p4 hp a0 a1 a2 a3 a4 a5 a6 ha b0 b1 b2 b3 b4 b5 b6 hb r0 r1 hr; replace HF := Hold.mk (HF.out.later hM); clear hM))
    go_ret
    exact ⟨rfl, HF.out.now.1.1.1.1⟩

set_option maxRecDepth 100000 in
set_option maxHeartbeats 4000000 in
theorem strokes_4 (p : Ply) (a b : Edg) (r : Int × Int) (s q n : Int) (w : World) (hs0 : 0 ≤ s) (hs1 : s ≤ 65535) (hn : s.tmod 20001 = n) (g1 : 0 ≤ r.1) (g2 : r.1 ≤ r.2) (g3 : r.2 ≤ 100)
    (HL : Hold (∀ w, Calls Try.prog 22 #[plV p, edV a, edV b, spV r] w fun e w' => e = .returned (.tuple #[.int .i64 0, .int .i64 0, .int .i64 4]) ∧ Mod noB w w'))
    (HP : Hold (∀ w, Calls Try.prog 35 #[plV p] w fun r w' => r = .returned (.bool true) ∧ Mod noB w w'))
    (G1 : Hold (∀ w1, LK p a b r w w1 → Calls Try.prog 43 #[.int .i64 n, .pointer (some ⟨w.heap.size + 1, 0, none⟩), .pointer (some ⟨w.heap.size + 1 + 1 + 1, 0, none⟩), .pointer (some ⟨w.heap.size + 1 + 1, 0, none⟩), .pointer (some ⟨w.heap.size, 0, none⟩)] w1 fun e w' => e = .returned (.bool false) ∧ Mod noB w1 w'))
    (G2 : Hold (∀ w1, LK p a b r w w1 → Calls Try.prog 43 #[.int .i64 0, .pointer (some ⟨w.heap.size + 1, 0, none⟩), .pointer (some ⟨w.heap.size + 1 + 1 + 1, 0, none⟩), .pointer (some ⟨w.heap.size + 1 + 1, 0, none⟩), .pointer (some ⟨w.heap.size, 0, none⟩)] w1 fun e w' => e = .returned (.bool false) ∧ Mod noB w1 w'))
    (G3 : Hold (∀ w1, LK p a b r w w1 → Calls Try.prog 43 #[.int .i64 20000, .pointer (some ⟨w.heap.size + 1, 0, none⟩), .pointer (some ⟨w.heap.size + 1 + 1 + 1, 0, none⟩), .pointer (some ⟨w.heap.size + 1 + 1, 0, none⟩), .pointer (some ⟨w.heap.size, 0, none⟩)] w1 fun e w' => e = .returned (.bool false) ∧ Mod noB w1 w'))
    : Calls Try.prog 9 #[plV p, edV a, edV b, spV r, .int .u16 s, .int .u8 q] w fun e w' => e = .returned (.bool true) ∧ Mod noB w w' := by
  have HF := Hold.mk (lk_kept p a b r w)
  go_enter Try.func9, Try.ntmps9
  go_wp2_with (first
      | (go_at_call 22; have Kx := HL; refine (HL.out _).mono ?_; rintro e w1 ⟨rfl, hM⟩; replace HF := Hold.mk (HF.out.later hM); obtain ⟨p0, p1, p2, p3, p4⟩ := PlayAt.of HF.out.now.1.1.1.2; have hp := at_ltS HF.out.now.1.1.1.2; obtain ⟨a0, a1, a2, a3, a4, a5, a6⟩ := EdgeAt.of HF.out.now.1.1.2; have ha := at_ltS HF.out.now.1.1.2; obtain ⟨b0, b1, b2, b3, b4, b5, b6⟩ := EdgeAt.of HF.out.now.1.2; have hb := at_ltS HF.out.now.1.2; have r0 := cellsAt HF.out.now.2 0; have r1 := cellsAt HF.out.now.2 1; have hr := at_ltS HF.out.now.2; clear hM HL Kx)
      | (go_at_call 35; refine (HP.out _).mono ?_; rintro e w2 ⟨rfl, hM⟩; clear p0 p1 p2 p3 p4 hp a0 a1 a2 a3 a4 a5 a6 ha b0 b1 b2 b3 b4 b5 b6 hb r0 r1 hr; replace HF := Hold.mk (HF.out.later hM); obtain ⟨p0, p1, p2, p3, p4⟩ := PlayAt.of HF.out.now.1.1.1.2; have hp := at_ltS HF.out.now.1.1.1.2; obtain ⟨a0, a1, a2, a3, a4, a5, a6⟩ := EdgeAt.of HF.out.now.1.1.2; have ha := at_ltS HF.out.now.1.1.2; obtain ⟨b0, b1, b2, b3, b4, b5, b6⟩ := EdgeAt.of HF.out.now.1.2; have hb := at_ltS HF.out.now.1.2; have r0 := cellsAt HF.out.now.2 0; have r1 := cellsAt HF.out.now.2 1; have hr := at_ltS HF.out.now.2; clear hM)
      | (go_at_call 43; have Kx := G1; refine (G1.out _ HF.out.now).mono ?_; rintro e w3 ⟨rfl, hM⟩; clear p0 p1 p2 p3 p4 hp a0 a1 a2 a3 a4 a5 a6 ha b0 b1 b2 b3 b4 b5 b6 hb r0 r1 hr; replace HF := Hold.mk (HF.out.later hM); obtain ⟨p0, p1, p2, p3, p4⟩ := PlayAt.of HF.out.now.1.1.1.2; have hp := at_ltS HF.out.now.1.1.1.2; obtain ⟨a0, a1, a2, a3, a4, a5, a6⟩ := EdgeAt.of HF.out.now.1.1.2; have ha := at_ltS HF.out.now.1.1.2; obtain ⟨b0, b1, b2, b3, b4, b5, b6⟩ := EdgeAt.of HF.out.now.1.2; have hb := at_ltS HF.out.now.1.2; have r0 := cellsAt HF.out.now.2 0; have r1 := cellsAt HF.out.now.2 1; have hr := at_ltS HF.out.now.2; clear hM G1 Kx)
      | (go_at_call 43; have Kx := G2; refine (G2.out _ HF.out.now).mono ?_; rintro e w3 ⟨rfl, hM⟩; clear p0 p1 p2 p3 p4 hp a0 a1 a2 a3 a4 a5 a6 ha b0 b1 b2 b3 b4 b5 b6 hb r0 r1 hr; replace HF := Hold.mk (HF.out.later hM); obtain ⟨p0, p1, p2, p3, p4⟩ := PlayAt.of HF.out.now.1.1.1.2; have hp := at_ltS HF.out.now.1.1.1.2; obtain ⟨a0, a1, a2, a3, a4, a5, a6⟩ := EdgeAt.of HF.out.now.1.1.2; have ha := at_ltS HF.out.now.1.1.2; obtain ⟨b0, b1, b2, b3, b4, b5, b6⟩ := EdgeAt.of HF.out.now.1.2; have hb := at_ltS HF.out.now.1.2; have r0 := cellsAt HF.out.now.2 0; have r1 := cellsAt HF.out.now.2 1; have hr := at_ltS HF.out.now.2; clear hM G2 Kx)
      | (go_at_call 43; have Kx := G3; refine (G3.out _ HF.out.now).mono ?_; rintro e w3 ⟨rfl, hM⟩; clear p0 p1 p2 p3 p4 hp a0 a1 a2 a3 a4 a5 a6 ha b0 b1 b2 b3 b4 b5 b6 hb r0 r1 hr; replace HF := Hold.mk (HF.out.later hM); obtain ⟨p0, p1, p2, p3, p4⟩ := PlayAt.of HF.out.now.1.1.1.2; have hp := at_ltS HF.out.now.1.1.1.2; obtain ⟨a0, a1, a2, a3, a4, a5, a6⟩ := EdgeAt.of HF.out.now.1.1.2; have ha := at_ltS HF.out.now.1.1.2; obtain ⟨b0, b1, b2, b3, b4, b5, b6⟩ := EdgeAt.of HF.out.now.1.2; have hb := at_ltS HF.out.now.1.2; have r0 := cellsAt HF.out.now.2 0; have r1 := cellsAt HF.out.now.2 1; have hr := at_ltS HF.out.now.2; clear hM G3 Kx)
      | (go_at_call 21; refine (alive_any _).mono ?_; rintro e w9 ⟨rfl, hM⟩; clear p0 p1 p2 p3 p4 hp a0 a1 a2 a3 a4 a5 a6 ha b0 b1 b2 b3 b4 b5 b6 hb r0 r1 hr; replace HF := Hold.mk (HF.out.later hM); clear hM))
  go_ret
  exact ⟨rfl, HF.out.now.1.1.1.1⟩
end Go.Proofs.Ytnjbamikfjdofaa

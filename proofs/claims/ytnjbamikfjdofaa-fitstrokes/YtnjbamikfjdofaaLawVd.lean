/- FitStrokes: the walk where there are numbers of strokes, from 0 to the last. -/
import Derived.Test.YtnjbamikfjdofaaLawT
set_option linter.unusedSimpArgs false
set_option linter.unusedVariables false
namespace Go.Proofs.Ytnjbamikfjdofaa
open Go.RowKit Go.Shelf

set_option maxRecDepth 100000 in
set_option maxHeartbeats 16000000 in
theorem strokes_d (p : Ply) (a b : Edg) (r : Int × Int) (s q n m u v X : Int) (bn : Bool) (w : World) (hs0 : 0 ≤ s) (hs1 : s ≤ 65535) (hn : s.tmod 20001 = n) (hq0 : 0 ≤ q) (hq1 : q ≤ 255) (hm : q.tmod 3 = m) (m0 : 0 ≤ m) (m2 : m ≤ 2) (g1 : 0 ≤ r.1) (g2 : r.1 ≤ r.2) (g3 : r.2 ≤ 100)
     (f1 : 0 ≤ 20000) (u0 : u ≤ 0) (v0 : 20000 ≤ v)
    (hb : n < 0 ∧ bn = false ∨ (0 ≤ n ∧ n ≤ 20000) ∧ bn = true ∨ (0 ≤ n ∧ 20000 < n) ∧ bn = false)
    (hx : r.1 + m < r.2 ∧ X = r.1 + m ∨ r.2 ≤ r.1 + m ∧ X = r.2)
    (HL : Hold (∀ w, Calls Try.prog 22 #[plV p, edV a, edV b, spV r] w fun e w' => e = .returned (.tuple #[.int .i64 0, .int .i64 20000, .int .i64 0]) ∧ Mod noB w w'))
    (HL2 : Hold (∀ w, Calls Try.prog 22 #[plV p, edV a, edV b, spV (X, r.2)] w fun e w' => e = .returned (.tuple #[.int .i64 u, .int .i64 v, .int .i64 0]) ∧ Mod noB w w'))
    (HP : Hold (∀ w, Calls Try.prog 35 #[plV p] w fun r w' => r = .returned (.bool true) ∧ Mod noB w w'))
    (G1 : Hold (∀ w1, LK p a b r w w1 → Calls Try.prog 43 #[.int .i64 0, .pointer (some ⟨w.heap.size + 1, 0, none⟩), .pointer (some ⟨w.heap.size + 1 + 1 + 1, 0, none⟩), .pointer (some ⟨w.heap.size + 1 + 1, 0, none⟩), .pointer (some ⟨w.heap.size, 0, none⟩)] w1 fun e w' => e = .returned (.bool true) ∧ Mod noB w1 w'))
    (G2 : Hold (∀ w1, LK p a b r w w1 → Calls Try.prog 43 #[.int .i64 20000, .pointer (some ⟨w.heap.size + 1, 0, none⟩), .pointer (some ⟨w.heap.size + 1 + 1 + 1, 0, none⟩), .pointer (some ⟨w.heap.size + 1 + 1, 0, none⟩), .pointer (some ⟨w.heap.size, 0, none⟩)] w1 fun e w' => e = .returned (.bool true) ∧ Mod noB w1 w'))
    (G3 : Hold (∀ w1, LK p a b r w w1 → Calls Try.prog 43 #[.int .i64 n, .pointer (some ⟨w.heap.size + 1, 0, none⟩), .pointer (some ⟨w.heap.size + 1 + 1 + 1, 0, none⟩), .pointer (some ⟨w.heap.size + 1 + 1, 0, none⟩), .pointer (some ⟨w.heap.size, 0, none⟩)] w1 fun e w' => e = .returned (.bool bn) ∧ Mod noB w1 w')) :
    Calls Try.prog 9 #[plV p, edV a, edV b, spV r, .int .u16 s, .int .u8 q] w fun e w' => e = .returned (.bool true) ∧ Mod noB w w' := by
  have HF := Hold.mk (lk_kept p a b r w)
  have hn0 : 0 ≤ n := by rw [← hn]; exact Int.tmod_nonneg _ hs0
  have hn1 : n ≤ 20000 := by rw [← hn, Int.tmod_eq_emod_of_nonneg hs0]; omega
  rcases hx with ⟨hx1, rfl⟩ | ⟨hx1, rfl⟩
  all_goals rcases hb with ⟨hb1, rfl⟩ | ⟨⟨hb1, hb2⟩, rfl⟩ | ⟨⟨hb1, hb2⟩, rfl⟩
  all_goals try (exfalso; omega)
  all_goals
    go_enter Try.func9, Try.ntmps9
    go_wp2_with (first
      | (go_at_call 22; have Kx := HL; refine (HL.out _).mono ?_; rintro e w1 ⟨rfl, hM⟩; replace HF := Hold.mk (HF.out.later hM); obtain ⟨p0, p1, p2, p3, p4⟩ := PlayAt.of HF.out.now.1.1.1.2; have hp := at_ltS HF.out.now.1.1.1.2; obtain ⟨a0, a1, a2, a3, a4, a5, a6⟩ := EdgeAt.of HF.out.now.1.1.2; have ha := at_ltS HF.out.now.1.1.2; obtain ⟨b0, b1, b2, b3, b4, b5, b6⟩ := EdgeAt.of HF.out.now.1.2; have hb := at_ltS HF.out.now.1.2; have r0 := cellsAt HF.out.now.2 0; have r1 := cellsAt HF.out.now.2 1; have hr := at_ltS HF.out.now.2; clear hM HL Kx)
      | (go_at_call 35; refine (HP.out _).mono ?_; rintro e w2 ⟨rfl, hM⟩; clear p0 p1 p2 p3 p4 hp a0 a1 a2 a3 a4 a5 a6 ha b0 b1 b2 b3 b4 b5 b6 hb r0 r1 hr; replace HF := Hold.mk (HF.out.later hM); obtain ⟨p0, p1, p2, p3, p4⟩ := PlayAt.of HF.out.now.1.1.1.2; have hp := at_ltS HF.out.now.1.1.1.2; obtain ⟨a0, a1, a2, a3, a4, a5, a6⟩ := EdgeAt.of HF.out.now.1.1.2; have ha := at_ltS HF.out.now.1.1.2; obtain ⟨b0, b1, b2, b3, b4, b5, b6⟩ := EdgeAt.of HF.out.now.1.2; have hb := at_ltS HF.out.now.1.2; have r0 := cellsAt HF.out.now.2 0; have r1 := cellsAt HF.out.now.2 1; have hr := at_ltS HF.out.now.2; clear hM)
      | (go_at_call 43; have Kx := G1; refine (G1.out _ HF.out.now).mono ?_; rintro e w3 ⟨rfl, hM⟩; clear p0 p1 p2 p3 p4 hp a0 a1 a2 a3 a4 a5 a6 ha b0 b1 b2 b3 b4 b5 b6 hb r0 r1 hr; replace HF := Hold.mk (HF.out.later hM); obtain ⟨p0, p1, p2, p3, p4⟩ := PlayAt.of HF.out.now.1.1.1.2; have hp := at_ltS HF.out.now.1.1.1.2; obtain ⟨a0, a1, a2, a3, a4, a5, a6⟩ := EdgeAt.of HF.out.now.1.1.2; have ha := at_ltS HF.out.now.1.1.2; obtain ⟨b0, b1, b2, b3, b4, b5, b6⟩ := EdgeAt.of HF.out.now.1.2; have hb := at_ltS HF.out.now.1.2; have r0 := cellsAt HF.out.now.2 0; have r1 := cellsAt HF.out.now.2 1; have hr := at_ltS HF.out.now.2; clear hM G1 Kx)
      | (go_at_call 43; have Kx := G2; refine (G2.out _ HF.out.now).mono ?_; rintro e w3 ⟨rfl, hM⟩; clear p0 p1 p2 p3 p4 hp a0 a1 a2 a3 a4 a5 a6 ha b0 b1 b2 b3 b4 b5 b6 hb r0 r1 hr; replace HF := Hold.mk (HF.out.later hM); obtain ⟨p0, p1, p2, p3, p4⟩ := PlayAt.of HF.out.now.1.1.1.2; have hp := at_ltS HF.out.now.1.1.1.2; obtain ⟨a0, a1, a2, a3, a4, a5, a6⟩ := EdgeAt.of HF.out.now.1.1.2; have ha := at_ltS HF.out.now.1.1.2; obtain ⟨b0, b1, b2, b3, b4, b5, b6⟩ := EdgeAt.of HF.out.now.1.2; have hb := at_ltS HF.out.now.1.2; have r0 := cellsAt HF.out.now.2 0; have r1 := cellsAt HF.out.now.2 1; have hr := at_ltS HF.out.now.2; clear hM G2 Kx)
      | (go_at_call 43; have Kx := G3; refine (G3.out _ HF.out.now).mono ?_; rintro e w3 ⟨rfl, hM⟩; clear p0 p1 p2 p3 p4 hp a0 a1 a2 a3 a4 a5 a6 ha b0 b1 b2 b3 b4 b5 b6 hb r0 r1 hr; replace HF := Hold.mk (HF.out.later hM); obtain ⟨p0, p1, p2, p3, p4⟩ := PlayAt.of HF.out.now.1.1.1.2; have hp := at_ltS HF.out.now.1.1.1.2; obtain ⟨a0, a1, a2, a3, a4, a5, a6⟩ := EdgeAt.of HF.out.now.1.1.2; have ha := at_ltS HF.out.now.1.1.2; obtain ⟨b0, b1, b2, b3, b4, b5, b6⟩ := EdgeAt.of HF.out.now.1.2; have hb := at_ltS HF.out.now.1.2; have r0 := cellsAt HF.out.now.2 0; have r1 := cellsAt HF.out.now.2 1; have hr := at_ltS HF.out.now.2; clear hM G3 Kx)
      | (go_at_call 31; refine (span_any _ _ _).mono ?_; rintro e w4 ⟨rfl, hM⟩; clear p0 p1 p2 p3 p4 hp a0 a1 a2 a3 a4 a5 a6 ha b0 b1 b2 b3 b4 b5 b6 hb r0 r1 hr; replace HF := Hold.mk (HF.out.later hM); obtain ⟨p0, p1, p2, p3, p4⟩ := PlayAt.of HF.out.now.1.1.1.2; have hp := at_ltS HF.out.now.1.1.1.2; obtain ⟨a0, a1, a2, a3, a4, a5, a6⟩ := EdgeAt.of HF.out.now.1.1.2; have ha := at_ltS HF.out.now.1.1.2; obtain ⟨b0, b1, b2, b3, b4, b5, b6⟩ := EdgeAt.of HF.out.now.1.2; have hb := at_ltS HF.out.now.1.2; have r0 := cellsAt HF.out.now.2 0; have r1 := cellsAt HF.out.now.2 1; have hr := at_ltS HF.out.now.2; clear hM)
      | (go_at_call 22; refine (HL2.out _).mono ?_; rintro e w5 ⟨rfl, hM⟩; clear p0 p1 p2 p3 p4 hp a0 a1 a2 a3 a4 a5 a6 ha b0 b1 b2 b3 b4 b5 b6 hb r0 r1 hr; replace HF := Hold.mk (HF.out.later (((Mod.refl noB w4).alloc _).trans hM)); clear hM HL2)
      | (go_at_call 21; refine (alive_any _).mono ?_; rintro e w9 ⟨rfl, hM⟩; replace HF := Hold.mk (HF.out.later hM); clear hM))
    go_ret
    exact ⟨rfl, HF.out.now.1.1.1.1⟩
end Go.Proofs.Ytnjbamikfjdofaa

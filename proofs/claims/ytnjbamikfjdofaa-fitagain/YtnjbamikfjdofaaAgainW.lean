/- FitAgain: the walk. -/
import Derived.Test.YtnjbamikfjdofaaAlive
import Derived.Test.YtnjbamikfjdofaaRefA
import Derived.Test.YtnjbamikfjdofaaMono
set_option linter.unusedSimpArgs false
set_option linter.unusedVariables false
namespace Go.Proofs.Ytnjbamikfjdofaa
open Go.RowKit Go.Shelf

/-- A side and a span lie in two blocks: in all later worlds. -/
theorem pair_kept (s : Edg) (r : Int × Int) (w : World) : Kept ((w.alloc (.cells (edC s) 27)).alloc (.cells #[.int .i64 r.1, .int .i64 r.2] 23)) (fun w' => (Mod noB w w' ∧ w'.heap[w.heap.size]? = some (.cells (edC s) 27)) ∧ w'.heap[w.heap.size + 1]? = some (.cells #[.int .i64 r.1, .int .i64 r.2] 23)) := fun w' h => by
  rw [allocL2] at h
  exact ⟨⟨(allocL_mod noB _ w).trans h, at_allocL _ h 0 _ rfl⟩, at_allocL _ h 1 _ rfl⟩

theorem lt_of_at {w : World} {b : Nat} {o : Obj} (h : w.heap[b]? = some o) : b < w.heap.size := (Array.getElem?_eq_some_iff.1 h).1

set_option maxRecDepth 100000 in
set_option maxHeartbeats 1000000 in
theorem again_out (s : Edg) (r : Int × Int) (a b : Int) (w : World) (ha : -9223372036854775808 ≤ a ∧ a ≤ 9223372036854775807) (h : a < 0 ∨ b < 0 ∨ 20000 < a ∨ 20000 - a < b) :
    Calls Try.prog 10 #[edV s, spV r, .int .i64 a, .int .i64 b] w fun e w' => e = .returned (.bool true) ∧ Mod noB w w' := by
  have HF := Hold.mk (pair_kept s r w)
  obtain ⟨l1, l2⟩ := ha
  by_cases h1 : a < 0
  · clear h
    go_enter Try.func10, Try.ntmps10
    go_wp2_with (go_at_call 21; refine (alive_any _).mono ?_; rintro e w1 ⟨rfl, hM⟩; have HF := Hold.mk (HF.out.later hM); clear hM)
    go_ret
    exact ⟨rfl, HF.out.now.1.1⟩
  · by_cases h2 : b < 0
    · clear h
      go_enter Try.func10, Try.ntmps10
      go_wp2_with (go_at_call 21; refine (alive_any _).mono ?_; rintro e w1 ⟨rfl, hM⟩; have HF := Hold.mk (HF.out.later hM); clear hM)
      go_ret
      exact ⟨rfl, HF.out.now.1.1⟩
    · by_cases h3 : 20000 < a
      · clear h
        go_enter Try.func10, Try.ntmps10
        go_wp2_with (go_at_call 21; refine (alive_any _).mono ?_; rintro e w1 ⟨rfl, hM⟩; have HF := Hold.mk (HF.out.later hM); clear hM)
        go_ret
        exact ⟨rfl, HF.out.now.1.1⟩
      · have h4 : 20000 - a < b := by omega
        clear h
        go_enter Try.func10, Try.ntmps10
        go_wp2_with (go_at_call 21; refine (alive_any _).mono ?_; rintro e w1 ⟨rfl, hM⟩; have HF := Hold.mk (HF.out.later hM); clear hM)
        go_ret
        exact ⟨rfl, HF.out.now.1.1⟩

set_option maxRecDepth 100000 in
set_option maxHeartbeats 2000000 in
theorem again_err (s : Edg) (r : Int × Int) (a b : Int) (w : World) (g1 : ¬ a < 0) (g2 : ¬ b < 0) (g3 : ¬ 20000 < a) (g4 : ¬ 20000 - a < b) (er : Int) (sb : Bool)
    (he : er = 1 ∧ sb = false ∨ er = 2 ∧ sb = true ∨ er = 6 ∧ sb = true)
    (HW : Hold (∀ w, Calls Try.prog 19 #[edV s, spV r, .int .i64 0] w fun e w' => e = .returned (.tuple #[edV zeroE, .int .i64 er]) ∧ Mod noB w w'))
    (HS : Hold (∀ w, Calls Try.prog 36 #[edV s] w fun e w' => e = .returned (.bool sb) ∧ Mod noB w w')) :
    Calls Try.prog 10 #[edV s, spV r, .int .i64 a, .int .i64 b] w fun e w' => e = .returned (.bool true) ∧ Mod noB w w' := by
  have HF := Hold.mk (pair_kept s r w)
  rcases he with ⟨rfl, rfl⟩ | ⟨rfl, rfl⟩ | ⟨rfl, rfl⟩
  all_goals
    go_enter Try.func10, Try.ntmps10
    go_wp2_with (first
      | (go_at_call 19; refine (HW.out _).mono ?_; rintro e w1 ⟨rfl, hM⟩; have HF := Hold.mk (HF.out.later hM); obtain ⟨s0, s1, s2, s3, s4, s5, s6⟩ := EdgeAt.of HF.out.now.1.2; have hz := lt_of_at HF.out.now.1.2; clear hM)
      | (go_at_call 36; refine (HS.out _).mono ?_; rintro e w2 ⟨rfl, hM⟩; have HF := Hold.mk (HF.out.later (((Mod.refl noB _).alloc _).trans hM)); clear hM s0 s1 s2 s3 s4 s5 s6 hz)
      | (go_at_call 21; refine (alive_any _).mono ?_; rintro e w1 ⟨rfl, hM⟩; have HF := Hold.mk (HF.out.later hM); clear hM))
    go_ret
    exact ⟨rfl, HF.out.now.1.1⟩

set_option maxRecDepth 100000 in
set_option maxHeartbeats 4000000 in
/-- The first strokes alone are too many. -/
theorem again_11 (s : Edg) (r : Int × Int) (a b : Int) (w : World) (g1 : ¬ a < 0) (g2 : ¬ b < 0) (g3 : ¬ 20000 < a) (g4 : ¬ 20000 - a < b) (x1 x2 : Edg)
    (HW0 : Hold (∀ w, Calls Try.prog 19 #[edV s, spV r, .int .i64 0] w fun e w' => e = .returned (.tuple #[edV s, .int .i64 0]) ∧ Mod noB w w'))
    (HW1 : Hold (∀ w, Calls Try.prog 19 #[edV s, spV r, .int .i64 a] w fun e w' => e = .returned (.tuple #[edV x1, .int .i64 11]) ∧ Mod noB w w'))
    (HW2 : Hold (∀ w, Calls Try.prog 19 #[edV s, spV r, .int .i64 (a + b)] w fun e w' => e = .returned (.tuple #[edV x2, .int .i64 11]) ∧ Mod noB w w')) :
    Calls Try.prog 10 #[edV s, spV r, .int .i64 a, .int .i64 b] w fun e w' => e = .returned (.bool true) ∧ Mod noB w w' := by
  have HF := Hold.mk (pair_kept s r w)
  have K0 := Hold.mk trivial
  go_enter Try.func10, Try.ntmps10
  go_wp2_with (first
    | (go_at_call 19; have Kx := K0; refine (HW0.out _).mono ?_; rintro e w1 ⟨rfl, hM⟩; have HF := Hold.mk (HF.out.later hM); obtain ⟨s0, s1, s2, s3, s4, s5, s6⟩ := EdgeAt.of HF.out.now.1.2; have r0 := cellsAt HF.out.now.2 0; have r1 := cellsAt HF.out.now.2 1; have hz := lt_of_at HF.out.now.1.2; have hy := lt_of_at HF.out.now.2; clear hM K0 Kx; have K1 := Hold.mk trivial)
    | (go_at_call 19; have Kx := K1; refine (HW1.out _).mono ?_; rintro e w2 ⟨rfl, hM⟩; clear s0 s1 s2 s3 s4 s5 s6 r0 r1 hz hy; have HF := Hold.mk (HF.out.later (((Mod.refl noB _).alloc _).trans hM)); obtain ⟨s0, s1, s2, s3, s4, s5, s6⟩ := EdgeAt.of HF.out.now.1.2; have r0 := cellsAt HF.out.now.2 0; have r1 := cellsAt HF.out.now.2 1; have hz := lt_of_at HF.out.now.1.2; have hy := lt_of_at HF.out.now.2; clear hM K1 Kx; have K2 := Hold.mk trivial)
    | (go_at_call 19; have Kx := K2; refine (HW2.out _).mono ?_; rintro e w3 ⟨rfl, hM⟩; clear s0 s1 s2 s3 s4 s5 s6 r0 r1 hz hy; have HF := Hold.mk (HF.out.later (((Mod.refl noB _).alloc _).trans hM)); clear hM K2 Kx)
    | (go_at_call 21; refine (alive_any _).mono ?_; rintro e w4 ⟨rfl, hM⟩; have HF := Hold.mk (HF.out.later (((Mod.refl noB _).alloc _).trans hM)); clear hM))
  go_ret
  exact ⟨rfl, HF.out.now.1.1⟩

set_option maxRecDepth 100000 in
set_option maxHeartbeats 4000000 in
/-- All strokes at once are too many, and so are the second ones. -/
theorem again_both (s : Edg) (r : Int × Int) (a b : Int) (w : World) (g1 : ¬ a < 0) (g2 : ¬ b < 0) (g3 : ¬ 20000 < a) (g4 : ¬ 20000 - a < b) (x1 x2 x3 : Edg)
    (HW0 : Hold (∀ w, Calls Try.prog 19 #[edV s, spV r, .int .i64 0] w fun e w' => e = .returned (.tuple #[edV s, .int .i64 0]) ∧ Mod noB w w'))
    (HW1 : Hold (∀ w, Calls Try.prog 19 #[edV s, spV r, .int .i64 a] w fun e w' => e = .returned (.tuple #[edV x1, .int .i64 0]) ∧ Mod noB w w'))
    (HW2 : Hold (∀ w, Calls Try.prog 19 #[edV s, spV r, .int .i64 (a + b)] w fun e w' => e = .returned (.tuple #[edV x2, .int .i64 11]) ∧ Mod noB w w'))
    (HW3 : Hold (∀ w, Calls Try.prog 19 #[edV x1, spV r, .int .i64 b] w fun e w' => e = .returned (.tuple #[edV x3, .int .i64 11]) ∧ Mod noB w w')) :
    Calls Try.prog 10 #[edV s, spV r, .int .i64 a, .int .i64 b] w fun e w' => e = .returned (.bool true) ∧ Mod noB w w' := by
  have HF := Hold.mk (pair_kept s r w)
  have K0 := Hold.mk trivial
  go_enter Try.func10, Try.ntmps10
  go_wp2_with (first
    | (go_at_call 19; have Kx := K0; refine (HW0.out _).mono ?_; rintro e w1 ⟨rfl, hM⟩; have HF := Hold.mk (HF.out.later hM); obtain ⟨s0, s1, s2, s3, s4, s5, s6⟩ := EdgeAt.of HF.out.now.1.2; have r0 := cellsAt HF.out.now.2 0; have r1 := cellsAt HF.out.now.2 1; have hz := lt_of_at HF.out.now.1.2; have hy := lt_of_at HF.out.now.2; clear hM K0 Kx; have K1 := Hold.mk trivial)
    | (go_at_call 19; have Kx := K1; refine (HW1.out _).mono ?_; rintro e w2 ⟨rfl, hM⟩; clear s0 s1 s2 s3 s4 s5 s6 r0 r1 hz hy; have HF := Hold.mk (HF.out.later (((Mod.refl noB _).alloc _).trans hM)); obtain ⟨s0, s1, s2, s3, s4, s5, s6⟩ := EdgeAt.of HF.out.now.1.2; have r0 := cellsAt HF.out.now.2 0; have r1 := cellsAt HF.out.now.2 1; have hz := lt_of_at HF.out.now.1.2; have hy := lt_of_at HF.out.now.2; clear hM K1 Kx; have K2 := Hold.mk trivial)
    | (go_at_call 19; have Kx := K2; refine (HW2.out _).mono ?_; rintro e w3 ⟨rfl, hM⟩; clear s0 s1 s2 s3 s4 s5 s6 r0 r1 hz hy; have HF := Hold.mk ((HF.out.later (((Mod.refl noB _).alloc _).trans hM)).and (kept_block (hM.at (World.alloc_heap_new w2 _) id))); obtain ⟨x0, x1', x2', x3', x4, x5, x6⟩ := EdgeAt.of HF.out.now.2; have r0 := cellsAt HF.out.now.1.2 0; have r1 := cellsAt HF.out.now.1.2 1; have hy := lt_of_at HF.out.now.1.2; have hx := lt_of_at HF.out.now.2; clear hM K2 Kx; have K3 := Hold.mk trivial)
    | (go_at_call 19; have Kx := K3; refine (HW3.out _).mono ?_; rintro e w4 ⟨rfl, hM⟩; clear x0 x1' x2' x3' x4 x5 x6 r0 r1 hy hx; have HF := Hold.mk ((HF.out.later (((Mod.refl noB _).alloc _).trans hM)).and (kept_block (hM.at (World.alloc_heap_new w3 _) id))); obtain ⟨_, _, _, y3, y4, _, _⟩ := EdgeAt.of HF.out.now.2; obtain ⟨s0, _, _, s3, s4, _, _⟩ := EdgeAt.of HF.out.now.1.1.1.2; have hz := lt_of_at HF.out.now.1.1.1.2; have hy := lt_of_at HF.out.now.2; clear hM K3 Kx)
    | (go_at_call 21; refine (alive_any _).mono ?_; rintro e w5 ⟨rfl, hM⟩; have HF := Hold.mk (HF.out.later (((Mod.refl noB _).alloc _).trans hM)); clear hM))
  go_ret
  exact ⟨rfl, HF.out.now.1.1.1.1⟩

set_option maxRecDepth 100000 in
set_option maxHeartbeats 4000000 in
/-- The second strokes alone are too many, of a side worn with the first ones; a tab. -/
theorem again_tab (s : Edg) (r : Int × Int) (a b : Int) (w : World) (g1 : ¬ a < 0) (g2 : ¬ b < 0) (g3 : ¬ 20000 < a) (g4 : ¬ 20000 - a < b) (x1 x2 x3 : Edg) (e3 : Int) (he : e3 = 11 ∨ e3 = 0 ∧ ¬ x2.w.1 < x3.w.1 ∧ ¬ x3.w.2 < x2.w.2) (hk : s.k = 1) (q1 : x2.w.1 ≤ s.w.1) (q2 : x2.w.2 ≤ s.w.2)
    (HW0 : Hold (∀ w, Calls Try.prog 19 #[edV s, spV r, .int .i64 0] w fun e w' => e = .returned (.tuple #[edV s, .int .i64 0]) ∧ Mod noB w w'))
    (HW1 : Hold (∀ w, Calls Try.prog 19 #[edV s, spV r, .int .i64 a] w fun e w' => e = .returned (.tuple #[edV x1, .int .i64 0]) ∧ Mod noB w w'))
    (HW2 : Hold (∀ w, Calls Try.prog 19 #[edV s, spV r, .int .i64 (a + b)] w fun e w' => e = .returned (.tuple #[edV x2, .int .i64 0]) ∧ Mod noB w w'))
    (HW3 : Hold (∀ w, Calls Try.prog 19 #[edV x1, spV r, .int .i64 b] w fun e w' => e = .returned (.tuple #[edV x3, .int .i64 e3]) ∧ Mod noB w w')) :
    Calls Try.prog 10 #[edV s, spV r, .int .i64 a, .int .i64 b] w fun e w' => e = .returned (.bool true) ∧ Mod noB w w' := by
  obtain ⟨sk, sa, sw, sd⟩ := s
  simp only at hk q1 q2
  subst hk
  rcases he with rfl | ⟨rfl, p1, p2⟩
  all_goals
    have HF := Hold.mk (pair_kept ⟨1, sa, sw, sd⟩ r w)
    have K0 := Hold.mk trivial
    go_enter Try.func10, Try.ntmps10
    go_wp2_with (first
      | (go_at_call 19; have Kx := K0; refine (HW0.out _).mono ?_; rintro e w1 ⟨rfl, hM⟩; have HF := Hold.mk (HF.out.later hM); obtain ⟨s0, s1, s2, s3, s4, s5, s6⟩ := EdgeAt.of HF.out.now.1.2; have r0 := cellsAt HF.out.now.2 0; have r1 := cellsAt HF.out.now.2 1; have hz := lt_of_at HF.out.now.1.2; have hy := lt_of_at HF.out.now.2; clear hM K0 Kx; have K1 := Hold.mk trivial)
      | (go_at_call 19; have Kx := K1; refine (HW1.out _).mono ?_; rintro e w2 ⟨rfl, hM⟩; clear s0 s1 s2 s3 s4 s5 s6 r0 r1 hz hy; have HF := Hold.mk (HF.out.later (((Mod.refl noB _).alloc _).trans hM)); obtain ⟨s0, s1, s2, s3, s4, s5, s6⟩ := EdgeAt.of HF.out.now.1.2; have r0 := cellsAt HF.out.now.2 0; have r1 := cellsAt HF.out.now.2 1; have hz := lt_of_at HF.out.now.1.2; have hy := lt_of_at HF.out.now.2; clear hM K1 Kx; have K2 := Hold.mk trivial)
      | (go_at_call 19; have Kx := K2; refine (HW2.out _).mono ?_; rintro e w3 ⟨rfl, hM⟩; clear s0 s1 s2 s3 s4 s5 s6 r0 r1 hz hy; have HF := Hold.mk ((HF.out.later (((Mod.refl noB _).alloc _).trans hM)).and (kept_block (hM.at (World.alloc_heap_new w2 _) id))); obtain ⟨x0, x1', x2', x3', x4, x5, x6⟩ := EdgeAt.of HF.out.now.2; have r0 := cellsAt HF.out.now.1.2 0; have r1 := cellsAt HF.out.now.1.2 1; have hy := lt_of_at HF.out.now.1.2; have hx := lt_of_at HF.out.now.2; clear hM K2 Kx; have K3 := Hold.mk trivial)
      | (go_at_call 19; have Kx := K3; refine (HW3.out _).mono ?_; rintro e w4 ⟨rfl, hM⟩; clear x0 x1' x2' x3' x4 x5 x6 r0 r1 hy hx; have HF := Hold.mk ((HF.out.later (((Mod.refl noB _).alloc _).trans hM)).and (kept_block (hM.at (World.alloc_heap_new w3 _) id))); obtain ⟨_, _, _, y3, y4, _, _⟩ := EdgeAt.of HF.out.now.2; obtain ⟨s0, _, _, s3, s4, _, _⟩ := EdgeAt.of HF.out.now.1.1.1.2; have hz := lt_of_at HF.out.now.1.1.1.2; have hy := lt_of_at HF.out.now.2; clear hM K3 Kx)
      | (go_at_call 21; refine (alive_any _).mono ?_; rintro e w5 ⟨rfl, hM⟩; have HF := Hold.mk (HF.out.later (((Mod.refl noB _).alloc _).trans hM)); clear hM))
    go_ret
    exact ⟨rfl, HF.out.now.1.1.1.1⟩

set_option maxRecDepth 100000 in
set_option maxHeartbeats 4000000 in
theorem again_hole (s : Edg) (r : Int × Int) (a b : Int) (w : World) (g1 : ¬ a < 0) (g2 : ¬ b < 0) (g3 : ¬ 20000 < a) (g4 : ¬ 20000 - a < b) (x1 x2 x3 : Edg) (e3 : Int) (he : e3 = 11 ∨ e3 = 0 ∧ ¬ x2.w.1 < x3.w.1 ∧ ¬ x3.w.2 < x2.w.2) (hk : ¬ s.k = 1) (q1 : s.w.1 ≤ x2.w.1) (q2 : s.w.2 ≤ x2.w.2)
    (HW0 : Hold (∀ w, Calls Try.prog 19 #[edV s, spV r, .int .i64 0] w fun e w' => e = .returned (.tuple #[edV s, .int .i64 0]) ∧ Mod noB w w'))
    (HW1 : Hold (∀ w, Calls Try.prog 19 #[edV s, spV r, .int .i64 a] w fun e w' => e = .returned (.tuple #[edV x1, .int .i64 0]) ∧ Mod noB w w'))
    (HW2 : Hold (∀ w, Calls Try.prog 19 #[edV s, spV r, .int .i64 (a + b)] w fun e w' => e = .returned (.tuple #[edV x2, .int .i64 0]) ∧ Mod noB w w'))
    (HW3 : Hold (∀ w, Calls Try.prog 19 #[edV x1, spV r, .int .i64 b] w fun e w' => e = .returned (.tuple #[edV x3, .int .i64 e3]) ∧ Mod noB w w')) :
    Calls Try.prog 10 #[edV s, spV r, .int .i64 a, .int .i64 b] w fun e w' => e = .returned (.bool true) ∧ Mod noB w w' := by
  rcases he with rfl | ⟨rfl, p1, p2⟩
  all_goals
    have HF := Hold.mk (pair_kept s r w)
    have K0 := Hold.mk trivial
    go_enter Try.func10, Try.ntmps10
    go_wp2_with (first
      | (go_at_call 19; have Kx := K0; refine (HW0.out _).mono ?_; rintro e w1 ⟨rfl, hM⟩; have HF := Hold.mk (HF.out.later hM); obtain ⟨s0, s1, s2, s3, s4, s5, s6⟩ := EdgeAt.of HF.out.now.1.2; have r0 := cellsAt HF.out.now.2 0; have r1 := cellsAt HF.out.now.2 1; have hz := lt_of_at HF.out.now.1.2; have hy := lt_of_at HF.out.now.2; clear hM K0 Kx; have K1 := Hold.mk trivial)
      | (go_at_call 19; have Kx := K1; refine (HW1.out _).mono ?_; rintro e w2 ⟨rfl, hM⟩; clear s0 s1 s2 s3 s4 s5 s6 r0 r1 hz hy; have HF := Hold.mk (HF.out.later (((Mod.refl noB _).alloc _).trans hM)); obtain ⟨s0, s1, s2, s3, s4, s5, s6⟩ := EdgeAt.of HF.out.now.1.2; have r0 := cellsAt HF.out.now.2 0; have r1 := cellsAt HF.out.now.2 1; have hz := lt_of_at HF.out.now.1.2; have hy := lt_of_at HF.out.now.2; clear hM K1 Kx; have K2 := Hold.mk trivial)
      | (go_at_call 19; have Kx := K2; refine (HW2.out _).mono ?_; rintro e w3 ⟨rfl, hM⟩; clear s0 s1 s2 s3 s4 s5 s6 r0 r1 hz hy; have HF := Hold.mk ((HF.out.later (((Mod.refl noB _).alloc _).trans hM)).and (kept_block (hM.at (World.alloc_heap_new w2 _) id))); obtain ⟨x0, x1', x2', x3', x4, x5, x6⟩ := EdgeAt.of HF.out.now.2; have r0 := cellsAt HF.out.now.1.2 0; have r1 := cellsAt HF.out.now.1.2 1; have hy := lt_of_at HF.out.now.1.2; have hx := lt_of_at HF.out.now.2; clear hM K2 Kx; have K3 := Hold.mk trivial)
      | (go_at_call 19; have Kx := K3; refine (HW3.out _).mono ?_; rintro e w4 ⟨rfl, hM⟩; clear x0 x1' x2' x3' x4 x5 x6 r0 r1 hy hx; have HF := Hold.mk ((HF.out.later (((Mod.refl noB _).alloc _).trans hM)).and (kept_block (hM.at (World.alloc_heap_new w3 _) id))); obtain ⟨_, _, _, y3, y4, _, _⟩ := EdgeAt.of HF.out.now.2; obtain ⟨s0, _, _, s3, s4, _, _⟩ := EdgeAt.of HF.out.now.1.1.1.2; have hz := lt_of_at HF.out.now.1.1.1.2; have hy := lt_of_at HF.out.now.2; clear hM K3 Kx)
      | (go_at_call 21; refine (alive_any _).mono ?_; rintro e w5 ⟨rfl, hM⟩; have HF := Hold.mk (HF.out.later (((Mod.refl noB _).alloc _).trans hM)); clear hM))
    go_ret
    exact ⟨rfl, HF.out.now.1.1.1.1⟩

end Go.Proofs.Ytnjbamikfjdofaa

/- The document's fit and Fit. -/
import Derived.Test.YtnjbamikfjdofaaRefC
import Derived.Test.YtnjbamikfjdofaaFit
import Derived.Test.YtnjbamikfjdofaaMono
set_option linter.unusedSimpArgs false
set_option linter.unusedVariables false
namespace Go.Proofs.Ytnjbamikfjdofaa
open Go.RowKit Go.Shelf

theorem all_within {s : Int × Int} {lo hi : Int} {d : Int × Int} (hs : s.1 ≤ s.2) (hl : lo ≤ 0) (hh : 0 ≤ hi) (hd : 0 ≤ d.1) (hd2 : d.1 ≤ d.2) : allB s lo hi d = withinB (dampedR s d) (1000 * lo) (1000 * hi) := by
  unfold allB withinB dampedR
  rw [Int.add_comm 1000 d.2]
  have e1 : s.1 * (d.1 + 1000) ≤ s.2 * (d.1 + 1000) := Int.mul_le_mul_of_nonneg_right hs (by omega)
  have e2 : 0 ≤ s.1 → 0 ≤ s.1 * (d.1 + 1000) := fun h => Int.mul_nonneg h (by omega)
  have e3 : s.1 ≤ 0 → s.1 * (d.2 + 1000) ≤ s.1 * (d.1 + 1000) := fun h => by
    have := Int.mul_le_mul_of_nonpos_left h (show d.1 + 1000 ≤ d.2 + 1000 by omega)
    exact this
  have e4 : 0 ≤ s.2 → s.2 * (d.1 + 1000) ≤ s.2 * (d.2 + 1000) := fun h => Int.mul_le_mul_of_nonneg_left (by omega) h
  have e5 : s.2 ≤ 0 → s.2 * (d.1 + 1000) ≤ 0 := fun h => by
    have := Int.mul_le_mul_of_nonneg_right h (show 0 ≤ d.1 + 1000 by omega)
    rw [Int.zero_mul] at this
    exact this
  generalize s.1 * (d.1 + 1000) = x1 at *
  generalize s.1 * (d.2 + 1000) = x2 at *
  generalize s.2 * (d.1 + 1000) = y1 at *
  generalize s.2 * (d.2 + 1000) = y2 at *
  rw [Bool.eq_iff_iff]
  simp only [Bool.and_eq_true, decide_eq_true_eq]
  rcases Int.le_total 0 s.1 with h1 | h1
  · have a1 := e2 h1
    have a2 := e4 (by omega)
    omega
  · have a1 := e3 h1
    rcases Int.le_total 0 s.2 with h2 | h2
    · have a2 := e4 h2
      omega
    · have a2 := e5 h2
      omega

theorem verdict_all {s : Int × Int} {lo hi : Int} {d : Int × Int} (hs : s.1 ≤ s.2) (hl : lo ≤ 0) (hh : 0 ≤ hi) (hd : 0 ≤ d.1) (hd2 : d.1 ≤ d.2) : verdictR s lo hi d = if allB s lo hi d then 2 else if someB s lo hi d then 1 else 0 := by
  rw [all_within hs hl hh hd hd2]
  rfl

/-- What is allowed for all numbers is for one. -/
theorem some_of_all {s : Int × Int} {lo hi : Int} {d : Int × Int} (hs : s.1 ≤ s.2) (hl : lo ≤ 0) (hh : 0 ≤ hi) (hd : 0 ≤ d.1) (hd2 : d.1 ≤ d.2) (h : allB s lo hi d = true) : someB s lo hi d = true := by
  rw [someB_iff]
  simp only [allB, Bool.and_eq_true, decide_eq_true_eq] at h
  obtain ⟨h1, h2⟩ := h
  have hn : nearR s = min (max 0 s.1) s.2 := rfl
  unfold goodN
  rcases Int.le_total 0 s.2 with h0 | h0
  · rcases Int.le_total 0 s.1 with h3 | h3
    · have e : nearR s = s.1 := by omega
      rw [e]
      have a1 : s.1 * (1000 + d.1) ≤ s.2 * (1000 + d.1) := Int.mul_le_mul_of_nonneg_right hs (by omega)
      have a2 : s.2 * (1000 + d.1) ≤ s.2 * (1000 + d.2) := Int.mul_le_mul_of_nonneg_left (by omega) h0
      have a3 : 0 ≤ s.1 * (1000 + d.1) := Int.mul_nonneg h3 (by omega)
      omega
    · have e : nearR s = 0 := by omega
      rw [e]
      omega
  · have e : nearR s = s.2 := by omega
    rw [e]
    have a1 : s.1 * (1000 + d.1) ≤ s.2 * (1000 + d.1) := Int.mul_le_mul_of_nonneg_right hs (by omega)
    have a2 : s.1 * (1000 + d.2) ≤ s.1 * (1000 + d.1) := Int.mul_le_mul_of_nonpos_left (by omega) (by omega)
    have a3 := Int.mul_le_mul_of_nonneg_right h0 (show 0 ≤ 1000 + d.1 by omega)
    rw [Int.zero_mul] at a3
    omega

theorem play_facts {p : Ply} (h : playB p = true) : (1 ≤ p.len ∧ p.len ≤ 10000) ∧ (0 ≤ p.slack ∧ p.slack ≤ 500) ∧ (0 ≤ p.loose ∧ p.loose ≤ 500) ∧ 0 ≤ p.damp.1 ∧ p.damp.1 ≤ p.damp.2 ∧ p.damp.2 ≤ 100 := by
  simp only [playB, Bool.and_eq_true, decide_eq_true_eq, withinB] at h
  omega

/-- The spans of valid sides are spans. -/
structure Ordered (e : Edg) : Prop where
  a : e.a.1 ≤ e.a.2
  w : e.w.1 ≤ e.w.2
  d : e.d.1 ≤ e.d.2
theorem side_ordered {e : Edg} (h : sideB e = true) (hk : e.k ≠ 0) : Ordered e := by
  simp only [sideB, withinB, Bool.or_eq_true, Bool.and_eq_true, beq_iff_eq, decide_eq_true_eq] at h
  exact ⟨by omega, by omega, by omega⟩

theorem both_kinds {a b : Edg} (h : (orderedR a b).2 = true) : (orderedR a b).1.1.k = 1 ∧ (orderedR a b).1.2.k = 2 := by
  unfold orderedR at *
  split at h
  · rename_i k
    rw [if_pos k]
    simp only [beq_iff_eq] at h
    exact ⟨h, k⟩
  · rename_i k
    rw [if_neg k]
    simp only [Bool.and_eq_true, beq_iff_eq] at h
    exact h
theorem both_sides {a b : Edg} (ha : sideB a = true) (hb : sideB b = true) : sideB (orderedR a b).1.1 = true ∧ sideB (orderedR a b).1.2 = true := by
  unfold orderedR
  split
  · exact ⟨hb, ha⟩
  · exact ⟨ha, hb⟩

theorem differ_ordered {t h : Edg} (ot : Ordered t) (oh : Ordered h) (n : Int) : (offR t h n).1 ≤ (offR t h n).2 ∧ (wideR t h).1 ≤ (wideR t h).2 ∧ (deepR t h).1 ≤ (deepR t h).2 := by
  obtain ⟨a, b, c⟩ := ot
  obtain ⟨d, e, f⟩ := oh
  simp only [offR, wideR, deepR, lessR, plusR]
  omega
theorem differ_small {t h : Edg} {n : Int} (ht : ESmall 1000000 t) (hh : ESmall 1000000 h) (hn : -1000000 ≤ n ∧ n ≤ 1000000) : Small 10000000 (offR t h n) ∧ Small 10000000 (wideR t h) ∧ Small 10000000 (deepR t h) := by
  refine ⟨?_, (lessR_small hh.2.1 ht.2.1).le (by omega), (lessR_small hh.2.2 ht.2.2).le (by omega)⟩
  exact (lessR_small (plusR_small ht.1 hh.1) (o := (n, n)) (k := 1000000) ⟨by simpa using hn, by simpa using hn⟩).le (by omega)

theorem three_kept (p : Ply) (a b : Edg) (w : World) : Kept (((w.alloc (.cells (plC p) 25)).alloc (.cells (edC a) 27)).alloc (.cells (edC b) 27)) (fun w' => ((Mod noB w w' ∧ w'.heap[w.heap.size]? = some (.cells (plC p) 25)) ∧ w'.heap[w.heap.size + 1]? = some (.cells (edC a) 27)) ∧ w'.heap[w.heap.size + 2]? = some (.cells (edC b) 27)) := fun w' h => by
  rw [allocL3] at h
  exact ⟨⟨⟨(allocL_mod noB _ w).trans h, at_allocL _ h 0 _ rfl⟩, at_allocL _ h 1 _ rfl⟩, at_allocL _ h 2 _ rfl⟩
theorem at_lt {w : World} {b : Nat} {o : Obj} (h : w.heap[b]? = some o) : b < w.heap.size := (Array.getElem?_eq_some_iff.1 h).1

set_option maxRecDepth 100000 in
set_option maxHeartbeats 1000000 in
theorem fit49_none (p : Ply) (a b x y : Edg) (w : World) (HB : Hold (∀ w, Calls Try.prog 37 #[edV a, edV b] w fun r w' => r = .returned (.tuple #[edV x, edV y, .bool false]) ∧ Mod noB w w')) :
    Calls Try.prog 49 #[plV p, edV a, edV b] w fun e w' => e = .returned (.int .i64 0) ∧ Mod noB w w' := by
  have HF := Hold.mk (three_kept p a b w)
  go_enter Try.func49, Try.ntmps49
  go_wp2_with (go_at_call 37; refine (HB.out _).mono ?_; rintro e w1 ⟨rfl, hM⟩; have HF := Hold.mk (HF.out.later hM); clear hM)
  go_ret
  exact ⟨rfl, (HF.out.now.1.1.1.alloc _).alloc _⟩

set_option maxRecDepth 100000 in
set_option maxHeartbeats 8000000 in
theorem fit49_walk (p : Ply) (a b t h : Edg) (x y z : Int × Int) (w : World) (a1 a2 a3 s1 s2 s3 : Bool) (r : Int) (hp1 : 0 ≤ p.slack) (hp2 : p.slack ≤ 500)
    (HB : Hold (∀ w, Calls Try.prog 37 #[edV a, edV b] w fun r w' => r = .returned (.tuple #[edV t, edV h, .bool true]) ∧ Mod noB w w'))
    (HD : Hold (∀ w, Calls Try.prog 40 #[plV p, edV t, edV h] w fun e w' => e = .returned (dfV x y z) ∧ Mod noB w w'))
    (A1 : Hold (∀ w, Calls Try.prog 73 #[spV x, .int .i64 (-p.slack), .int .i64 p.slack, spV p.damp] w fun e w' => e = .returned (.bool a1) ∧ Mod noB w w'))
    (A2 : Hold (∀ w, Calls Try.prog 73 #[spV y, .int .i64 0, .int .i64 p.loose, spV p.damp] w fun e w' => e = .returned (.bool a2) ∧ Mod noB w w'))
    (A3 : Hold (∀ w, Calls Try.prog 73 #[spV z, .int .i64 0, .int .i64 p.loose, spV p.damp] w fun e w' => e = .returned (.bool a3) ∧ Mod noB w w'))
    (S1 : Hold (∀ w, Calls Try.prog 74 #[spV x, .int .i64 (-p.slack), .int .i64 p.slack, spV p.damp] w fun e w' => e = .returned (.bool s1) ∧ Mod noB w w'))
    (S2 : Hold (∀ w, Calls Try.prog 74 #[spV y, .int .i64 0, .int .i64 p.loose, spV p.damp] w fun e w' => e = .returned (.bool s2) ∧ Mod noB w w'))
    (S3 : Hold (∀ w, Calls Try.prog 74 #[spV z, .int .i64 0, .int .i64 p.loose, spV p.damp] w fun e w' => e = .returned (.bool s3) ∧ Mod noB w w'))
    (hc : (a1 = true ∧ a2 = true ∧ a3 = true ∧ r = 2) ∨ ((a1 = false ∨ a1 = true ∧ a2 = false ∨ a1 = true ∧ a2 = true ∧ a3 = false) ∧ (s1 = false ∧ r = 0 ∨ s1 = true ∧ s2 = false ∧ r = 0 ∨ s1 = true ∧ s2 = true ∧ s3 = false ∧ r = 0 ∨ s1 = true ∧ s2 = true ∧ s3 = true ∧ r = 1))) :
    Calls Try.prog 49 #[plV p, edV a, edV b] w fun e w' => e = .returned (.int .i64 r) ∧ Mod noB w w' := by
  have HF := Hold.mk (three_kept p a b w)
  have K0 := Hold.mk trivial
  rcases hc with ⟨rfl, rfl, rfl, rfl⟩ | ⟨rfl | ⟨rfl, rfl⟩ | ⟨rfl, rfl, rfl⟩, ⟨rfl, rfl⟩ | ⟨rfl, rfl, rfl⟩ | ⟨rfl, rfl, rfl, rfl⟩ | ⟨rfl, rfl, rfl, rfl⟩⟩
  all_goals
    go_enter Try.func49, Try.ntmps49
    go_wp2_with (first
      | (go_at_call 37; refine (HB.out _).mono ?_; rintro e w1 ⟨rfl, hM⟩; have HF := Hold.mk (HF.out.later hM); obtain ⟨p0, p1, p2, p3, p4⟩ := PlayAt.of HF.out.now.1.1.2; have hz := at_lt HF.out.now.1.1.2; clear hM)
      | (go_at_call 40; refine (HD.out _).mono ?_; rintro e w2 ⟨rfl, hM⟩; clear p0 p1 p2 p3 p4 hz; have HF := Hold.mk (HF.out.later ((((Mod.refl noB _).alloc _).alloc _).trans hM)); obtain ⟨p0, p1, p2, p3, p4⟩ := PlayAt.of HF.out.now.1.1.2; have hz := at_lt HF.out.now.1.1.2; clear hM)
      | (go_at_call 73; have Kx := K0; refine (A1.out _).mono ?_; rintro e w3 ⟨rfl, hM⟩; clear p0 p1 p2 p3 p4 hz; have HF := Hold.mk ((HF.out.later (((Mod.refl noB w2).alloc _).trans hM)).and (kept_block (hM.at (World.alloc_heap_new w2 _) id))); obtain ⟨p0, p1, p2, p3, p4⟩ := PlayAt.of HF.out.now.1.1.1.2
         have q0 := cellsAt HF.out.now.2 0; have q1 := cellsAt HF.out.now.2 1; have q2 := cellsAt HF.out.now.2 2; have q3 := cellsAt HF.out.now.2 3; have q4 := cellsAt HF.out.now.2 4; have q5 := cellsAt HF.out.now.2 5
         clear hM K0 Kx; have K1 := Hold.mk trivial)
      | (go_at_call 73; have Kx := K1; refine (A2.out _).mono ?_; rintro e w4 ⟨rfl, hM⟩; clear p0 p1 p2 p3 p4 q0 q1 q2 q3 q4 q5; have HF := Hold.mk (HF.out.later hM); obtain ⟨p0, p1, p2, p3, p4⟩ := PlayAt.of HF.out.now.1.1.1.2
         have q0 := cellsAt HF.out.now.2 0; have q1 := cellsAt HF.out.now.2 1; have q2 := cellsAt HF.out.now.2 2; have q3 := cellsAt HF.out.now.2 3; have q4 := cellsAt HF.out.now.2 4; have q5 := cellsAt HF.out.now.2 5
         clear hM K1 Kx; have K2 := Hold.mk trivial)
      | (go_at_call 73; have Kx := K2; refine (A3.out _).mono ?_; rintro e w5 ⟨rfl, hM⟩; clear p0 p1 p2 p3 p4 q0 q1 q2 q3 q4 q5; have HF := Hold.mk (HF.out.later hM); obtain ⟨p0, p1, p2, p3, p4⟩ := PlayAt.of HF.out.now.1.1.1.2
         have q0 := cellsAt HF.out.now.2 0; have q1 := cellsAt HF.out.now.2 1; have q2 := cellsAt HF.out.now.2 2; have q3 := cellsAt HF.out.now.2 3; have q4 := cellsAt HF.out.now.2 4; have q5 := cellsAt HF.out.now.2 5
         clear hM K2 Kx)
      | (go_at_call 74; have Kx := S1; refine (S1.out _).mono ?_; rintro e w6 ⟨rfl, hM⟩; clear p0 p1 p2 p3 p4 q0 q1 q2 q3 q4 q5; have HF := Hold.mk (HF.out.later hM); obtain ⟨p0, p1, p2, p3, p4⟩ := PlayAt.of HF.out.now.1.1.1.2
         have q0 := cellsAt HF.out.now.2 0; have q1 := cellsAt HF.out.now.2 1; have q2 := cellsAt HF.out.now.2 2; have q3 := cellsAt HF.out.now.2 3; have q4 := cellsAt HF.out.now.2 4; have q5 := cellsAt HF.out.now.2 5
         clear hM S1 Kx)
      | (go_at_call 74; have Kx := S2; refine (S2.out _).mono ?_; rintro e w7 ⟨rfl, hM⟩; clear p0 p1 p2 p3 p4 q0 q1 q2 q3 q4 q5; have HF := Hold.mk (HF.out.later hM); obtain ⟨p0, p1, p2, p3, p4⟩ := PlayAt.of HF.out.now.1.1.1.2
         have q0 := cellsAt HF.out.now.2 0; have q1 := cellsAt HF.out.now.2 1; have q2 := cellsAt HF.out.now.2 2; have q3 := cellsAt HF.out.now.2 3; have q4 := cellsAt HF.out.now.2 4; have q5 := cellsAt HF.out.now.2 5
         clear hM S2 Kx)
      | (go_at_call 74; have Kx := S3; refine (S3.out _).mono ?_; rintro e w8 ⟨rfl, hM⟩; clear p0 p1 p2 p3 p4 q0 q1 q2 q3 q4 q5; have HF := Hold.mk (HF.out.later hM); clear hM S3 Kx))
    go_ret
    exact ⟨rfl, HF.out.now.1.1.1.1⟩
end Go.Proofs.Ytnjbamikfjdofaa

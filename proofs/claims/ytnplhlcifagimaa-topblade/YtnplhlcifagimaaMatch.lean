/- By what a tab and a hole differ. -/
import Derived.Test.YtnplhlcifagimaaOrdered
set_option linter.unusedSimpArgs false
set_option linter.unusedVariables false
namespace Go.Proofs.Ytnplhlcifagimaa
open Go.RowKit

/-- All numbers of a side within so much. -/
def ESmall (m : Int) (e : Edg) : Prop := Small m e.a ∧ Small m e.w ∧ Small m e.d

def offR (t h : Edg) (n : Int) : Int × Int := lessR (plusR t.a h.a) (n, n)
def wideR (t h : Edg) : Int × Int := lessR h.w t.w
def deepR (t h : Edg) : Int × Int := lessR h.d t.d

set_option maxRecDepth 100000 in
set_option maxHeartbeats 2000000 in
theorem off_any (t h : Edg) (n : Int) (w : World) (ht : ESmall 10000000 t) (hh : ESmall 10000000 h) (hn : -10000000 ≤ n ∧ n ≤ 10000000) :
    Calls Try.prog 35 #[mtV t h, .int .i64 n] w fun e w' => e = .returned (spV (offR t h n)) ∧ Mod noB w w' := by
  have HP : Hold (∀ w, Calls Try.prog 38 #[spV t.a, spV h.a] w fun e w' => e = .returned (spV (plusR t.a h.a)) ∧ Mod noB w w') := ⟨fun w => plus_any _ _ w (ht.1.le (by omega)) (hh.1.le (by omega))⟩
  have HL : Hold (∀ w, Calls Try.prog 39 #[spV (plusR t.a h.a), spV (n, n)] w fun e w' => e = .returned (spV (lessR (plusR t.a h.a) (n, n))) ∧ Mod noB w w') :=
    ⟨fun w => less_any _ _ w ((plusR_small ht.1 hh.1).le (by omega)) ⟨⟨by simp; omega, by simp; omega⟩, by simp; omega, by simp; omega⟩⟩
  obtain ⟨r, hr⟩ : ∃ r, lessR (plusR t.a h.a) (n, n) = r := ⟨_, rfl⟩
  obtain ⟨q, hq⟩ : ∃ q, plusR t.a h.a = q := ⟨_, rfl⟩
  have HR : Hold (offR t h n = r) := ⟨hr⟩
  rw [hr] at HL
  rw [hq] at HP HL
  clear hr hq ht hh hn
  obtain ⟨r1, r2⟩ := r
  obtain ⟨q1, q2⟩ := q
  have HM0 := Hold.mk (((Mod.refl noB w).alloc (.cells (mtC t h) 64)).alloc (.cells #[.int .i64 0, .int .i64 0] 59))
  go_enter Try.func35, Try.ntmps35
  go_wp2_with (first
    | (go_at_call 38; refine (HP.out _).mono ?_; rintro e w1 ⟨rfl, hM⟩; obtain ⟨hc, hf⟩ := bcell hM; have HM1 := Hold.mk hM; clear hM)
    | (go_at_call 39; refine (HL.out _).mono ?_; rintro e w2 ⟨rfl, hM⟩; clear hc hf; have hM2 := HM1.out.trans hM; obtain ⟨hc, hf⟩ := bcell hM2; have HM2 := Hold.mk hM2; clear hM hM2))
  refine bodyPost_ret (v := spV (r1, r2)) ?_ rfl ⟨by rw [HR.out], ?_⟩
  · simp [results, Try.results35, go_sem, *]
  · exact Mod.setNew (Mod.setNew (HM0.out.trans HM2.out) (by omega) _) (by omega) _

set_option maxRecDepth 100000 in
set_option maxHeartbeats 2000000 in
theorem wide_any (t h : Edg) (w : World) (ht : ESmall 10000000 t) (hh : ESmall 10000000 h) :
    Calls Try.prog 36 #[mtV t h] w fun e w' => e = .returned (spV (wideR t h)) ∧ Mod noB w w' := by
  have HL : Hold (∀ w, Calls Try.prog 39 #[spV h.w, spV t.w] w fun e w' => e = .returned (spV (wideR t h)) ∧ Mod noB w w') := ⟨fun w => less_any _ _ w (hh.2.1.le (by omega)) (ht.2.1.le (by omega))⟩
  obtain ⟨r, hr⟩ : ∃ r, wideR t h = r := ⟨_, rfl⟩
  have HR := Hold.mk hr
  rw [hr] at HL
  clear hr ht hh
  obtain ⟨r1, r2⟩ := r
  have HM0 := Hold.mk (((Mod.refl noB w).alloc (.cells (mtC t h) 64)).alloc (.cells #[.int .i64 0, .int .i64 0] 59))
  go_enter Try.func36, Try.ntmps36
  go_wp2_with (go_at_call 39; refine (HL.out _).mono ?_; rintro e w2 ⟨rfl, hM⟩; obtain ⟨hc, hf⟩ := bcell hM; have HM2 := Hold.mk hM; clear hM)
  refine bodyPost_ret (v := spV (r1, r2)) ?_ rfl ⟨by rw [HR.out], ?_⟩
  · simp [results, Try.results36, go_sem, *]
  · exact Mod.setNew (Mod.setNew (HM0.out.trans HM2.out) (by omega) _) (by omega) _

set_option maxRecDepth 100000 in
set_option maxHeartbeats 2000000 in
theorem deep_any (t h : Edg) (w : World) (ht : ESmall 10000000 t) (hh : ESmall 10000000 h) :
    Calls Try.prog 37 #[mtV t h] w fun e w' => e = .returned (spV (deepR t h)) ∧ Mod noB w w' := by
  have HL : Hold (∀ w, Calls Try.prog 39 #[spV h.d, spV t.d] w fun e w' => e = .returned (spV (deepR t h)) ∧ Mod noB w w') := ⟨fun w => less_any _ _ w (hh.2.2.le (by omega)) (ht.2.2.le (by omega))⟩
  obtain ⟨r, hr⟩ : ∃ r, deepR t h = r := ⟨_, rfl⟩
  have HR := Hold.mk hr
  rw [hr] at HL
  clear hr ht hh
  obtain ⟨r1, r2⟩ := r
  have HM0 := Hold.mk (((Mod.refl noB w).alloc (.cells (mtC t h) 64)).alloc (.cells #[.int .i64 0, .int .i64 0] 59))
  go_enter Try.func37, Try.ntmps37
  go_wp2_with (go_at_call 39; refine (HL.out _).mono ?_; rintro e w2 ⟨rfl, hM⟩; obtain ⟨hc, hf⟩ := bcell hM; have HM2 := Hold.mk hM; clear hM)
  refine bodyPost_ret (v := spV (r1, r2)) ?_ rfl ⟨by rw [HR.out], ?_⟩
  · simp [results, Try.results37, go_sem, *]
  · exact Mod.setNew (Mod.setNew (HM0.out.trans HM2.out) (by omega) _) (by omega) _

def nearR (s : Int × Int) : Int := min (max 0 s.1) s.2
def verdictR (s : Int × Int) (lo hi : Int) (d : Int × Int) : Int :=
  if withinB (dampedR s d) (1000 * lo) (1000 * hi) then 2 else if withinB (dampedR (nearR s, nearR s) (d.1, d.1)) (1000 * lo) (1000 * hi) then 1 else 0

theorem nearR_small {m : Int} {s : Int × Int} (hs : Small m s) : -m ≤ nearR s ∧ nearR s ≤ m := by
  obtain ⟨⟨h1, h2⟩, h3, h4⟩ := hs
  unfold nearR; omega

set_option maxRecDepth 100000 in
set_option maxHeartbeats 4000000 in
theorem verdict_any (s : Int × Int) (lo hi : Int) (d : Int × Int) (w : World) (hs : Small 10000000 s) (hd : Small 1000 d) (hlo : -10000000 ≤ lo ∧ lo ≤ 10000000) (hhi : -10000000 ≤ hi ∧ hi ≤ 10000000) :
    Calls Try.prog 56 #[spV s, .int .i64 lo, .int .i64 hi, spV d] w fun e w' => e = .returned (.int .i64 (verdictR s lo hi d)) ∧ Mod noB w w' := by
  have hn := nearR_small hs
  have HD1 : Hold (∀ w, Calls Try.prog 57 #[spV s, spV d] w fun e w' => e = .returned (spV (dampedR s d)) ∧ Mod noB w w') := ⟨fun w => damped_any s d w hs hd⟩
  have HD2 : Hold (∀ w, Calls Try.prog 57 #[spV (nearR s, nearR s), spV (d.1, d.1)] w fun e w' => e = .returned (spV (dampedR (nearR s, nearR s) (d.1, d.1))) ∧ Mod noB w w') :=
    ⟨fun w => damped_any _ _ w ⟨hn, hn⟩ ⟨hd.1, hd.1⟩⟩
  have HV : Hold (verdictR s lo hi d = if withinB (dampedR s d) (1000 * lo) (1000 * hi) then 2 else if withinB (dampedR (nearR s, nearR s) (d.1, d.1)) (1000 * lo) (1000 * hi) then 1 else 0) := ⟨rfl⟩
  have HN : Hold (nearR s = min (max 0 s.1) s.2) := ⟨rfl⟩
  have HW := Hold.mk (fun r w => within_any r (1000 * lo) (1000 * hi) w)
  obtain ⟨a, b⟩ := s
  obtain ⟨d1, d2⟩ := d
  obtain ⟨q, hq⟩ : ∃ q, dampedR (a, b) (d1, d2) = q := ⟨_, rfl⟩
  obtain ⟨nr, hnr⟩ : ∃ nr, nearR (a, b) = nr := ⟨_, rfl⟩
  rw [hnr] at HD2 HV HN hn
  obtain ⟨q', hq'⟩ : ∃ q', dampedR (nr, nr) (d1, d1) = q' := ⟨_, rfl⟩
  simp only at HD2 HV HN
  rw [hq] at HD1 HV
  rw [hq'] at HD2 HV
  obtain ⟨⟨a1, a2⟩, b1, b2⟩ := hs
  obtain ⟨lo1, lo2⟩ := hlo
  obtain ⟨hi1, hi2⟩ := hhi
  clear hq hq' hnr hd
  obtain ⟨q1, q2⟩ := q
  obtain ⟨p1, p2⟩ := q'
  simp only at a1 a2 b1 b2
  obtain ⟨B1, hB1⟩ : ∃ B, withinB (q1, q2) (1000 * lo) (1000 * hi) = B := ⟨_, rfl⟩
  obtain ⟨B2, hB2⟩ : ∃ B, withinB (p1, p2) (1000 * lo) (1000 * hi) = B := ⟨_, rfl⟩
  have HW1 : Hold (∀ w, Calls Try.prog 24 #[spV (q1, q2), .int .i64 (1000 * lo), .int .i64 (1000 * hi)] w fun e w' => e = .returned (.bool B1) ∧ Mod noB w w') := ⟨fun w => by rw [← hB1]; exact HW.out _ w⟩
  have HW2 : Hold (∀ w, Calls Try.prog 24 #[spV (p1, p2), .int .i64 (1000 * lo), .int .i64 (1000 * hi)] w fun e w' => e = .returned (.bool B2) ∧ Mod noB w w') := ⟨fun w => by rw [← hB2]; exact HW.out _ w⟩
  rw [hB1, hB2] at HV
  clear hB1 hB2 HW
  have HM0 := Hold.mk (((Mod.refl noB w).alloc (.cells #[.int .i64 a, .int .i64 b] 59)).alloc (.cells #[.int .i64 d1, .int .i64 d2] 59))
  have hbs := World.alloc_heap_new w (.cells #[.int .i64 a, .int .i64 b] 59)
  have hbd : ((w.alloc (.cells #[.int .i64 a, .int .i64 b] 59)).alloc (.cells #[.int .i64 d1, .int .i64 d2] 59)).heap[w.heap.size + 1]? = some (.cells #[.int .i64 d1, .int .i64 d2] 59) := by have := World.alloc_heap_new (w.alloc (.cells #[.int .i64 a, .int .i64 b] 59)) (.cells #[.int .i64 d1, .int .i64 d2] 59); simpa using this
  have HC : Hold (∀ W', Mod noB ((w.alloc (.cells #[.int .i64 a, .int .i64 b] 59)).alloc (.cells #[.int .i64 d1, .int .i64 d2] 59)) W' →
      W'.cell? ⟨w.heap.size, 0, none⟩ = some (.int .i64 a) ∧ W'.cell? ⟨w.heap.size, 1, none⟩ = some (.int .i64 b) ∧ W'.cell? ⟨w.heap.size + 1, 0, none⟩ = some (.int .i64 d1) ∧ W'.cell? ⟨w.heap.size + 1, 1, none⟩ = some (.int .i64 d2)) := ⟨fun W' h => by
    have e1 := h.at hbd id
    have e0 := h.at (((Mod.refl noB _).alloc _).at hbs id) id
    refine ⟨?_, ?_, ?_, ?_⟩ <;> simp [World.cell?, e0, e1]⟩
  clear hbs hbd
  have tok1 : Hold True := ⟨trivial⟩
  cases B1 with
  | true =>
    go_enter Try.func56, Try.ntmps56
    go_wp2_with (first
      | (go_at_call 57; (with_reducible refine (HD1.out _).mono ?_); rintro e w1 ⟨rfl, hM⟩; have HM1 := Hold.mk hM; clear hM)
      | (go_at_call 24; (with_reducible refine (HW1.out _).mono ?_); rintro e w2 ⟨rfl, hM⟩; have HM2 := Hold.mk (HM1.out.trans hM); clear hM))
    go_ret
    exact ⟨by rw [HV.out]; rfl, HM0.out.trans HM2.out⟩
  | false =>
    rcases (by omega : (0 < a ∧ b < a) ∨ (0 < a ∧ a ≤ b) ∨ (a ≤ 0 ∧ b < 0) ∨ (a ≤ 0 ∧ 0 ≤ b)) with h | h | h | h
    all_goals obtain ⟨h1, h2⟩ := h
    · cases B2
      all_goals
        obtain rfl : nr = b := by rw [HN.out]; omega
        clear HN
        go_enter Try.func56, Try.ntmps56
        go_wp2_with (first
          | (go_at_call 57; have tk := tok1; (with_reducible refine (HD1.out _).mono ?_); rintro e w1 ⟨rfl, hM⟩; have HM1 := Hold.mk hM; have tok2 := tk; clear hM tok1 tk)
          | (go_at_call 57; have tk := tok2; (with_reducible refine (HD2.out _).mono ?_); rintro e w1 ⟨rfl, hM⟩; have hM3 := HM2.out.trans hM; have HM3 := Hold.mk hM3; have hz : w.heap.size + 1 < w1.heap.size := (by have := hM3.size; simp at this; omega); clear hM hM3 tok2 tk)
          | (go_at_call 24; have tk := tok2; (with_reducible refine (HW1.out _).mono ?_); rintro e w2 ⟨rfl, hM⟩; have hM2 := HM1.out.trans hM; obtain ⟨g0, g1, g2, g3⟩ := HC.out _ hM2; have HM2 := Hold.mk hM2; clear hM hM2 tk)
          | (go_at_call 24; (with_reducible refine (HW2.out _).mono ?_); rintro e w2 ⟨rfl, hM⟩; have HM4 := Hold.mk ((HM3.out.alloc _).trans hM); clear hM))
        all_goals
          go_ret
          exact ⟨by rw [HV.out]; rfl, HM0.out.trans HM4.out⟩
    · cases B2
      all_goals
        obtain rfl : nr = a := by rw [HN.out]; omega
        clear HN
        go_enter Try.func56, Try.ntmps56
        go_wp2_with (first
          | (go_at_call 57; have tk := tok1; (with_reducible refine (HD1.out _).mono ?_); rintro e w1 ⟨rfl, hM⟩; have HM1 := Hold.mk hM; have tok2 := tk; clear hM tok1 tk)
          | (go_at_call 57; have tk := tok2; (with_reducible refine (HD2.out _).mono ?_); rintro e w1 ⟨rfl, hM⟩; have hM3 := HM2.out.trans hM; have HM3 := Hold.mk hM3; have hz : w.heap.size + 1 < w1.heap.size := (by have := hM3.size; simp at this; omega); clear hM hM3 tok2 tk)
          | (go_at_call 24; have tk := tok2; (with_reducible refine (HW1.out _).mono ?_); rintro e w2 ⟨rfl, hM⟩; have hM2 := HM1.out.trans hM; obtain ⟨g0, g1, g2, g3⟩ := HC.out _ hM2; have HM2 := Hold.mk hM2; clear hM hM2 tk)
          | (go_at_call 24; (with_reducible refine (HW2.out _).mono ?_); rintro e w2 ⟨rfl, hM⟩; have HM4 := Hold.mk ((HM3.out.alloc _).trans hM); clear hM))
        all_goals
          go_ret
          exact ⟨by rw [HV.out]; rfl, HM0.out.trans HM4.out⟩
    · cases B2
      all_goals
        obtain rfl : nr = b := by rw [HN.out]; omega
        clear HN
        go_enter Try.func56, Try.ntmps56
        go_wp2_with (first
          | (go_at_call 57; have tk := tok1; (with_reducible refine (HD1.out _).mono ?_); rintro e w1 ⟨rfl, hM⟩; have HM1 := Hold.mk hM; have tok2 := tk; clear hM tok1 tk)
          | (go_at_call 57; have tk := tok2; (with_reducible refine (HD2.out _).mono ?_); rintro e w1 ⟨rfl, hM⟩; have hM3 := HM2.out.trans hM; have HM3 := Hold.mk hM3; have hz : w.heap.size + 1 < w1.heap.size := (by have := hM3.size; simp at this; omega); clear hM hM3 tok2 tk)
          | (go_at_call 24; have tk := tok2; (with_reducible refine (HW1.out _).mono ?_); rintro e w2 ⟨rfl, hM⟩; have hM2 := HM1.out.trans hM; obtain ⟨g0, g1, g2, g3⟩ := HC.out _ hM2; have HM2 := Hold.mk hM2; clear hM hM2 tk)
          | (go_at_call 24; (with_reducible refine (HW2.out _).mono ?_); rintro e w2 ⟨rfl, hM⟩; have HM4 := Hold.mk ((HM3.out.alloc _).trans hM); clear hM))
        all_goals
          go_ret
          exact ⟨by rw [HV.out]; rfl, HM0.out.trans HM4.out⟩
    · cases B2
      all_goals
        obtain rfl : nr = 0 := by rw [HN.out]; omega
        clear HN
        go_enter Try.func56, Try.ntmps56
        go_wp2_with (first
          | (go_at_call 57; have tk := tok1; (with_reducible refine (HD1.out _).mono ?_); rintro e w1 ⟨rfl, hM⟩; have HM1 := Hold.mk hM; have tok2 := tk; clear hM tok1 tk)
          | (go_at_call 57; have tk := tok2; (with_reducible refine (HD2.out _).mono ?_); rintro e w1 ⟨rfl, hM⟩; have hM3 := HM2.out.trans hM; have HM3 := Hold.mk hM3; have hz : w.heap.size + 1 < w1.heap.size := (by have := hM3.size; simp at this; omega); clear hM hM3 tok2 tk)
          | (go_at_call 24; have tk := tok2; (with_reducible refine (HW1.out _).mono ?_); rintro e w2 ⟨rfl, hM⟩; have hM2 := HM1.out.trans hM; obtain ⟨g0, g1, g2, g3⟩ := HC.out _ hM2; have HM2 := Hold.mk hM2; clear hM hM2 tk)
          | (go_at_call 24; (with_reducible refine (HW2.out _).mono ?_); rintro e w2 ⟨rfl, hM⟩; have HM4 := Hold.mk ((HM3.out.alloc _).trans hM); clear hM))
        all_goals
          go_ret
          exact ⟨by rw [HV.out]; rfl, HM0.out.trans HM4.out⟩
end Go.Proofs.Ytnplhlcifagimaa

/- Judge. -/
import Derived.Test.YtknbcmildpmokaaScS
set_option linter.unusedSimpArgs false
set_option linter.unusedVariables false
namespace Go.Proofs.Ytknbcmildpmokaa
open Go.RowKit Go.Shelf


theorem check_zero {b : Bx} {l : List Rdg} {ts : List Tst} (h : checkE b l ts = 0) : boxB b = true ∧ l.length ≤ 16 ∧ ts.length ≤ 8 ∧ (∀ r ∈ l, testB b.ks.length r.t = true) ∧ ∀ t ∈ ts, testB b.ks.length t = true := by
  unfold checkE at h
  split at h
  · rename_i hb
    split at h
    · rename_i hl
      split at h
      · rename_i hh
        rw [Bool.and_eq_true, List.all_eq_true, List.all_eq_true] at hh
        exact ⟨hb, hl.1, hl.2, hh.1, hh.2⟩
      · cases h
    · cases h
  · cases h
theorem checkE_val (b : Bx) (l : List Rdg) (ts : List Tst) : checkE b l ts = 0 ∨ checkE b l ts = 1 ∨ checkE b l ts = 3 := by
  unfold checkE
  split
  · split
    · split
      · exact .inl rfl
      · exact .inr (.inl rfl)
    · exact .inr (.inr rfl)
  · exact .inr (.inl rfl)
/-- A box, and lists. -/
structure JuF (B : Nat) (w : World) (ao : Option Addr) (cap : Nat) (b : Bx) (ro : Option Addr) (l : List Rdg) (to : Option Addr) (ts : List Tst) (W : World) : Prop where
  b : BoxAt B W w.heap.size ao cap b
  r : ReadsAt B W ro l
  t : TestsAt B W to ts
  w : Mod noB w W
  z : B ≤ W.heap.size

theorem juF {B : Nat} {w : World} {ao : Option Addr} {cap : Nat} {b : Bx} {ro : Option Addr} {l : List Rdg} {to : Option Addr} {ts : List Tst} (hB : B ≤ w.heap.size) (hs : KindsAt B w ao b.ks) (hr : ReadsAt B w ro l) (ht : TestsAt B w to ts) : Kept (w.alloc (.cells (bxC ao b.ks.length cap b) 26)) (fun W => JuF B w ao cap b ro l to ts W) := fun W h => by
  have hm := ((Mod.refl noB w).alloc (.cells (bxC ao b.ks.length cap b) 26)).trans h
  exact ⟨⟨new_at w _ W h, hs.low (Low.ofN hm hB)⟩, hr.low (Low.ofN hm hB), ht.low (Low.ofN hm hB), hm, Nat.le_trans hB hm.size⟩

theorem len_nz {n : Nat} (h : ¬ n = 0) : ((n : Int) == 0) = false := by
  rw [beq_eq_false_iff_ne]; omega
theorem len_z {n : Nat} (h : n = 0) : ((n : Int) == 0) = true := by
  rw [beq_iff_eq]; omega

set_option maxRecDepth 100000 in
set_option maxHeartbeats 4000000 in
theorem judge_any (B : Nat) (ao ro : Option Addr) (cap rcap : Nat) (b : Bx) (l : List Rdg) (w : World) (hB : B ≤ w.heap.size) (hs : KindsAt B w ao b.ks) (hr : ReadsAt B w ro l) :
    Calls Try.prog 16 #[bxV ao b.ks.length cap b, .slice ro l.length rcap] w fun e w' => e = .returned (.tuple #[.int .i64 (judgeE b l).1, .int .i64 (judgeE b l).2]) ∧ Mod noB w w' := by
  have hls := hr.small
  have hksm := hs.small
  have HF : Hold (Kept (w.alloc (.cells (bxC ao b.ks.length cap b) 26)) (fun W => JuF B w ao cap b ro l none ([] : List Tst) W)) := ⟨juF hB hs hr (ListAt.nilL _ _ _ _ _)⟩
  have H48 := Hold.mk (fun (W : World) (h : JuF B w ao cap b ro l none ([] : List Tst) W) => check_any B ao ro none cap rcap 0 b l [] W h.z h.b.k h.r h.t)
  by_cases hc : checkE b l [] = 0
  · obtain ⟨hb, h16, _, hrt, _⟩ := check_zero hc
    simp only [hc] at H48
    have H49 := Hold.mk (fun (W : World) (h : JuF B w ao cap b ro l none ([] : List Tst) W) => fitting_any B ao ro cap rcap b l W h.z hb hrt h.b.k h.r)
    have hn1 : (completeL b l).length ≤ 4096 := Nat.le_trans (List.length_filter_le _ _) (allL_len hb)
    have hn2 : (othersL b l).length ≤ 4096 := Nat.le_trans (List.length_filter_le _ _) (allL_len hb)
    have he : Hold (judgeE b l = if (completeL b l).length + (othersL b l).length = 0 then (0, 6) else if (othersL b l).length = 0 then (2, 0) else if (completeL b l).length = 0 then (0, 0) else (1, 0)) := ⟨by simp [judgeE, hc]⟩
    clear hs hr hc hb hrt
    obtain ⟨n1, e1⟩ : ∃ n, (completeL b l).length = n := ⟨_, rfl⟩
    obtain ⟨n2, e2⟩ : ∃ n, (othersL b l).length = n := ⟨_, rfl⟩
    rw [e1] at he hn1
    rw [e2] at he hn2
    have HN := Hold.mk (And.intro e1 e2)
    clear e1 e2
    have hp : (n1 = 0 ∧ n2 = 0) ∨ (¬ n1 = 0 ∧ n2 = 0) ∨ (n1 = 0 ∧ ¬ n2 = 0) ∨ (¬ n1 = 0 ∧ ¬ n2 = 0) := by omega
    have b1 : ∀ n : Nat, n = 0 ∨ ¬ n = 0 := fun n => by omega
    obtain ⟨t0, g0⟩ : ∃ t : Bool, ((n1 : Int) + (n2 : Int) == 0) = t := ⟨_, rfl⟩
    obtain ⟨t1, g1⟩ : ∃ t : Bool, ((n2 : Int) == 0) = t := ⟨_, rfl⟩
    obtain ⟨t2, g2⟩ : ∃ t : Bool, ((n1 : Int) == 0) = t := ⟨_, rfl⟩
    have HG : Hold (judgeE b l = if t0 then (0, 6) else if t1 then (2, 0) else if t2 then (0, 0) else (1, 0)) := ⟨by
      rw [he.out, ← g0, ← g1, ← g2]
      rcases hp with ⟨h1, h2⟩ | ⟨h1, h2⟩ | ⟨h1, h2⟩ | ⟨h1, h2⟩
      · subst h1 h2; rfl
      · subst h2; have : ((n1 : Int) + ((0 : Nat) : Int) == 0) = false := by rw [beq_eq_false_iff_ne]; omega
        rw [this]; simp [h1]
      · subst h1; have : (((0 : Nat) : Int) + (n2 : Int) == 0) = false := by rw [beq_eq_false_iff_ne]; omega
        rw [this]; simp [h2]
      · have : ((n1 : Int) + (n2 : Int) == 0) = false := by rw [beq_eq_false_iff_ne]; omega
        rw [this]; simp [h1, h2]⟩
    clear hp b1 he
    obtain ⟨b0, b1, b2, b3, b4⟩ := HF.out.now.b.cells
    cases t0
    case true =>
      go_enter Try.func16, Try.ntmps16
      go_wp2_with (first
        | (go_at_call 48; refine (H48.out _ HF.out.now).mono ?_; rintro e w1 ⟨rfl, hM⟩; have HF1 := Hold.mk (HF.out.later hM); clear b0 b1 b2 b3 b4; obtain ⟨b0, b1, b2, b3, b4⟩ := HF1.out.now.b.cells; clear hM)
        | (go_at_call 49; refine (H49.out _ HF1.out.now).mono ?_; rintro e w2 ⟨v1, v2, rfl, ho1, ho2, _, hM⟩; obtain ⟨ao1, cap1, rfl⟩ := own_form ho1; obtain ⟨ao2, cap2, rfl⟩ := own_form ho2; have HF2 := Hold.mk (HF1.out.later hM); simp only [HN.out.1, HN.out.2]; clear hM ho1 ho2))
      go_ret2
      exact ⟨by rw [HG.out]; rfl, HF2.out.now.w⟩
    case false =>
      cases t1
      case true =>
        go_enter Try.func16, Try.ntmps16
        go_wp2_with (first
          | (go_at_call 48; refine (H48.out _ HF.out.now).mono ?_; rintro e w1 ⟨rfl, hM⟩; have HF1 := Hold.mk (HF.out.later hM); clear b0 b1 b2 b3 b4; obtain ⟨b0, b1, b2, b3, b4⟩ := HF1.out.now.b.cells; clear hM)
          | (go_at_call 49; refine (H49.out _ HF1.out.now).mono ?_; rintro e w2 ⟨v1, v2, rfl, ho1, ho2, _, hM⟩; obtain ⟨ao1, cap1, rfl⟩ := own_form ho1; obtain ⟨ao2, cap2, rfl⟩ := own_form ho2; have HF2 := Hold.mk (HF1.out.later hM); simp only [HN.out.1, HN.out.2]; clear hM ho1 ho2))
        go_ret2
        exact ⟨by rw [HG.out]; rfl, HF2.out.now.w⟩
      case false =>
        cases t2
        all_goals
          go_enter Try.func16, Try.ntmps16
          go_wp2_with (first
            | (go_at_call 48; refine (H48.out _ HF.out.now).mono ?_; rintro e w1 ⟨rfl, hM⟩; have HF1 := Hold.mk (HF.out.later hM); clear b0 b1 b2 b3 b4; obtain ⟨b0, b1, b2, b3, b4⟩ := HF1.out.now.b.cells; clear hM)
            | (go_at_call 49; refine (H49.out _ HF1.out.now).mono ?_; rintro e w2 ⟨v1, v2, rfl, ho1, ho2, _, hM⟩; obtain ⟨ao1, cap1, rfl⟩ := own_form ho1; obtain ⟨ao2, cap2, rfl⟩ := own_form ho2; have HF2 := Hold.mk (HF1.out.later hM); simp only [HN.out.1, HN.out.2]; clear hM ho1 ho2))
          go_ret2
          exact ⟨by rw [HG.out]; rfl, HF2.out.now.w⟩
  · have he : Hold (judgeE b l = (0, checkE b l [])) := ⟨by simp [judgeE, hc]⟩
    have hne : (checkE b l [] != 0) = true := by simpa using hc
    have hne2 : (checkE b l [] == 0) = false := by simpa using hc
    clear hs hr hc
    generalize checkE b l [] = ck at *
    obtain ⟨b0, b1, b2, b3, b4⟩ := HF.out.now.b.cells
    go_enter Try.func16, Try.ntmps16
    go_wp2_with (go_at_call 48; refine (H48.out _ HF.out.now).mono ?_; rintro e w1 ⟨rfl, hM⟩; have HF1 := Hold.mk (HF.out.later hM); clear hM)
    go_ret2
    exact ⟨by rw [he.out]; rfl, HF1.out.now.w⟩

end Go.Proofs.Ytknbcmildpmokaa

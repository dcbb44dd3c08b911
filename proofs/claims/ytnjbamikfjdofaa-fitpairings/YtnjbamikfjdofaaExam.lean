/- Ints; what the document's examples are, and what they come to. -/
import Derived.Test.YtnjbamikfjdofaaPairsB
import Derived.Test.YtnjbamikfjdofaaLast
set_option linter.unusedSimpArgs false
set_option linter.unusedVariables false
namespace Go.Proofs.Ytnjbamikfjdofaa
open Go.RowKit Go.Shelf

set_option maxRecDepth 100000 in
set_option maxHeartbeats 2000000 in
theorem ints_any (ao bo : Option Addr) (L M : List Int) (c d : Nat) (w : World) (ha : IntsAt w ao L) (hb : IntsAt w bo M) :
    Calls Try.prog 28 #[.slice ao L.length c, .slice bo M.length d] w fun e w' => e = .returned (.bool (decide (L = M))) ∧ Mod noB w w' := by
  have hsm := ha.small
  have hsm2 := hb.small
  have HA := Hold.mk (And.intro ha hb)
  clear ha hb
  by_cases hl : L.length = M.length
  · have hl1 : ((L.length : Int) != (M.length : Int)) = false := by simp [bne, hl]
    have HL := Hold.mk hl
    rw [← hl]
    rw [← hl] at hl1
    clear hl
    go_enter Try.func28, Try.ntmps28
    go_wp2
    go_loopw [5] (fun i wr => ∃ k : Nat, k ≤ L.length ∧ i = .int .i64 k ∧ (∀ j, j < k → L[j]? = M[j]?) ∧ Mod noB w wr) (fun i _ => L.length - (intOf i).toNat)
    case atStart => exact ⟨0, Nat.zero_le _, rfl, fun j hj => absurd hj (Nat.not_lt_zero _), Mod.refl _ _⟩
    case round =>
      obtain ⟨k, hk, rfl, h0, hmr⟩ := hrel
      have H0 := Hold.mk h0
      clear h0
      by_cases hlt : k < L.length
      · have hlt2 : k < M.length := by have := HL.out; omega
        obtain ⟨b1, o1, rfl, hb1, hc1⟩ := (HA.out.1.mod hmr).lies (fun e => by simp [e] at hlt)
        obtain ⟨b2, o2, rfl, hb2, hc2⟩ := (HA.out.2.mod hmr).lies (fun e => by simp [e] at hlt2)
        have h1 := hc1 k hlt
        have h2 := hc2 k hlt2
        obtain ⟨x, hx⟩ : ∃ x, L[k]? = some x := ⟨_, List.getElem?_eq_getElem hlt⟩
        obtain ⟨y, hy⟩ : ∃ y, M[k]? = some y := ⟨_, List.getElem?_eq_getElem hlt2⟩
        rw [hx, Option.getD_some] at h1
        rw [hy, Option.getD_some] at h2
        have HXY := Hold.mk (And.intro hx hy)
        have HM := Hold.mk hmr
        clear hc1 hc2 hmr hx hy hlt2
        by_cases he : x = y
        · subst he
          go_wp2
          go_quiet (fail)
          go_wp2
          go_roundw
          case rel => exact ⟨k + 1, by omega, by go_num, fun j hj => by
            rcases Nat.lt_succ_iff_lt_or_eq.1 hj with h | rfl
            · exact H0.out j h
            · rw [HXY.out.1, HXY.out.2], HM.out.drewN _⟩
          case measure => simp [intOf]; omega
        · have hne : (x != y) = true := by simp [bne, he]
          have HE := Hold.mk he
          clear he
          go_wp2
          go_quiet (fail)
          go_wp2
          go_ret
          refine ⟨?_, HM.out.drewN _⟩
          have : decide (L = M) = false := by
            simp only [decide_eq_false_iff_not]
            intro e
            subst e
            obtain ⟨h1, h2⟩ := HXY.out
            rw [h1] at h2
            exact HE.out (by simpa using h2)
          rw [this]; rfl
      · obtain rfl : k = L.length := by omega
        go_wp2
        go_ret
        refine ⟨?_, hmr⟩
        have : L = M := List.ext_getElem? (fun i => by
          by_cases hi : i < L.length
          · exact H0.out i hi
          · rw [List.getElem?_eq_none (by omega), List.getElem?_eq_none (by have := HL.out; omega)])
        simp [this]
  · have hl1 : ((L.length : Int) != (M.length : Int)) = true := by simp [bne]; omega
    have hf : decide (L = M) = false := by
      simp only [decide_eq_false_iff_not]
      intro e
      exact hl (by rw [e])
    have HF := Hold.mk hf
    clear hl hf
    go_enter Try.func28, Try.ntmps28
    go_wp2
    go_ret
    exact ⟨by rw [HF.out]; rfl, Mod.refl _ _⟩

set_option maxHeartbeats 400000 in
theorem span_any (lo hi : Int) (w : World) : Calls Try.prog 31 #[.int .i64 lo, .int .i64 hi] w fun e w' => e = .returned (spV (lo, hi)) ∧ Mod noB w w' := by
  go_enter Try.func31, Try.ntmps31
  go_wp2
  exact bodyPost_ret (v := spV (lo, hi)) (by simp [results, Try.results31, go_sem]) rfl ⟨rfl, (Mod.refl _ _).alloc _⟩

/-- What is allowed in the examples; the tab A; the holes B and C; the tab E with so wide a tab. -/
abbrev playX : Ply := ⟨2000, 20, 30, (0, 10)⟩
abbrev tabX : Edg := ⟨1, (995, 1005), (500, 510), (400, 405)⟩
abbrev holeX : Edg := ⟨2, (990, 1000), (515, 520), (410, 420)⟩
abbrev otherX : Edg := ⟨2, (1000, 1010), (505, 520), (410, 420)⟩
abbrev slimX (lo hi : Int) : Edg := ⟨1, (980, 985), (lo, hi), (390, 395)⟩

set_option maxHeartbeats 1000000 in
theorem playX_any (w : World) : Calls Try.prog 30 #[] w fun e w' => e = .returned (plV playX) ∧ Mod noB w w' := by
  have hb := World.alloc_heap_new w (.cells (plC ⟨0, 0, 0, (0, 0)⟩) 25)
  have HB := Hold.mk hb
  clear hb
  go_enter Try.func30, Try.ntmps30
  go_wp2_with (go_at_call 31; refine (span_any _ _ _).mono ?_; rintro e w1 ⟨rfl, hM⟩
               have h1 := hM.at HB.out id
               have c0 := cellsAt h1 0; have c1 := cellsAt h1 1; have c2 := cellsAt h1 2; have c3 := cellsAt h1 3; have c4 := cellsAt h1 4
               have f0 := cells_frozen h1 0; have f1 := cells_frozen h1 1; have f2 := cells_frozen h1 2; have f3 := cells_frozen h1 3; have f4 := cells_frozen h1 4
               have HM := Hold.mk (((Mod.refl noB w).alloc _).trans hM); clear hM h1)
  refine bodyPost_ret (v := plV playX) (by simp [results, Try.results30, go_sem, *]) rfl ⟨rfl, ?_⟩
  exact Mod.setNew (Mod.setNew (Mod.setNew (Mod.setNew (Mod.setNew HM.out (by omega) _) (by omega) _) (by omega) _) (by omega) _) (by omega) _

set_option maxHeartbeats 2000000 in
theorem tabX_any (w : World) : Calls Try.prog 32 #[] w fun e w' => e = .returned (edV (tabX)) ∧ Mod noB w w' := by
  have hb := World.alloc_heap_new w (.cells (edC zeroE) 27)
  have HB := Hold.mk hb
  have HM := Hold.mk ((Mod.refl noB w).alloc (.cells (edC zeroE) 27))
  have c0 := cellsAt hb 0; have c1 := cellsAt hb 1; have c2 := cellsAt hb 2; have c3 := cellsAt hb 3; have c4 := cellsAt hb 4; have c5 := cellsAt hb 5; have c6 := cellsAt hb 6
  have f0 := cells_frozen hb 0; have f1 := cells_frozen hb 1; have f2 := cells_frozen hb 2; have f3 := cells_frozen hb 3; have f4 := cells_frozen hb 4; have f5 := cells_frozen hb 5; have f6 := cells_frozen hb 6
  clear hb
  go_enter Try.func32, Try.ntmps32
  go_wp2_with (go_at_call 31; refine (span_any _ _ _).mono ?_; rintro e w1 ⟨rfl, hM⟩
               have HM2 := Hold.mk (HM.out.trans hM)
               have h1 := hM.at HB.out id
               clear c0 c1 c2 c3 c4 c5 c6 f0 f1 f2 f3 f4 f5 f6 HB HM
               have c0 := cellsAt h1 0; have c1 := cellsAt h1 1; have c2 := cellsAt h1 2; have c3 := cellsAt h1 3; have c4 := cellsAt h1 4; have c5 := cellsAt h1 5; have c6 := cellsAt h1 6
               have f0 := cells_frozen h1 0; have f1 := cells_frozen h1 1; have f2 := cells_frozen h1 2; have f3 := cells_frozen h1 3; have f4 := cells_frozen h1 4; have f5 := cells_frozen h1 5; have f6 := cells_frozen h1 6
               have HM := HM2
               have HB := Hold.mk h1
               clear hM h1 HM2)
  refine bodyPost_ret (v := edV (tabX)) (by simp [results, Try.results32, go_sem, *]) rfl ⟨rfl, ?_⟩
  exact sevenMod HM.out (by omega)

set_option maxHeartbeats 2000000 in
theorem holeX_any (w : World) : Calls Try.prog 29 #[] w fun e w' => e = .returned (edV (holeX)) ∧ Mod noB w w' := by
  have hb := World.alloc_heap_new w (.cells (edC zeroE) 27)
  have HB := Hold.mk hb
  have HM := Hold.mk ((Mod.refl noB w).alloc (.cells (edC zeroE) 27))
  have c0 := cellsAt hb 0; have c1 := cellsAt hb 1; have c2 := cellsAt hb 2; have c3 := cellsAt hb 3; have c4 := cellsAt hb 4; have c5 := cellsAt hb 5; have c6 := cellsAt hb 6
  have f0 := cells_frozen hb 0; have f1 := cells_frozen hb 1; have f2 := cells_frozen hb 2; have f3 := cells_frozen hb 3; have f4 := cells_frozen hb 4; have f5 := cells_frozen hb 5; have f6 := cells_frozen hb 6
  clear hb
  go_enter Try.func29, Try.ntmps29
  go_wp2_with (go_at_call 31; refine (span_any _ _ _).mono ?_; rintro e w1 ⟨rfl, hM⟩
               have HM2 := Hold.mk (HM.out.trans hM)
               have h1 := hM.at HB.out id
               clear c0 c1 c2 c3 c4 c5 c6 f0 f1 f2 f3 f4 f5 f6 HB HM
               have c0 := cellsAt h1 0; have c1 := cellsAt h1 1; have c2 := cellsAt h1 2; have c3 := cellsAt h1 3; have c4 := cellsAt h1 4; have c5 := cellsAt h1 5; have c6 := cellsAt h1 6
               have f0 := cells_frozen h1 0; have f1 := cells_frozen h1 1; have f2 := cells_frozen h1 2; have f3 := cells_frozen h1 3; have f4 := cells_frozen h1 4; have f5 := cells_frozen h1 5; have f6 := cells_frozen h1 6
               have HM := HM2
               have HB := Hold.mk h1
               clear hM h1 HM2)
  refine bodyPost_ret (v := edV (holeX)) (by simp [results, Try.results29, go_sem, *]) rfl ⟨rfl, ?_⟩
  exact sevenMod HM.out (by omega)

set_option maxHeartbeats 2000000 in
theorem otherX_any (w : World) : Calls Try.prog 33 #[] w fun e w' => e = .returned (edV (otherX)) ∧ Mod noB w w' := by
  have hb := World.alloc_heap_new w (.cells (edC zeroE) 27)
  have HB := Hold.mk hb
  have HM := Hold.mk ((Mod.refl noB w).alloc (.cells (edC zeroE) 27))
  have c0 := cellsAt hb 0; have c1 := cellsAt hb 1; have c2 := cellsAt hb 2; have c3 := cellsAt hb 3; have c4 := cellsAt hb 4; have c5 := cellsAt hb 5; have c6 := cellsAt hb 6
  have f0 := cells_frozen hb 0; have f1 := cells_frozen hb 1; have f2 := cells_frozen hb 2; have f3 := cells_frozen hb 3; have f4 := cells_frozen hb 4; have f5 := cells_frozen hb 5; have f6 := cells_frozen hb 6
  clear hb
  go_enter Try.func33, Try.ntmps33
  go_wp2_with (go_at_call 31; refine (span_any _ _ _).mono ?_; rintro e w1 ⟨rfl, hM⟩
               have HM2 := Hold.mk (HM.out.trans hM)
               have h1 := hM.at HB.out id
               clear c0 c1 c2 c3 c4 c5 c6 f0 f1 f2 f3 f4 f5 f6 HB HM
               have c0 := cellsAt h1 0; have c1 := cellsAt h1 1; have c2 := cellsAt h1 2; have c3 := cellsAt h1 3; have c4 := cellsAt h1 4; have c5 := cellsAt h1 5; have c6 := cellsAt h1 6
               have f0 := cells_frozen h1 0; have f1 := cells_frozen h1 1; have f2 := cells_frozen h1 2; have f3 := cells_frozen h1 3; have f4 := cells_frozen h1 4; have f5 := cells_frozen h1 5; have f6 := cells_frozen h1 6
               have HM := HM2
               have HB := Hold.mk h1
               clear hM h1 HM2)
  refine bodyPost_ret (v := edV (otherX)) (by simp [results, Try.results33, go_sem, *]) rfl ⟨rfl, ?_⟩
  exact sevenMod HM.out (by omega)

set_option maxHeartbeats 2000000 in
theorem slimX_any (lo hi : Int) (w : World) : Calls Try.prog 34 #[.int .i64 lo, .int .i64 hi] w fun e w' => e = .returned (edV (slimX lo hi)) ∧ Mod noB w w' := by
  have hb := World.alloc_heap_new w (.cells (edC zeroE) 27)
  have HB := Hold.mk hb
  have HM := Hold.mk ((Mod.refl noB w).alloc (.cells (edC zeroE) 27))
  have c0 := cellsAt hb 0; have c1 := cellsAt hb 1; have c2 := cellsAt hb 2; have c3 := cellsAt hb 3; have c4 := cellsAt hb 4; have c5 := cellsAt hb 5; have c6 := cellsAt hb 6
  have f0 := cells_frozen hb 0; have f1 := cells_frozen hb 1; have f2 := cells_frozen hb 2; have f3 := cells_frozen hb 3; have f4 := cells_frozen hb 4; have f5 := cells_frozen hb 5; have f6 := cells_frozen hb 6
  clear hb
  go_enter Try.func34, Try.ntmps34
  go_wp2_with (go_at_call 31; refine (span_any _ _ _).mono ?_; rintro e w1 ⟨rfl, hM⟩
               have HM2 := Hold.mk (HM.out.trans hM)
               have h1 := hM.at HB.out id
               clear c0 c1 c2 c3 c4 c5 c6 f0 f1 f2 f3 f4 f5 f6 HB HM
               have c0 := cellsAt h1 0; have c1 := cellsAt h1 1; have c2 := cellsAt h1 2; have c3 := cellsAt h1 3; have c4 := cellsAt h1 4; have c5 := cellsAt h1 5; have c6 := cellsAt h1 6
               have f0 := cells_frozen h1 0; have f1 := cells_frozen h1 1; have f2 := cells_frozen h1 2; have f3 := cells_frozen h1 3; have f4 := cells_frozen h1 4; have f5 := cells_frozen h1 5; have f6 := cells_frozen h1 6
               have HM := HM2
               have HB := Hold.mk h1
               clear hM h1 HM2)
  refine bodyPost_ret (v := edV (slimX lo hi)) (by simp [results, Try.results34, go_sem, *]) rfl ⟨rfl, ?_⟩
  exact sevenMod HM.out (by omega)

theorem exFit : fitE playX tabX holeX = (2, 0) := by decide +kernel
theorem exBetween : betweenE playX holeX tabX = (((-16, 6), (5, 21), (5, 21)), 0) := by decide +kernel
theorem exWorn : wornE tabX (2, 3) 5000 = (⟨1, (995, 1005), (485, 500), (400, 405)⟩, 0) := by decide +kernel
theorem exLast : lastE playX tabX holeX (2, 3) = (0, 1333, 0) := by decide +kernel
theorem exMatches : matchesE playX tabX [holeX, otherX, tabX] = ([0], [0, 1], 0) := by decide +kernel
theorem exPairs : pairsE playX [tabX, slimX 480 485] [holeX, otherX] = ([0, 1], [1, 0], 0) := by decide +kernel
end Go.Proofs.Ytnjbamikfjdofaa

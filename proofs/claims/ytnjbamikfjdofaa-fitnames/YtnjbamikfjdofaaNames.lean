/- FitNames: errors, numbers and limits have the document's values, and the chapter's examples hold. -/
import Derived.Test.YtnjbamikfjdofaaAlive
set_option linter.unusedSimpArgs false
set_option linter.unusedVariables false
namespace Go.Proofs.Ytnjbamikfjdofaa
open Go.RowKit Go.Shelf

abbrev narrowX : Edg := ⟨2, (990, 1000), (480, 495), (410, 420)⟩
abbrev roomyX : Ply := ⟨2000, 20, 40, (0, 10)⟩
theorem exOther : fitE playX tabX otherX = (1, 0) := by decide +kernel
theorem exNarrow : fitE playX tabX narrowX = (0, 0) := by decide +kernel
theorem exSlim : fitE playX tabX (slimX 480 485) = (0, 0) := by decide +kernel
theorem exHole : wornE holeX (2, 3) 5000 = (⟨2, (990, 1000), (525, 535), (410, 420)⟩, 0) := by decide +kernel
theorem exNone : lastE playX tabX otherX (2, 3) = (0, 0, 4) := by decide +kernel
theorem exRoomy : lastE roomyX tabX otherX (2, 3) = (1500, 3000, 0) := by decide +kernel
theorem exOne : pairsE playX [tabX, slimX 476 480] [holeX, otherX] = ([0, 1], [], 0) := by decide +kernel

/-- A cell of another block is set: this one lies as it did. -/
theorem set_other {W : World} {b c : Nat} {o : Obj} (h : W.heap[b]? = some o) (k : Nat) (v : Value) (hne : b ≠ c) : (W.setCell ⟨c, k, none⟩ v).heap[b]? = some o :=
  ((Mod.refl (fun j => j = c) W).setCell (p := ⟨c, k, none⟩) (fun _ => rfl) v).at h hne

set_option maxRecDepth 100000 in
set_option maxHeartbeats 4000000 in
theorem names_any (w : World) : Calls Try.prog 6 #[] w fun e w' => e = .returned (.bool true) ∧ Mod noB w w' := by
  have HF := Hold.mk (kept_mod w)
  have K0 := Hold.mk trivial
  go_enter Try.func6, Try.ntmps6
  go_wp2_with (first
    | (go_at_call 29; have Kx := K0; refine (holeX_any _).mono ?_; rintro e wA ⟨rfl, hM⟩; have HF := Hold.mk (HF.out.later hM); clear hM)
    | (go_at_call 30; have Kx := K0; refine (playX_any _).mono ?_; rintro e wP ⟨rfl, hM⟩; have HF := Hold.mk (HF.out.later hM); clear hM K0 Kx; have K1 := Hold.mk trivial)
    | (go_at_call 31; have Kx := K1; refine (span_any _ _ _).mono ?_; rintro e wS ⟨rfl, hM⟩
       have hA : wS.heap[wP.heap.size]? = some (.cells (edC holeX) 27) := hM.at (allocL_at [.cells (edC holeX) 27, .cells (plC playX) 25] wP 0 _ rfl) id
       have hB : wS.heap[wP.heap.size + 1]? = some (.cells (plC playX) 25) := hM.at (allocL_at [.cells (edC holeX) 27, .cells (plC playX) 25] wP 1 _ rfl) id
       have HM := Hold.mk ((HF.out.later ((((Mod.refl noB wP).alloc _).alloc _).trans hM)).now)
       have c3 := cellsAt hA 3; have c4 := cellsAt hA 4; have d2 := cellsAt hB 2
       have f3 := cells_frozen hA 3; have f4 := cells_frozen hA 4; have g2 := cells_frozen hB 2
       have HAB := Hold.mk (And.intro hA hB)
       clear hM K1 Kx hA hB; have K2 := Hold.mk trivial)
    | (go_at_call 30; have Kx := K2; refine (playX_any _).mono ?_; rintro e w1 ⟨rfl, hM⟩
       clear K2 Kx c3 c4 d2 f3 f4 g2
       have hA : w1.heap[wP.heap.size]? = some (.cells (edC narrowX) 27) := hM.at (set_other (setCell_at (setCell_at HAB.out.1 3 (.int .i64 480)) 4 (.int .i64 495)) 2 (.int .i64 40) (by omega)) id
       have hB : w1.heap[wP.heap.size + 1]? = some (.cells (plC roomyX) 25) := hM.at (setCell_at (set_other (set_other HAB.out.2 3 (.int .i64 480) (by omega)) 4 (.int .i64 495) (by omega)) 2 (.int .i64 40)) id
       have hW : w.heap.size ≤ wP.heap.size := (by have := HF.out.now.size; omega)
       have HF := Hold.mk (((Kept.later (kept_mod w) (Mod.trans (Mod.setNew (Mod.setNew (Mod.setNew HM.out (by omega) _) (by omega) _) (by omega) _) hM)).and (kept_block hA)).and (kept_block hB))
       clear hM hA hB hW HAB HM; have K3 := Hold.mk trivial)
    | (go_at_call 15; have Kx := K3; refine (callFit playX tabX otherX _ _ exOther _).mono ?_; rintro e wR ⟨rfl, hM⟩; have HF := Hold.mk (HF.out.later hM); clear hM K3 Kx)
    | (go_at_call 30; have Kx := K3; refine (playX_any _).mono ?_; rintro e w1 ⟨rfl, hM⟩; have HF := Hold.mk (HF.out.later hM); clear hM)
    | (go_at_call 32; have Kx := K3; refine (tabX_any _).mono ?_; rintro e w1 ⟨rfl, hM⟩; have HF := Hold.mk (HF.out.later hM); clear hM)
    | (go_at_call 33; have Kx := K3; refine (otherX_any _).mono ?_; rintro e w1 ⟨rfl, hM⟩; have HF := Hold.mk (HF.out.later hM); clear hM))
  have FIN : Hold (∀ W', Mod noB wR W' → W'.heap[wP.heap.size]? = some (.cells (edC narrowX) 27)) := ⟨fun W' h => (HF.out.later h).now.1.2⟩
  refine region_quietP (by kernel_rfl) (by kernel_rfl) (fun W' => Mod noB wR W') ((Mod.refl _ _).drew) ?_
  repeat
    (first
      | go_big_quiet_skip
      | (go_big_quiet_want
         go_simp
         first
           | go_big_quiet_on
           | (apply Exists.intro
              refine ⟨fun W' hC => ?_, ?_⟩
              · have hg := FIN.out W' hC
                obtain ⟨g0, g1, g2, g3, g4, g5, g6⟩ := EdgeAt.of hg
                first
                  | (go_at_call 30; (with_reducible refine (playX_any _).mono ?_); exact fun e w'' he => ⟨he.1, hC.trans he.2⟩)
                  | (go_at_call 32; (with_reducible refine (tabX_any _).mono ?_); exact fun e w'' he => ⟨he.1, hC.trans he.2⟩)
                  | (go_at_call 15; (refine (callFit playX tabX narrowX _ _ exNarrow _).mono ?_); exact fun e w'' he => ⟨he.1, hC.trans he.2⟩)
                  | with_reducible rfl
                  | (go_simp; first | rfl | exact ⟨rfl, rfl⟩)
              go_big_quiet_on)
           | (refine ⟨⟨_, fun _ _ => rfl⟩, ?_⟩; go_big_quiet_on)))
  refine wpQuiet_nil ?_
  intro Wq hq
  have HF := Hold.mk (HF.out.later hq)
  clear hq FIN
  have K4 := Hold.mk trivial
  go_wp2_with (first
    | (go_at_call 15; have Kx := K4; refine (callFit playX tabX (slimX 480 485) _ _ exSlim _).mono ?_; rintro e w1 ⟨rfl, hM⟩; have HF := Hold.mk (HF.out.later hM); clear hM Kx K4; have K5 := Hold.mk trivial)
    | (go_at_call 34; have Kx := K4; refine (slimX_any 480 485 _).mono ?_; rintro e w1 ⟨rfl, hM⟩; have HF := Hold.mk (HF.out.later hM); clear hM Kx)
    | (go_at_call 19; have Kx := K5; refine (callWorn holeX (2, 3) 5000 _ _ exHole _).mono ?_; rintro e wE ⟨rfl, hM⟩; have HF := Hold.mk (HF.out.later hM); clear hM Kx K5; have K6 := Hold.mk trivial)
    | (go_at_call 30; have Kx := K6; refine (playX_any _).mono ?_; rintro e w1 ⟨rfl, hM⟩; have HF := Hold.mk ((HF.out.later (((Mod.refl noB wE).alloc _).trans hM)).and (kept_block (hM.at (World.alloc_heap_new wE _) id))); clear hM K6 Kx; have K7 := Hold.mk trivial)
    | (go_at_call 22; have Kx := K7; refine (callLast playX tabX otherX (2, 3) _ _ _ exNone _).mono ?_; rintro e wR2 ⟨rfl, hM⟩; have HF := Hold.mk (HF.out.later hM); clear hM K7 Kx)
    | (go_at_call 30; refine (playX_any _).mono ?_; rintro e w1 ⟨rfl, hM⟩; have HF := Hold.mk (HF.out.later hM); clear hM)
    | (go_at_call 32; refine (tabX_any _).mono ?_; rintro e w1 ⟨rfl, hM⟩; have HF := Hold.mk (HF.out.later hM); clear hM)
    | (go_at_call 29; refine (holeX_any _).mono ?_; rintro e w1 ⟨rfl, hM⟩; have HF := Hold.mk (HF.out.later hM); clear hM)
    | (go_at_call 33; refine (otherX_any _).mono ?_; rintro e w1 ⟨rfl, hM⟩; have HF := Hold.mk (HF.out.later hM); clear hM)
    | (go_at_call 31; refine (span_any _ _ _).mono ?_; rintro e w1 ⟨rfl, hM⟩; have HF := Hold.mk (HF.out.later hM); clear hM))
  have FIN : Hold (∀ W', Mod noB wR2 W' → W'.heap[wP.heap.size + 1]? = some (.cells (plC roomyX) 25)) := ⟨fun W' h => (HF.out.later h).now.1.2⟩
  refine region_quietP (by kernel_rfl) (by kernel_rfl) (fun W' => Mod noB wR2 W') ((Mod.refl _ _).drew) ?_
  repeat
    (first
      | go_big_quiet_skip
      | (go_big_quiet_want
         go_simp
         first
           | go_big_quiet_on
           | (apply Exists.intro
              refine ⟨fun W' hC => ?_, ?_⟩
              · have hg := FIN.out W' hC
                obtain ⟨g0, g1, g2, g3, g4⟩ := PlayAt.of hg
                first
                  | (go_at_call 32; (with_reducible refine (tabX_any _).mono ?_); exact fun e w'' he => ⟨he.1, hC.trans he.2⟩)
                  | (go_at_call 33; (with_reducible refine (otherX_any _).mono ?_); exact fun e w'' he => ⟨he.1, hC.trans he.2⟩)
                  | (go_at_call 31; (with_reducible refine (span_any _ _ _).mono ?_); exact fun e w'' he => ⟨he.1, hC.trans he.2⟩)
                  | (go_at_call 22; (refine (callLast roomyX tabX otherX (2, 3) _ _ _ exRoomy _).mono ?_); exact fun e w'' he => ⟨he.1, hC.trans he.2⟩)
                  | with_reducible rfl
                  | (go_simp; first | rfl | exact ⟨rfl, rfl⟩)
              go_big_quiet_on)
           | (refine ⟨⟨_, fun _ _ => rfl⟩, ?_⟩; go_big_quiet_on)))
  refine wpQuiet_nil ?_
  intro Wq2 hq
  have HF := Hold.mk (HF.out.later hq)
  clear hq FIN
  have K8 := Hold.mk trivial
  go_wp2_with (first
    | (go_at_call 34; refine (slimX_any 476 480 _).mono ?_; rintro e wT ⟨rfl, hM⟩; have HF := Hold.mk (HF.out.later hM); clear hM; have HT := Hold.mk trivial)
    | (go_at_call 29; have HT1 := HT; refine (holeX_any _).mono ?_; rintro e w1 ⟨rfl, hM⟩; have HF := Hold.mk ((HF.out.later (((Mod.refl noB wT).alloc _).trans hM)).and (kept_block (hM.at (World.alloc_heap_new wT _) id))); clear hM HT HT1)
    | (go_at_call 26; refine (callPairs playX [tabX, slimX 476 480] [holeX, otherX] _ _ _ _ _ _ _ _ _ rfl rfl exOne (by decide) (by decide) _ (edges_lit _ (HF.out _ ((Mod.refl _ _).alloc _)).2 rfl (by decide)) (edges_lit _ (World.alloc_heap_new _ _) rfl (by decide))).mono ?_; rintro e wQ ⟨aP, cP, aQ, cQ, rfl, i1, i2, hM⟩; have HF := Hold.mk ((HF.out.later (((Mod.refl noB _).alloc _).trans hM)).and (kept_ints i1)); clear hM i1 i2)
    | (go_at_call 30; refine (playX_any _).mono ?_; rintro e w1 ⟨rfl, hM⟩; have HF := Hold.mk (HF.out.later hM); clear hM)
    | (go_at_call 32; refine (tabX_any _).mono ?_; rintro e w1 ⟨rfl, hM⟩; have HF := Hold.mk (HF.out.later hM); clear hM)
    | (go_at_call 33; refine (otherX_any _).mono ?_; rintro e w1 ⟨rfl, hM⟩; have HF := Hold.mk (HF.out.later hM); clear hM))
  have FS : Hold (∀ W', Mod noB wQ W' → (fun w' => Hold (Mod noB wQ w') ∧ w'.cell? ⟨wE.heap.size, 3, none⟩ = some (.int .i64 525) ∧ w'.cell? ⟨wE.heap.size, 4, none⟩ = some (.int .i64 535)) W') := ⟨fun W' h => by
    obtain ⟨e0, e1, e2, e3, e4, e5, e6⟩ := EdgeAt.of (e := ⟨2, (990, 1000), (525, 535), (410, 420)⟩) (HF.out.later h).now.1.1.2
    exact ⟨⟨h⟩, e3, e4⟩⟩
  simp only [List.append]
  go_region_held3 (fun w' => Hold (Mod noB wQ w') ∧ w'.cell? ⟨wE.heap.size, 3, none⟩ = some (.int .i64 525) ∧ w'.cell? ⟨wE.heap.size, 4, none⟩ = some (.int .i64 535))
    (first | exact FS.out _ ((Mod.refl _ _).drew) | exact FS.out _ HQ.out | exact FS.out _ (HQ.out.alloc _))
    (first
      | (go_at_call 21; refine (alive_any _).mono ?_; rintro e w1 ⟨rfl, hM⟩; have HQ := Hold.mk (((Mod.refl noB wQ).drew).trans hM); clear hM)
      | (go_at_call 31; refine (span_any _ _ _).mono ?_; rintro e w1 ⟨rfl, hM⟩; have HQ := Hold.mk (HQ.out.trans hM); clear hM)
      | (go_at_call 28; refine (callInts _ _ [0, 1] _ _ _ _ rfl rfl _ (HF.out _ (HQ.out.alloc _)).2 (ints_lit [0, 1] (World.alloc_heap_new _ _) rfl (by decide))).mono ?_; rintro e w1 ⟨rfl, hM⟩; have HQ := Hold.mk ((HQ.out.alloc _).trans hM); clear hM))
  go_wp2
  go_ret
  exact ⟨rfl, HF.out.now.1.1.1.1.1.trans HQ.out⟩
end Go.Proofs.Ytnjbamikfjdofaa

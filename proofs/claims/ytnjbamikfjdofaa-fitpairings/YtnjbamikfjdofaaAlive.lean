/- alive: the document's examples hold. -/
import Derived.Test.YtnjbamikfjdofaaExam
set_option linter.unusedSimpArgs false
set_option linter.unusedVariables false
namespace Go.Proofs.Ytnjbamikfjdofaa
open Go.RowKit Go.Shelf

theorem callFit (p : Ply) (a b : Edg) (k er : Int) (h : fitE p a b = (k, er)) (w : World) : Calls Try.prog 15 #[plV p, edV a, edV b] w fun e w' => e = .returned (.tuple #[.int .i64 k, .int .i64 er]) ∧ Mod noB w w' :=
  (fit_any p a b w).mono fun e w' hh => by rw [h] at hh; exact hh
theorem callBetween (p : Ply) (a b : Edg) (g : Gp) (er : Int) (h : betweenE p a b = (g, er)) (w : World) : Calls Try.prog 17 #[plV p, edV a, edV b] w fun e w' => e = .returned (.tuple #[gpV g, .int .i64 er]) ∧ Mod noB w w' :=
  (between_any p a b w).mono fun e w' hh => by rw [h] at hh; exact hh
theorem callWorn (s : Edg) (r : Int × Int) (n : Int) (t : Edg) (er : Int) (h : wornE s r n = (t, er)) (w : World) : Calls Try.prog 19 #[edV s, spV r, .int .i64 n] w fun e w' => e = .returned (.tuple #[edV t, .int .i64 er]) ∧ Mod noB w w' :=
  (wornE_any s r n w).mono fun e w' hh => by rw [h] at hh; exact hh
theorem callLast (p : Ply) (a b : Edg) (r : Int × Int) (x y er : Int) (h : lastE p a b r = (x, y, er)) (w : World) : Calls Try.prog 22 #[plV p, edV a, edV b, spV r] w fun e w' => e = .returned (.tuple #[.int .i64 x, .int .i64 y, .int .i64 er]) ∧ Mod noB w w' :=
  (last_any p a b r w).mono fun e w' hh => by rw [h] at hh; exact hh

/-- Two lists that are in memory. -/
def TwoAt (e : Ending) (w w' : World) (L1 L2 : List Int) (er : Int) : Prop :=
  ∃ a1 c1 a2 c2, e = .returned (.tuple #[.slice a1 L1.length c1, .slice a2 L2.length c2, .int .i64 er]) ∧ IntsAt w' a1 L1 ∧ IntsAt w' a2 L2 ∧ Mod noB w w'
theorem two_at {L1 L2 : List Int} {er : Int} {w w' : World} {e : Ending} (h : TwoOut L1 L2 er w e w') (h1 : L1.length ≤ 1000000) (h2 : L2.length ≤ 1000000) : TwoAt e w w' L1 L2 er := by
  obtain ⟨v1, v2, rfl, o1, o2, _, hM⟩ := h
  obtain ⟨a1, c1, rfl, i1, _⟩ := ints_of_owns o1 rfl h1
  obtain ⟨a2, c2, rfl, i2, _⟩ := ints_of_owns o2 rfl h2
  exact ⟨a1, c1, a2, c2, rfl, i1, i2, hM⟩
theorem callMatches (p : Ply) (s : Edg) (es : List Edg) (ao : Option Addr) (n cap : Nat) (L1 L2 : List Int) (er : Int) (hn : n = es.length) (h : matchesE p s es = (L1, L2, er)) (h1 : L1.length ≤ 1000000) (h2 : L2.length ≤ 1000000) (w : World) (hes : EdgesAt w ao es) :
    Calls Try.prog 24 #[plV p, edV s, .slice ao n cap] w fun e w' => TwoAt e w w' L1 L2 er := by
  subst hn
  exact (matches_any p s es ao cap w hes).mono fun e w' hh => by rw [h] at hh; exact two_at hh h1 h2
theorem callPairs (p : Ply) (ts hs : List Edg) (to ho : Option Addr) (n m c d : Nat) (L1 L2 : List Int) (er : Int) (hn : n = ts.length) (hm : m = hs.length) (h : pairsE p ts hs = (L1, L2, er)) (h1 : L1.length ≤ 1000000) (h2 : L2.length ≤ 1000000) (w : World) (hte : EdgesAt w to ts) (hhe : EdgesAt w ho hs) :
    Calls Try.prog 26 #[plV p, .slice to n c, .slice ho m d] w fun e w' => TwoAt e w w' L1 L2 er := by
  subst hn; subst hm
  exact (pairs_any p ts hs to ho c d w hte hhe).mono fun e w' hh => by rw [h] at hh; exact two_at hh h1 h2
theorem callInts (ao bo : Option Addr) (L : List Int) (n m c d : Nat) (hn : n = L.length) (hm : m = L.length) (w : World) (ha : IntsAt w ao L) (hb : IntsAt w bo L) :
    Calls Try.prog 28 #[.slice ao n c, .slice bo m d] w fun e w' => e = .returned (.bool true) ∧ Mod noB w w' := by
  subst hn; subst hm
  exact (ints_any ao bo L L c d w ha hb).mono fun e w' hh => by simpa using hh

set_option maxRecDepth 100000 in
set_option maxHeartbeats 4000000 in
theorem alive_any (w : World) : Calls Try.prog 21 #[] w fun e w' => e = .returned (.bool true) ∧ Mod noB w w' := by
  have HF := Hold.mk (kept_mod w)
  have HA := Hold.mk trivial
  go_enter Try.func21, Try.ntmps21
  go_wp2_with (first
    | (go_at_call 15; with_reducible refine (callFit playX tabX holeX _ _ exFit _).mono ?_; rintro e w1 ⟨rfl, hM⟩; have HF := Hold.mk (HF.out.later hM); clear hM HA)
    | (go_at_call 17; with_reducible refine (callBetween playX holeX tabX _ _ exBetween _).mono ?_; rintro e wG ⟨rfl, hM⟩; have HF := Hold.mk (HF.out.later hM); clear hM; have HG := Hold.mk trivial)
    | (go_at_call 32; have HG1 := HG; refine (tabX_any _).mono ?_; rintro e w1 ⟨rfl, hM⟩; have HF := Hold.mk ((HF.out.later (((Mod.refl noB wG).alloc _).trans hM)).and (kept_block (hM.at (World.alloc_heap_new wG _) id))); clear hM HG HG1)
    | (go_at_call 19; with_reducible refine (callWorn tabX (2, 3) 5000 _ _ exWorn _).mono ?_; rintro e wE ⟨rfl, hM⟩; have HF := Hold.mk (HF.out.later hM); clear hM; have HE := Hold.mk trivial)
    | (go_at_call 30; have HE1 := HE; refine (playX_any _).mono ?_; rintro e w1 ⟨rfl, hM⟩; have HF := Hold.mk ((HF.out.later (((Mod.refl noB wE).alloc _).trans hM)).and (kept_block (hM.at (World.alloc_heap_new wE _) id))); clear hM HE HE1)
    | (go_at_call 22; with_reducible refine (callLast playX tabX holeX (2, 3) _ _ _ exLast _).mono ?_; rintro e w1 ⟨rfl, hM⟩; have HF := Hold.mk (HF.out.later hM); clear hM)
    | (go_at_call 24; refine (callMatches playX tabX [holeX, otherX, tabX] _ _ _ _ _ _ rfl exMatches (by decide) (by decide) _ (edges_lit _ (World.alloc_heap_new _ _) rfl (by decide))).mono ?_; rintro e w1 ⟨aS, cS, aM, cM, rfl, i1, i2, hM⟩; have HF := Hold.mk (((HF.out.later (((Mod.refl noB _).alloc _).trans hM)).and (kept_ints i1)).and (kept_ints i2)); clear hM i1 i2)
    | (go_at_call 34; refine (slimX_any 480 485 _).mono ?_; rintro e wT ⟨rfl, hM⟩; have HF := Hold.mk (HF.out.later hM); clear hM; have HT := Hold.mk trivial)
    | (go_at_call 29; have HT1 := HT; refine (holeX_any _).mono ?_; rintro e w1 ⟨rfl, hM⟩; have HF := Hold.mk ((HF.out.later (((Mod.refl noB wT).alloc _).trans hM)).and (kept_block (hM.at (World.alloc_heap_new wT _) id))); clear hM HT HT1)
    | (go_at_call 26; refine (callPairs playX [tabX, slimX 480 485] [holeX, otherX] _ _ _ _ _ _ _ _ _ rfl rfl exPairs (by decide) (by decide) _ (edges_lit _ (HF.out _ ((Mod.refl _ _).alloc _)).2 rfl (by decide)) (edges_lit _ (World.alloc_heap_new _ _) rfl (by decide))).mono ?_; rintro e wR ⟨aP, cP, aQ, cQ, rfl, i1, i2, hM⟩; have HF := Hold.mk (((HF.out.later (((Mod.refl noB _).alloc _).trans hM)).and (kept_ints i1)).and (kept_ints i2)); clear hM i1 i2)
    | (go_at_call 30; refine (playX_any _).mono ?_; rintro e w1 ⟨rfl, hM⟩; have HF := Hold.mk (HF.out.later hM); clear hM)
    | (go_at_call 32; refine (tabX_any _).mono ?_; rintro e w1 ⟨rfl, hM⟩; have HF := Hold.mk (HF.out.later hM); clear hM)
    | (go_at_call 29; refine (holeX_any _).mono ?_; rintro e w1 ⟨rfl, hM⟩; have HF := Hold.mk (HF.out.later hM); clear hM)
    | (go_at_call 33; refine (otherX_any _).mono ?_; rintro e w1 ⟨rfl, hM⟩; have HF := Hold.mk (HF.out.later hM); clear hM)
    | (go_at_call 31; refine (span_any _ _ _).mono ?_; rintro e w1 ⟨rfl, hM⟩; have HF := Hold.mk (HF.out.later hM); clear hM))
  have FIN : Hold (∀ W', Mod noB wR W' → W'.heap[wG.heap.size]? = some (.cells (gpC ((-16, 6), (5, 21), (5, 21))) 32) ∧ W'.heap[wE.heap.size]? = some (.cells (edC ⟨1, (995, 1005), (485, 500), (400, 405)⟩) 27)) := ⟨fun W' h => by
    have hh := (HF.out.later h).now
    exact ⟨hh.1.1.1.1.1.1.2, hh.1.1.1.1.1.2⟩⟩
  refine region_quietP (by kernel_rfl) (by kernel_rfl) (fun W' => Mod noB wR W') ((Mod.refl _ _).drew) ?_
  repeat
    (first
      | go_big_quiet_skip
      | (go_big_quiet_want
         go_simp
         first
           | go_big_quiet_on
           | (apply Exists.intro
              refine ⟨fun W' hC => ?_, ?_⟩
              · obtain ⟨hg, he⟩ := FIN.out W' hC
                have g0 := cellsAt hg 0; have g1 := cellsAt hg 1; have g2 := cellsAt hg 2; have g3 := cellsAt hg 3; have g4 := cellsAt hg 4; have g5 := cellsAt hg 5
                have e3 := cellsAt he 3; have e4 := cellsAt he 4
                first
                  | (go_at_call 31; (with_reducible refine (span_any _ _ _).mono ?_); exact fun e w'' he => ⟨he.1, hC.trans he.2⟩)
                  | with_reducible rfl
                  | (go_simp; first | rfl | exact ⟨rfl, rfl⟩)
              go_big_quiet_on)
           | (refine ⟨⟨_, fun _ _ => rfl⟩, ?_⟩; go_big_quiet_on)))
  refine wpQuiet_nil ?_
  intro Wq hq
  have HF := Hold.mk (HF.out.later hq)
  clear hq FIN
  have K0 := Hold.mk trivial
  go_wp2_with (first
    | (go_at_call 28; have Kx := K0; refine (callInts _ _ [0] _ _ _ _ rfl rfl _ (HF.out _ ((Mod.refl _ _).alloc _)).1.1.1.1.2 (ints_lit [0] (World.alloc_heap_new _ _) rfl (by decide))).mono ?_; rintro e w1 ⟨rfl, hM⟩; have HF := Hold.mk (HF.out.later (((Mod.refl noB _).alloc _).trans hM)); clear hM Kx K0; have K1 := Hold.mk trivial)
    | (go_at_call 28; have Kx := K1; refine (callInts _ _ [0, 1] _ _ _ _ rfl rfl _ (HF.out _ ((Mod.refl _ _).alloc _)).1.1.1.2 (ints_lit [0, 1] (World.alloc_heap_new _ _) rfl (by decide))).mono ?_; rintro e w1 ⟨rfl, hM⟩; have HF := Hold.mk (HF.out.later (((Mod.refl noB _).alloc _).trans hM)); clear hM Kx K1; have K2 := Hold.mk trivial)
    | (go_at_call 28; have Kx := K2; refine (callInts _ _ [0, 1] _ _ _ _ rfl rfl _ (HF.out _ ((Mod.refl _ _).alloc _)).1.2 (ints_lit [0, 1] (World.alloc_heap_new _ _) rfl (by decide))).mono ?_; rintro e w1 ⟨rfl, hM⟩; have HF := Hold.mk (HF.out.later (((Mod.refl noB _).alloc _).trans hM)); clear hM Kx K2; have K3 := Hold.mk trivial)
    | (go_at_call 28; have Kx := K3; refine (callInts _ _ [1, 0] _ _ _ _ rfl rfl _ (HF.out _ ((Mod.refl _ _).alloc _)).2 (ints_lit [1, 0] (World.alloc_heap_new _ _) rfl (by decide))).mono ?_; rintro e w1 ⟨rfl, hM⟩; have HF := Hold.mk (HF.out.later (((Mod.refl noB _).alloc _).trans hM)); clear hM Kx K3; have K4 := Hold.mk trivial))
  go_ret
  exact ⟨rfl, HF.out.now.1.1.1.1.1.1.1⟩
end Go.Proofs.Ytnjbamikfjdofaa

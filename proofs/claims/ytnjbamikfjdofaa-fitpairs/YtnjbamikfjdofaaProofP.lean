/- FitPairs: the row: on all that is allowed and all lists of sides the walk ends, with true, and the input reads as it did. -/
import Derived.Test.YtnjbamikfjdofaaFive
import Derived.Test.YtnjbamikfjdofaaLawP
set_option linter.unusedSimpArgs false
set_option linter.unusedVariables false
namespace Go.Proofs.Ytnjbamikfjdofaa
open Go.ChangeShapes Go.WideShapes Go.ChangeAt Go.RowKit Go.Joins

theorem refMatches_any (p : Ply) (s : Edg) (l : List Edg) (ao : Option Addr) (cap : Nat) (w : World) (hl : EdgesAt w ao l) (hn : l.length ≤ 1000) :
    Calls Try.prog 25 #[plV p, edV s, .slice ao l.length cap] w (TwoR (matchesE p s l).1 (matchesE p s l).2.1 (matchesE p s l).2.2 w) := by
  have HP := fun w => refPlay_any p w
  have HS := fun w => refSide_any s w
  have HL : ∀ w', Mod noB w w' → Calls Try.prog 64 #[.slice ao l.length cap] w' fun e w2 => e = .returned (.bool (sidesB l)) ∧ Mod noB w' w2 := fun w' h => refSides_any ao l cap w' (hl.mod h)
  cases hv : (playB p && (sideB s && sidesB l)) with
  | false =>
    have hm : matchesE p s l = ([], [], 1) := by unfold matchesE; rw [hv]; rfl
    rw [hm]
    refine refMatches_err p s l ao cap w _ _ _ 1 (by omega) ?_ ⟨HP⟩ ⟨HS⟩ ⟨HL⟩
    revert hv
    cases playB p <;> cases sideB s <;> cases sidesB l <;> simp
  | true =>
    simp only [Bool.and_eq_true] at hv
    obtain ⟨hp, hs, hls⟩ := hv
    by_cases h40 : l.length ≤ 40
    · have hm : matchesE p s l = (indicesR surely (foundL p s l), indicesR maybe (foundL p s l), 0) := by unfold matchesE; rw [hp, hs, hls, if_pos h40]; rfl
      rw [hm]
      exact refMatches_ok p s l ao cap w hl hp hs hls h40
    · have hm : matchesE p s l = ([], [], 3) := by unfold matchesE; rw [hp, hs, hls, if_neg h40]; rfl
      rw [hm]
      exact refMatches_err p s l ao cap w _ _ _ 3 (by omega) (.inr (.inr (.inr ⟨hp, hs, hls, by omega, rfl⟩))) ⟨HP⟩ ⟨HS⟩ ⟨HL⟩
theorem refPairs_any (p : Ply) (tabs holes : List Edg) (ta ha : Option Addr) (ct ch : Nat) (w : World) (HT : EdgesAt w ta tabs) (HH : EdgesAt w ha holes) :
    Calls Try.prog 27 #[plV p, .slice ta tabs.length ct, .slice ha holes.length ch] w (TwoR (pairsE p tabs holes).1 (pairsE p tabs holes).2.1 (pairsE p tabs holes).2.2 w) := by
  cases hv : (playB p && (sidesB tabs && sidesB holes)) with
  | false =>
    have hm : pairsE p tabs holes = ([], [], 1) := by unfold pairsE; rw [hv]; rfl
    rw [hm]
    exact refPairs_bad p tabs holes ta ha ct ch w HT HH hv
  | true =>
    simp only [Bool.and_eq_true] at hv
    obtain ⟨hp, hs, hls⟩ := hv
    exact refPairs_ok p tabs holes ta ha ct ch w HT HH hp hs hls

set_option maxRecDepth 100000 in
theorem fitPairs_lifted (os : Os) (started : os.Started) (H : Type) (enc : TypeId × Value → H) :
    ReturnsInHanded {} Try.checked os 5 .any (Rows.fitPairsSpec.pre6 enc Try.prog Try.f5 Rows.fitPairsRow.domain false) (Rows.fitPairsSpec.post enc Try.prog Try.f5 false true false false) := by
  refine returnsInHanded_of_change (C := Try.checked) Try.own started (by kernel_rfl) Try.func5
    (ChangeSpec.witness6 (enc := enc) (C := Try.checked) false ⟨#[], #[plV ⟨0, 0, 0, (0, 0)⟩, edV ⟨0, (0, 0), (0, 0), (0, 0)⟩, .slice none 0 0, .slice none 0 0, .slice none 0 0], []⟩ 8 (by kernel_rfl) (by kernel_rfl) (by kernel_rfl) (by kernel_rfl)) ?_
  intro W base args ds gs before hval0 hW hcnd _
  have hval : ∀ (j : Nat) t v, Try.f5.params[j]? = some t → args[j]? = some v → Value.okWide Try.prog W .any base t v := hval0
  have hW' := hW
  obtain ⟨p, q, hA0, hV, rfl, hfz, hnd⟩ := hW
  have hA : DataW.TrodAll enc Try.prog W 0 (fun _ => true) true Try.f5.params.toList args.toList ds p := hA0
  rw [Try.params5] at hA hval
  obtain ⟨v0, v1, v2, v3, v4, d0, d1, d2, d3, d4, p0, p1, p2, p3, p4, rfl, rfl, rfl, h0, h1, h2, h3, h4⟩ := trodAll_five hA
  obtain ⟨rfl, rfl⟩ := trodVars_none hV
  obtain ⟨q0, rfl⟩ := play_opened (hval 0 25 v0 rfl rfl) h0
  obtain ⟨q1, rfl⟩ := edge_opened (hval 1 27 v1 rfl rfl) h1
  obtain ⟨ao, n, ca, rfl, hnb, hl⟩ := edges_opened (hval 2 42 v2 rfl rfl) h2
  obtain ⟨bo, m, cb, rfl, hmb, hm⟩ := edges_opened (hval 3 42 v3 rfl rfl) h3
  obtain ⟨co, k, cc, rfl, hkb, hk⟩ := edges_opened (hval 4 42 v4 rfl rfl) h4
  clear hA0 hval0 hval hA hfz hnd hcnd
  have hlt0 : ∀ x ∈ p0, x.block < W.heap.size := fun x hx => hW'.lt x (by simp [hx])
  have hlt1 : ∀ x ∈ p1, x.block < W.heap.size := fun x hx => hW'.lt x (by simp [hx])
  have hlt2 : ∀ x ∈ p2, x.block < W.heap.size := fun x hx => hW'.lt x (by simp [hx])
  have hlt3 : ∀ x ∈ p3, x.block < W.heap.size := fun x hx => hW'.lt x (by simp [hx])
  have hlt4 : ∀ x ∈ p4, x.block < W.heap.size := fun x hx => hW'.lt x (by simp [hx])
  have main : Calls Try.prog 5 #[plV q0, edV q1, .slice ao n ca, .slice bo m cb, .slice co k cc] W fun e w' => e = .returned (.bool true) ∧ Mod noB W w' := by
    refine fitPairs_walk q0 q1 ao bo co n m k ca cb cc W hnb hmb hkb ⟨fun gm gk h50 => ?_⟩
    unfold goodN2 at gm gk
    have gn : n ≤ 1000 := Nat.le_trans h50 (by decide)
    have gm' : m ≤ 1000 := by clear hl hm hk; omega
    have gk' : k ≤ 1000 := by clear hl hm hk; omega
    obtain ⟨es, rfl, hes⟩ := hl gn
    obtain ⟨ts, rfl, hts⟩ := hm gm'
    obtain ⟨hs, rfl, hhs⟩ := hk gk'
    clear hl hm hk
    have l1 := matchesE_len q0 q1 es
    have l2 := pairsE_len q0 ts hs
    exact ⟨_, _, _, _, _, _,
      fun w' h => (matches_any q0 q1 es ao ca w' (hes.mod h)).mono fun e w2 hh => two_at hh (by omega) (by omega),
      fun w' h => (refMatches_any q0 q1 es ao ca w' (hes.mod h) (by omega)).mono fun e w2 hh => twoR_at hh (by omega) (by omega),
      fun w' h => (pairs_any q0 ts hs bo co cb cc w' (hts.mod h) (hhs.mod h)).mono fun e w2 hh => two_at hh (by omega) (by omega),
      fun w' h => (refPairs_any q0 ts hs bo co cb cc w' (hts.mod h) (hhs.mod h)).mono fun e w2 hh => twoR_at hh (by omega) (by omega)⟩
  refine main.mono fun e W' ⟨he, hw⟩ => ?_
  subst he
  have bel : Below W.heap.size W W' := hw.below
  have z0 := Below.trod Try.laidOut (by kernel_rfl) (of_decide_eq_true (by kernel_rfl)) h0 bel hlt0
  have z1 := Below.trod Try.laidOut (by kernel_rfl) (of_decide_eq_true (by kernel_rfl)) h1 bel hlt1
  have z2 := Below.trod Try.laidOut (by kernel_rfl) (of_decide_eq_true (by kernel_rfl)) h2 bel hlt2
  have z3 := Below.trod Try.laidOut (by kernel_rfl) (of_decide_eq_true (by kernel_rfl)) h3 bel hlt3
  have z4 := Below.trod Try.laidOut (by kernel_rfl) (of_decide_eq_true (by kernel_rfl)) h4 bel hlt4
  exact ⟨_, rfl, _, _, _, [], _, [], hW', trodAll_mk1 (shut_bool Try.underlying4 _), trodAll_mk5 z0 z1 z2 z3 z4, rfl, bel.frame _, fun h => by cases h⟩

theorem fitPairs_holds : Rows.FitPairsSaid :=
  OpenClaim.holds_of_wide 5 Try.f5 rfl rfl rfl rfl rfl rfl rfl ⟨rfl, rfl, rfl, rfl, rfl⟩ rfl rfl rfl rfl rfl (by kernel_rfl) Try.func5 (by kernel_rfl)
    (of_decide_eq_true (by kernel_rfl)) (by unfold Func.isWrapper; rw [if_neg (by decide +kernel)]; exact ⟨rfl, rfl⟩)
    (fun os started H enc _ => fitPairs_lifted os started H enc)
end Go.Proofs.Ytnjbamikfjdofaa

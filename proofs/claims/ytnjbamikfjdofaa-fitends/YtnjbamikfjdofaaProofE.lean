/- FitEnds: the row: on all that is allowed and all sides the walk ends, with true, and the input reads as it did. -/
import Derived.Test.YtnjbamikfjdofaaShut
import Derived.Test.YtnjbamikfjdofaaLawEb
import Derived.Test.YtnjbamikfjdofaaRefC
import Derived.Carry
set_option linter.unusedSimpArgs false
set_option linter.unusedVariables false
namespace Go.Proofs.Ytnjbamikfjdofaa
section
open Go.RowKit Go.Shelf

set_option maxHeartbeats 2000000 in
theorem fitEnds_any (p : Ply) (a b : Edg) (w : World) : Calls Try.prog 8 #[plV p, edV a, edV b] w fun e w' => e = .returned (.bool true) ∧ Mod noB w w' := by
  cases hv : (playB p && (sideB a && sideB b)) with
  | false =>
    exact ends_err p a b w 1 1 0 (.inl ⟨rfl, rfl⟩) ⟨fun w => callFit p a b 0 1 (by unfold fitE; rw [hv]; rfl) w⟩ ⟨fun w => callBetween p a b zeroG 1 (by unfold betweenE; rw [hv]; rfl) w⟩
  | true =>
    have hf : fitE p a b = (fitR p a b, 0) := by unfold fitE; rw [hv]; rfl
    cases ho : (orderedR a b).2 with
    | false =>
      exact ends_err p a b w 6 0 (fitR p a b) (.inr ⟨rfl, rfl⟩) ⟨fun w => callFit p a b _ 0 hf w⟩ ⟨fun w => callBetween p a b zeroG 6 (by unfold betweenE; rw [hv, ho]; rfl) w⟩
    | true =>
      have hg : betweenE p a b = (gapR p (orderedR a b).1.1 (orderedR a b).1.2, 0) := by unfold betweenE; rw [hv, ho]; rfl
      have hr : fitR p a b = least3 (v1R p (orderedR a b).1.1 (orderedR a b).1.2) (v2R p (orderedR a b).1.1 (orderedR a b).1.2) (v3R p (orderedR a b).1.1 (orderedR a b).1.2) := by rw [fitR_of, ho]; rfl
      simp only [Bool.and_eq_true] at hv
      obtain ⟨hp, ha, hb⟩ := hv
      have HO := fun w => both_any a b w
      obtain ⟨hb2, hb1⟩ := both_ordered a b
      rw [ho] at hb2
      have hb3 := hb1 hb2
      rw [hb2, hb3] at HO
      obtain ⟨kt, kh⟩ := ordered_kinds ho
      obtain ⟨st, sh⟩ := ordered_sides ha hb
      have ot := side_ordered st (by omega)
      have oh := side_ordered sh (by omega)
      obtain ⟨et, eh⟩ := ordered_small ha hb ho
      have F := fun w => callFit p a b _ 0 hf w
      have G := fun w => callBetween p a b _ 0 hg w
      rw [hr] at F
      generalize (orderedR a b).1.1 = t at *
      generalize (orderedR a b).1.2 = u at *
      obtain ⟨⟨l1, l2⟩, ⟨k1, k2⟩, ⟨o1, o2⟩, d1, d2, d3⟩ := play_facts hp
      have hs := differ_small et eh (n := p.len) (by omega)
      obtain ⟨x1, x2, x3⟩ := differ_ordered ot oh p.len
      obtain ⟨A1, A2, A3, B1, B2, B3, HE⟩ := ends_of hp ot oh
      refine ends_ok p a b t u _ _ _ w _ _ _ _ _ _ _ A1 A2 A3 B1 B2 B3 k1 k2 o1 o2 d1 d2 d3 ⟨HE⟩ ⟨damped_min _ _⟩ ⟨damped_min _ _⟩ ⟨damped_min _ _⟩ ⟨hs.1, x1⟩ ⟨hs.2.1, x2⟩ ⟨hs.2.2, x3⟩
        ⟨F⟩ ⟨G⟩ ⟨fun w => ?_⟩ ⟨HO⟩ ⟨fun w => differ_any p t u w et eh (by omega)⟩ ⟨fun n w h => down_any n w h⟩ ⟨fun n w h => up_any n w h⟩
      have := refPlay_any p w
      rw [hp] at this
      exact this
end

section
open Go.ChangeShapes Go.WideShapes Go.ChangeAt Go.RowKit Go.Joins

set_option maxRecDepth 100000 in
theorem fitEnds_lifted (os : Os) (started : os.Started) (H : Type) (enc : TypeId × Value → H) :
    ReturnsInHanded {} Try.checked os 8 .any (Rows.fitEndsSpec.pre6 enc Try.prog Try.f8 Rows.fitEndsRow.domain false) (Rows.fitEndsSpec.post enc Try.prog Try.f8 false true false false) := by
  refine returnsInHanded_of_change (C := Try.checked) Try.own started (by kernel_rfl) Try.func8
    (ChangeSpec.witness6 (enc := enc) (C := Try.checked) false ⟨#[], #[plV ⟨0, 0, 0, (0, 0)⟩, edV ⟨0, (0, 0), (0, 0), (0, 0)⟩, edV ⟨0, (0, 0), (0, 0), (0, 0)⟩], []⟩ 8 (by kernel_rfl) (by kernel_rfl) (by kernel_rfl) (by kernel_rfl)) ?_
  intro W base args ds gs before hval0 hW hcnd _
  have hval : ∀ (j : Nat) t v, Try.f8.params[j]? = some t → args[j]? = some v → Value.okWide Try.prog W .any base t v := hval0
  have hW' := hW
  obtain ⟨p, q, hA0, hV, rfl, hfz, hnd⟩ := hW
  have hA : DataW.TrodAll enc Try.prog W 0 (fun _ => true) true Try.f8.params.toList args.toList ds p := hA0
  rw [Try.params8] at hA hval
  obtain ⟨v0, v1, v2, d0, d1, d2, p0, p1, p2, rfl, rfl, rfl, h0, h1, h2⟩ := trodAll_three hA
  obtain ⟨rfl, rfl⟩ := trodVars_none hV
  obtain ⟨q0, rfl⟩ := play_opened (hval 0 25 v0 rfl rfl) h0
  obtain ⟨q1, rfl⟩ := edge_opened (hval 1 27 v1 rfl rfl) h1
  obtain ⟨q2, rfl⟩ := edge_opened (hval 2 27 v2 rfl rfl) h2
  clear hA0 hval0 hval hA hfz hnd hcnd
  have hlt0 : ∀ x ∈ p0, x.block < W.heap.size := fun x hx => hW'.lt x (by simp [hx])
  have hlt1 : ∀ x ∈ p1, x.block < W.heap.size := fun x hx => hW'.lt x (by simp [hx])
  have hlt2 : ∀ x ∈ p2, x.block < W.heap.size := fun x hx => hW'.lt x (by simp [hx])
  refine (fitEnds_any q0 q1 q2 W).mono fun e W' ⟨he, hw⟩ => ?_
  subst he
  have bel : Below W.heap.size W W' := hw.below
  have z0 := Below.trod Try.laidOut (by kernel_rfl) (of_decide_eq_true (by kernel_rfl)) h0 bel hlt0
  have z1 := Below.trod Try.laidOut (by kernel_rfl) (of_decide_eq_true (by kernel_rfl)) h1 bel hlt1
  have z2 := Below.trod Try.laidOut (by kernel_rfl) (of_decide_eq_true (by kernel_rfl)) h2 bel hlt2
  exact ⟨_, rfl, _, _, _, [], _, [], hW', trodAll_mk1 (shut_bool Try.underlying4 _), trodAll_mk3 z0 z1 z2, rfl, bel.frame _, fun h => by cases h⟩

theorem fitEnds_holds : Rows.FitEndsSaid :=
  OpenClaim.holds_of_wide 8 Try.f8 rfl rfl rfl rfl rfl rfl rfl ⟨rfl, rfl, rfl, rfl, rfl⟩ rfl rfl rfl rfl rfl (by kernel_rfl) Try.func8 (by kernel_rfl)
    (of_decide_eq_true (by kernel_rfl)) (by unfold Func.isWrapper; rw [if_neg (by decide +kernel)]; exact ⟨rfl, rfl⟩)
    (fun os started H enc _ => fitEnds_lifted os started H enc)
end
end Go.Proofs.Ytnjbamikfjdofaa

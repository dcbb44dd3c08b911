/- RuleProof: for every die, stints and raw numbers the law yields true, and leaves its arguments as they were, if the library's table holds what the program's text lays. -/
import Derived.Test.YtdncppempgpooaaDoorRxE
import Derived.Test.YtdncppempgpooaaDoorRwV
import Derived.SevenTiedAt
set_option linter.unusedSimpArgs false
set_option linter.unusedVariables false
namespace Go.Proofs.YtdncppempgpooaaDoor
open Go.ChangeShapes Go.WideShapes Go.ChangeAt Go.RowKit Go.Joins Go.Shelf


set_option maxRecDepth 100000 in
theorem ruleProof_lifted (os : Os) (started : os.Started) (H : Type) (enc : TypeId × Value → H) :
    ReturnsInHanded {} Tryd.checked os 9 .any (fun w args => (Rows.ruleProofSpec.pre enc Tryd.prog Tryd.f9 [] false w args ∧ laidMetH Tryd.prog laidL w) ∧ sizedMet enc Tryd.prog Tryd.f9 (OpenSpec.ofChange Rows.ruleProofSpec) false w args)
      (Rows.ruleProofSpec.post enc Tryd.prog Tryd.f9 false true false false) := by
  refine returnsInHanded_of_change_and (C := Tryd.checked) (X := fun w _ => laidMetH Tryd.prog laidL w) (fun _ _ _ hh h => h.of_heap hh) Tryd.own started (by kernel_rfl) Tryd.func9
    (ChangeSpec.witness_shaped (enc := enc) (C := Tryd.checked) (os := os) (X := fun w _ => laidMetH Tryd.prog laidL w) false (World.doorLaid Tryd.prog 400 os) #[noDie, .slice none 0 0, .slice none 0 0] 8 rfl (World.shaped_of_RefB (by kernel_rfl) (by kernel_rfl)) (by kernel_rfl) (by kernel_rfl) (by kernel_rfl) (door_met os _)) ?_
  intro W base args ds gs before hval0 hW _ _ hL _
  have hval : ∀ (j : Nat) t v, Tryd.f9.params[j]? = some t → args[j]? = some v → Value.okWide Tryd.prog W .any base t v := hval0
  have hW' := hW
  obtain ⟨p, q, hA0, hV, rfl, hfz, hnd⟩ := hW
  have hA : DataW.TrodAll enc Tryd.prog W 0 (fun _ => true) true Tryd.f9.params.toList args.toList ds p := hA0
  rw [Tryd.params9] at hA hval
  obtain ⟨v0, v1, v2, d0, d1, d2, p0, p1, p2, rfl, rfl, rfl, h0, h1, h2⟩ := trodAll_three hA
  obtain ⟨rfl, rfl⟩ := trodVars_none hV
  obtain ⟨ao, cap, y, rfl, hy, hbl⟩ := die_opened (hval 0 24 v0 rfl rfl) h0
  obtain ⟨lo, lcap, l, rfl, hl, hst⟩ := stints_opened (hval 1 33 v1 rfl rfl) h1
  obtain ⟨bo, bn, bcap, rfl, hbn, hby⟩ := bytes_opened (hval 2 62 v2 rfl rfl) h2
  have hTab := tab_of_laid hL
  clear hA0 hval0 hval hA hfz hnd
  have hlt0 : ∀ x ∈ p0, x.block < W.heap.size := fun x hx => hW'.lt x (by simp [hx])
  have hlt1 : ∀ x ∈ p1, x.block < W.heap.size := fun x hx => hW'.lt x (by simp [hx])
  have hlt2 : ∀ x ∈ p2, x.block < W.heap.size := fun x hx => hW'.lt x (by simp [hx])
  have hcall : Calls Tryd.prog 9 #[dyV ao y.bl.length cap y, .slice lo l.length lcap, .slice bo bn bcap] W fun e w' => e = .returned (.bool true) ∧ Mod noB W w' := by
    by_cases hf : (10 < (y.bl.length : Int)) ∨ (12 < (l.length : Int))
    · exact law9_far ao lo bo cap y.bl.length lcap l.length bcap bn y.bound y.stop y.bend W hy hl hf hTab
    · have hI : InB W.heap.size W ao y lo l := ⟨hbl (by omega), hst (by omega), Nat.le_refl _, hTab, tab_lt2 hTab⟩
      by_cases hno : bn = 0 ∨ dieB y = false ∨ stintsB l = false
      · exact law9_no W.heap.size ao cap y lo lcap l bo bn bcap W hI (by omega) (by omega) hno
      · have h0 : 0 < bn := by omega
        exact law9_yes W.heap.size ao cap y lo lcap l bo bn bcap W hI (by omega) (by omega) h0 hbn (hby h0) (by cases h : dieB y with | true => rfl | false => exact absurd (.inr (.inl h)) hno) (by cases h : stintsB l with | true => rfl | false => exact absurd (.inr (.inr h)) hno)
  refine hcall.mono fun e W' ⟨he, hw⟩ => ?_
  subst he
  have bel : Below W.heap.size W W' := hw.below
  have z0 := Below.trod Tryd.laidOut (by kernel_rfl) (of_decide_eq_true (by kernel_rfl)) h0 bel hlt0
  have z1 := Below.trod Tryd.laidOut (by kernel_rfl) (of_decide_eq_true (by kernel_rfl)) h1 bel hlt1
  have z2 := Below.trod Tryd.laidOut (by kernel_rfl) (of_decide_eq_true (by kernel_rfl)) h2 bel hlt2
  exact ⟨_, rfl, _, _, _, [], _, [], hW', trodAll_mk1 (shut_bool Tryd.underlying4 _), trodAll_mk3 z0 z1 z2, rfl, bel.frame _, fun h => by cases h⟩

theorem ruleProof_row : Rows.RuleProofSaid :=
  OpenClaim.holds_of_wide 9 Tryd.f9 rfl rfl rfl rfl rfl rfl rfl ⟨rfl, rfl, rfl, rfl, rfl⟩ rfl rfl rfl rfl rfl (by kernel_rfl) Tryd.func9 (by kernel_rfl)
    (of_decide_eq_true (by kernel_rfl)) (by unfold Func.isWrapper; rw [if_neg (by decide +kernel)]; exact ⟨rfl, rfl⟩)
    (fun os started H enc _ => ruleProof_lifted os started H enc)

theorem ruleProof_holds : Rows.RuleProofCardSaid :=
  Claim7.holds_tied_plain_at .later [] [.data, .data] true _ false
    ruleProof_row (fun _ h => by cases h) (by kernel_rfl) (fun _ h => by cases h) ruleProof_row_tie rfl ⟨rfl, rfl⟩ (by kernel_rfl) rfl
    (fun f fn hf hfn => by
      obtain rfl : f = 9 := Option.some.inj ((show Tryd.prog.funcNamed "jigworks/jigworkslaw04.RuleProof" = some 9 by kernel_rfl).symm.trans hf) |>.symm
      obtain rfl : fn = Tryd.f9 := (Option.some.inj (Tryd.func9.symm.trans hfn)).symm
      exact ⟨by kernel_rfl, fun j t ht => by
        rw [Tryd.params9] at ht
        have hm : t ∈ [24, 33, 62] := by simpa using Array.mem_of_getElem? ht
        have hall : ([24, 33, 62].all fun u => !Tryd.prog.wantsStandIn u) = true := by kernel_rfl
        exact (show Tryd.prog.wantsStandIn t = false by simpa using List.all_eq_true.1 hall t hm)⟩)
    (by kernel_rfl)
end Go.Proofs.YtdncppempgpooaaDoor

/- RuleMore: for every die, stints and two numbers the law yields true, and leaves its arguments as they were, if the library's table holds what the program's text lays. -/
import Derived.Test.YtdncppempgpooaaDoorRnB
import Derived.Test.YtdncppempgpooaaDoorRnX
import Derived.SevenTiedAt
set_option linter.unusedSimpArgs false
set_option linter.unusedVariables false
namespace Go.Proofs.YtdncppempgpooaaDoor
open Go.ChangeShapes Go.WideShapes Go.ChangeAt Go.RowKit Go.Joins Go.Shelf


set_option maxRecDepth 100000 in
theorem ruleMore_lifted (os : Os) (started : os.Started) (H : Type) (enc : TypeId × Value → H) :
    ReturnsInHanded {} Tryd.checked os 10 .any (fun w args => (Rows.ruleMoreSpec.pre enc Tryd.prog Tryd.f10 [] false w args ∧ laidMetH Tryd.prog laidL w) ∧ sizedMet enc Tryd.prog Tryd.f10 (OpenSpec.ofChange Rows.ruleMoreSpec) false w args)
      (Rows.ruleMoreSpec.post enc Tryd.prog Tryd.f10 false true false false) := by
  refine returnsInHanded_of_change_and (C := Tryd.checked) (X := fun w _ => laidMetH Tryd.prog laidL w) (fun _ _ _ hh h => h.of_heap hh) Tryd.own started (by kernel_rfl) Tryd.func10
    (ChangeSpec.witness_shaped (enc := enc) (C := Tryd.checked) (os := os) (X := fun w _ => laidMetH Tryd.prog laidL w) false (World.doorLaid Tryd.prog 400 os) #[noDie, .slice none 0 0, .int .u8 0, .int .u8 0] 8 rfl (World.shaped_of_RefB (by kernel_rfl) (by kernel_rfl)) (by kernel_rfl) (by kernel_rfl) (by kernel_rfl) (door_met os _)) ?_
  intro W base args ds gs before hval0 hW _ _ hL _
  have hval : ∀ (j : Nat) t v, Tryd.f10.params[j]? = some t → args[j]? = some v → Value.okWide Tryd.prog W .any base t v := hval0
  have hW' := hW
  obtain ⟨p, q, hA0, hV, rfl, hfz, hnd⟩ := hW
  have hA : DataW.TrodAll enc Tryd.prog W 0 (fun _ => true) true Tryd.f10.params.toList args.toList ds p := hA0
  rw [Tryd.params10] at hA hval
  obtain ⟨v0, v1, v2, v3, d0, d1, d2, d3, p0, p1, p2, p3, rfl, rfl, rfl, h0, h1, h2, h3⟩ := trodAll_four hA
  obtain ⟨rfl, rfl⟩ := trodVars_none hV
  obtain ⟨ao, cap, y, rfl, hy, hbl⟩ := die_opened (hval 0 24 v0 rfl rfl) h0
  obtain ⟨lo, lcap, l, rfl, hl, hst⟩ := stints_opened (hval 1 33 v1 rfl rfl) h1
  obtain ⟨x2, rfl, rfl, rfl, w2⟩ := open_int Tryd.underlying5 (hval 2 5 v2 rfl rfl) h2
  obtain ⟨x3, rfl, rfl, rfl, w3⟩ := open_int Tryd.underlying5 (hval 3 5 v3 rfl rfl) h3
  have kcn : lo = none → lcap = 0 := fun e => by subst e; exact stints_none h1
  have hTab := tab_of_laid hL
  clear hA0 hval0 hval hA hfz hnd
  have hlt0 : ∀ x ∈ p0, x.block < W.heap.size := fun x hx => hW'.lt x (by simp [hx])
  have hlt1 : ∀ x ∈ p1, x.block < W.heap.size := fun x hx => hW'.lt x (by simp [hx])
  obtain ⟨u2, rfl⟩ : ∃ u : Nat, x2 = u := ⟨x2.toNat, by have := wf_u8 w2; omega⟩
  obtain ⟨u3, rfl⟩ : ∃ u : Nat, x3 = u := ⟨x3.toNat, by have := wf_u8 w3; omega⟩
  have hu2 := (wf_u8 w2).2
  have hu3 := (wf_u8 w3).2
  have hcall : Calls Tryd.prog 10 #[dyV ao y.bl.length cap y, .slice lo l.length lcap, .int .u8 u2, .int .u8 u3] W fun e w' => e = .returned (.bool true) ∧ Mod noB W w' := by
    by_cases hf : (10 < (y.bl.length : Int)) ∨ (12 < (l.length : Int))
    · exact law10_far ao lo cap y.bl.length lcap l.length u2 u3 y.bound y.stop y.bend W hy hl hf hTab
    · have hI : InB W.heap.size W ao y lo l := ⟨hbl (by omega), hst (by omega), Nat.le_refl _, hTab, World.block_lt_of_cell? _ _ (hTab.at_ 0 (by omega))⟩
      by_cases hno : dieB y = false ∨ stintsB l = false
      · exact law10_no W.heap.size ao cap y lo lcap l u2 u3 W hI (by omega) (by omega) hno
      · have hd : dieB y = true := by cases h : dieB y with | true => rfl | false => exact absurd (.inl h) hno
        have hs : stintsB l = true := by cases h : stintsB l with | true => rfl | false => exact absurd (.inr h) hno
        obtain ⟨⟨l1, _⟩, _⟩ := dieB_parts hd
        obtain ⟨ab, af, rfl, _⟩ := hI.bl.lies (fun e => by rw [e] at l1; simp at l1)
        exact law10_yes W.heap.size ab af cap y lo lcap l u2 u3 (by omega) (by omega) W hI (by omega) (by omega) hd hs kcn
  refine hcall.mono fun e W' ⟨he, hw⟩ => ?_
  subst he
  have bel : Below W.heap.size W W' := hw.below
  have z0 := Below.trod Tryd.laidOut (by kernel_rfl) (of_decide_eq_true (by kernel_rfl)) h0 bel hlt0
  have z1 := Below.trod Tryd.laidOut (by kernel_rfl) (of_decide_eq_true (by kernel_rfl)) h1 bel hlt1
  exact ⟨_, rfl, _, _, _, [], _, [], hW', trodAll_mk1 (shut_bool Tryd.underlying4 _), trodAll_mk4 z0 z1 (shut_int Tryd.underlying5 w2) (shut_int Tryd.underlying5 w3), rfl, bel.frame _, fun h => by cases h⟩

theorem ruleMore_row : Rows.RuleMoreSaid :=
  OpenClaim.holds_of_wide 10 Tryd.f10 rfl rfl rfl rfl rfl rfl rfl ⟨rfl, rfl, rfl, rfl, rfl⟩ rfl rfl rfl rfl rfl (by kernel_rfl) Tryd.func10 (by kernel_rfl)
    (of_decide_eq_true (by kernel_rfl)) (by unfold Func.isWrapper; rw [if_neg (by decide +kernel)]; exact ⟨rfl, rfl⟩)
    (fun os started H enc _ => ruleMore_lifted os started H enc)

theorem ruleMore_holds : Rows.RuleMoreCardSaid :=
  Claim7.holds_tied_plain_at .later [] [.data, .data] true _ false
    ruleMore_row (fun _ h => by cases h) (by kernel_rfl) (fun _ h => by cases h) ruleMore_row_tie rfl ⟨rfl, rfl⟩ (by kernel_rfl) rfl
    (fun f fn hf hfn => by
      obtain rfl : f = 10 := Option.some.inj ((show Tryd.prog.funcNamed "jigworks/jigworkslaw04.RuleMore" = some 10 by kernel_rfl).symm.trans hf) |>.symm
      obtain rfl : fn = Tryd.f10 := (Option.some.inj (Tryd.func10.symm.trans hfn)).symm
      exact ⟨by kernel_rfl, fun j t ht => by
        rw [Tryd.params10] at ht
        have hm : t ∈ [24, 33, 5, 5] := by simpa using Array.mem_of_getElem? ht
        have hall : ([24, 33, 5, 5].all fun u => !Tryd.prog.wantsStandIn u) = true := by kernel_rfl
        exact (show Tryd.prog.wantsStandIn t = false by simpa using List.all_eq_true.1 hall t hm)⟩)
    (by kernel_rfl)
end Go.Proofs.YtdncppempgpooaaDoor

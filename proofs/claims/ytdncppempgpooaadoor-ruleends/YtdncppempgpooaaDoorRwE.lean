/- RuleEnds: for every die, blade, number of strokes, bound and raw number the law yields true, and leaves its arguments as they were, if the library's table holds what the program's text lays. -/
import Derived.Test.YtdncppempgpooaaDoorRwC
import Derived.Test.YtdncppempgpooaaDoorRwD
import Derived.Test.YtdncppempgpooaaDoorRvU
import Derived.SevenTiedAt
set_option linter.unusedSimpArgs false
set_option linter.unusedVariables false
namespace Go.Proofs.YtdncppempgpooaaDoor
open Go.ChangeShapes Go.WideShapes Go.ChangeAt Go.RowKit Go.Joins Go.Shelf

theorem law7_any (B : Nat) (ao : Option Addr) (cap : Nat) (d : Dye) (k q m u : Int) (w : World) (hB : B ≤ w.heap.size) (hs : BladesAt B w ao d.bl) (hT : Tab w) (hf : ¬ 10 < (d.bl.length : Int)) (hu : 0 ≤ u) (hu2 : u ≤ 65535) :
    Calls Tryd.prog 7 #[dyV ao d.bl.length cap d, .int .i64 k, .int .i64 q, .int .i64 m, .int .u16 u] w fun e w' => e = .returned (.bool true) ∧ Mod noB w w' := by
  cases h : (dieB d && (hasB d k && fromB 0 7000 q)) with
  | false => exact law7_no B ao cap d k q m u w hB hs hT hf h
  | true =>
    simp only [Bool.and_eq_true] at h
    by_cases hq : q + u % 50 < 7000
    · exact law7_less B ao cap d k q m u w hB hs hT hf h.1 h.2.1 h.2.2 hu hu2 hq
    · exact law7_most B ao cap d k q m u w hB hs hT hf h.1 h.2.1 h.2.2 hu hu2 (by omega)

set_option maxRecDepth 100000 in
theorem ruleEnds_lifted (os : Os) (started : os.Started) (H : Type) (enc : TypeId × Value → H) :
    ReturnsInHanded {} Tryd.checked os 7 .any (fun w args => (Rows.ruleEndsSpec.pre enc Tryd.prog Tryd.f7 [] false w args ∧ laidMetH Tryd.prog laidL w) ∧ sizedMet enc Tryd.prog Tryd.f7 (OpenSpec.ofChange Rows.ruleEndsSpec) false w args)
      (Rows.ruleEndsSpec.post enc Tryd.prog Tryd.f7 false true false false) := by
  refine returnsInHanded_of_change_and (C := Tryd.checked) (X := fun w _ => laidMetH Tryd.prog laidL w) (fun _ _ _ hh h => h.of_heap hh) Tryd.own started (by kernel_rfl) Tryd.func7
    (ChangeSpec.witness_shaped (enc := enc) (C := Tryd.checked) (os := os) (X := fun w _ => laidMetH Tryd.prog laidL w) false (World.doorLaid Tryd.prog 400 os) #[noDie, .int .i64 0, .int .i64 0, .int .i64 0, .int .u16 0] 8 rfl (World.shaped_of_RefB (by kernel_rfl) (by kernel_rfl)) (by kernel_rfl) (by kernel_rfl) (by kernel_rfl) (door_met os _)) ?_
  intro W base args ds gs before hval0 hW _ _ hL _
  have hval : ∀ (j : Nat) t v, Tryd.f7.params[j]? = some t → args[j]? = some v → Value.okWide Tryd.prog W .any base t v := hval0
  have hW' := hW
  obtain ⟨p, q, hA0, hV, rfl, hfz, hnd⟩ := hW
  have hA : DataW.TrodAll enc Tryd.prog W 0 (fun _ => true) true Tryd.f7.params.toList args.toList ds p := hA0
  rw [Tryd.params7] at hA hval
  obtain ⟨v0, v1, v2, v3, v4, d0, d1, d2, d3, d4, p0, p1, p2, p3, p4, rfl, rfl, rfl, h0, h1, h2, h3, h4⟩ := trodAll_five hA
  obtain ⟨rfl, rfl⟩ := trodVars_none hV
  obtain ⟨ao, cap, y, rfl, hy, hbl⟩ := die_opened (hval 0 24 v0 rfl rfl) h0
  obtain ⟨k, rfl, rfl, rfl, wk⟩ := open_int Tryd.underlying3 (hval 1 3 v1 rfl rfl) h1
  obtain ⟨n, rfl, rfl, rfl, wn⟩ := open_int Tryd.underlying3 (hval 2 3 v2 rfl rfl) h2
  obtain ⟨m, rfl, rfl, rfl, wm⟩ := open_int Tryd.underlying3 (hval 3 3 v3 rfl rfl) h3
  obtain ⟨u, rfl, rfl, rfl, wu⟩ := open_int Tryd.underlying55 (hval 4 55 v4 rfl rfl) h4
  have hTab := tab_of_laid hL
  clear hA0 hval0 hval hA hfz hnd
  have hlt0 : ∀ x ∈ p0, x.block < W.heap.size := fun x hx => hW'.lt x (by simp [hx])
  have hcall : Calls Tryd.prog 7 #[dyV ao y.bl.length cap y, .int .i64 k, .int .i64 n, .int .i64 m, .int .u16 u] W fun e w' => e = .returned (.bool true) ∧ Mod noB W w' := by
    by_cases hf : 10 < (y.bl.length : Int)
    · exact law7_far ao cap y.bl.length y.bound y.stop y.bend k n m u W hy hf hTab
    · exact law7_any W.heap.size ao cap y k n m u W (Nat.le_refl _) (hbl (by omega)) hTab hf (wf_u16 wu).1 (wf_u16 wu).2
  refine hcall.mono fun e W' ⟨he, hw⟩ => ?_
  subst he
  have bel : Below W.heap.size W W' := hw.below
  have z0 := Below.trod Tryd.laidOut (by kernel_rfl) (of_decide_eq_true (by kernel_rfl)) h0 bel hlt0
  exact ⟨_, rfl, _, _, _, [], _, [], hW', trodAll_mk1 (shut_bool Tryd.underlying4 _), trodAll_mk5 z0 (shut_int Tryd.underlying3 wk) (shut_int Tryd.underlying3 wn) (shut_int Tryd.underlying3 wm) (shut_int Tryd.underlying55 wu), rfl, bel.frame _, fun h => by cases h⟩

theorem ruleEnds_row : Rows.RuleEndsSaid :=
  OpenClaim.holds_of_wide 7 Tryd.f7 rfl rfl rfl rfl rfl rfl rfl ⟨rfl, rfl, rfl, rfl, rfl⟩ rfl rfl rfl rfl rfl (by kernel_rfl) Tryd.func7 (by kernel_rfl)
    (of_decide_eq_true (by kernel_rfl)) (by unfold Func.isWrapper; rw [if_neg (by decide +kernel)]; exact ⟨rfl, rfl⟩)
    (fun os started H enc _ => ruleEnds_lifted os started H enc)

theorem ruleEnds_holds : Rows.RuleEndsCardSaid :=
  Claim7.holds_tied_plain_at .later [] [.data, .data] true _ false
    ruleEnds_row (fun _ h => by cases h) (by kernel_rfl) (fun _ h => by cases h) ruleEnds_row_tie rfl ⟨rfl, rfl⟩ (by kernel_rfl) rfl
    (fun f fn hf hfn => by
      obtain rfl : f = 7 := Option.some.inj ((show Tryd.prog.funcNamed "jigworks/jigworkslaw04.RuleEnds" = some 7 by kernel_rfl).symm.trans hf) |>.symm
      obtain rfl : fn = Tryd.f7 := (Option.some.inj (Tryd.func7.symm.trans hfn)).symm
      exact ⟨by kernel_rfl, fun j t ht => by
        rw [Tryd.params7] at ht
        have hm : t ∈ [24, 3, 3, 3, 55] := by simpa using Array.mem_of_getElem? ht
        have hall : ([24, 3, 3, 3, 55].all fun u => !Tryd.prog.wantsStandIn u) = true := by kernel_rfl
        exact (show Tryd.prog.wantsStandIn t = false by simpa using List.all_eq_true.1 hall t hm)⟩)
    (by kernel_rfl)
end Go.Proofs.YtdncppempgpooaaDoor

/- TopBlade: the row: on every die and all numbers that fit the walk ends, with true, and the input reads as it did. -/
import Derived.Test.YtnplhlcifagimaaRows
import Derived.Test.YtnplhlcifagimaaTopI
import Derived.Test.YtnplhlcifagimaaTopJ
set_option linter.unusedSimpArgs false
set_option linter.unusedVariables false
namespace Go.Proofs.Ytnplhlcifagimaa
open Go.ChangeShapes Go.WideShapes Go.ChangeAt Go.RowKit Go.Joins

set_option maxRecDepth 100000 in
theorem topBlade_lifted (os : Os) (started : os.Started) (H : Type) (enc : TypeId × Value → H) :
    ReturnsInHanded {} Try.checked os 3 .any (Rows.topBladeSpec.pre6 enc Try.prog Try.f3 Rows.topBladeRow.domain false) (Rows.topBladeSpec.post enc Try.prog Try.f3 false true false false) := by
  refine returnsInHanded_of_change (C := Try.checked) Try.own started (by kernel_rfl) Try.func3
    (ChangeSpec.witness6 (enc := enc) (C := Try.checked) false ⟨#[], #[.agg #[.slice none 0 0, .int .i64 0, .int .i64 0, .int .i64 0], .int .i64 0, .int .i64 0, .int .u8 0, .int .u8 0, .int .u8 0, .int .u8 0, .int .u16 0], []⟩ 8 (by kernel_rfl) (by kernel_rfl) (by kernel_rfl) (by kernel_rfl)) ?_
  intro W base args ds gs before hval0 hW hcnd _
  have hval : ∀ (j : Nat) t v, Try.f3.params[j]? = some t → args[j]? = some v → Value.okWide Try.prog W .any base t v := hval0
  have hW' := hW
  obtain ⟨p, q, hA0, hV, rfl, hfz, hnd⟩ := hW
  have hA : DataW.TrodAll enc Try.prog W 0 (fun _ => true) true Try.f3.params.toList args.toList ds p := hA0
  rw [Try.params3] at hA hval
  obtain ⟨v0, v1, v2, v3, v4, v5, v6, v7, d0, d1, d2, d3, d4, d5, d6, d7, p0, p1, p2, p3, p4, p5, p6, p7, rfl, rfl, rfl, h0, h1, h2, h3, h4, h5, h6, h7⟩ := trodAll_eight hA
  obtain ⟨rfl, rfl⟩ := trodVars_none hV
  obtain ⟨ao, cap, y, rfl, hy, hbl⟩ := die_opened (hval 0 24 v0 rfl rfl) h0
  obtain ⟨k, rfl, rfl, rfl, w1⟩ := open_int Try.underlying3 (hval 1 3 v1 rfl rfl) h1
  obtain ⟨m, rfl, rfl, rfl, w2⟩ := open_int Try.underlying3 (hval 2 3 v2 rfl rfl) h2
  obtain ⟨x3, rfl, rfl, rfl, w3⟩ := open_int Try.underlying5 (hval 3 5 v3 rfl rfl) h3
  obtain ⟨x4, rfl, rfl, rfl, w4⟩ := open_int Try.underlying5 (hval 4 5 v4 rfl rfl) h4
  obtain ⟨x5, rfl, rfl, rfl, w5⟩ := open_int Try.underlying5 (hval 5 5 v5 rfl rfl) h5
  obtain ⟨x6, rfl, rfl, rfl, w6⟩ := open_int Try.underlying5 (hval 6 5 v6 rfl rfl) h6
  obtain ⟨x7, rfl, rfl, rfl, w7⟩ := open_int Try.underlying25 (hval 7 25 v7 rfl rfl) h7
  clear hA0 hval0 hval hA hfz hnd hcnd
  obtain ⟨u3, rfl⟩ : ∃ u : Nat, x3 = u := ⟨x3.toNat, by have := wf_u8 w3; omega⟩
  obtain ⟨u4, rfl⟩ : ∃ u : Nat, x4 = u := ⟨x4.toNat, by have := wf_u8 w4; omega⟩
  obtain ⟨u5, rfl⟩ : ∃ u : Nat, x5 = u := ⟨x5.toNat, by have := wf_u8 w5; omega⟩
  obtain ⟨u6, rfl⟩ : ∃ u : Nat, x6 = u := ⟨x6.toNat, by have := wf_u8 w6; omega⟩
  obtain ⟨u7, rfl⟩ : ∃ u : Nat, x7 = u := ⟨x7.toNat, by have := wf_u16 w7; omega⟩
  have b3 := (wf_u8 w3).2
  have b4 := (wf_u8 w4).2
  have b5 := (wf_u8 w5).2
  have b6 := (wf_u8 w6).2
  have b7 := (wf_u16 w7).2
  have hlt : ∀ x ∈ p0, x.block < W.heap.size := fun x hx => hW'.lt x (by simp [hx])
  have walk : Calls Try.prog 3 #[dyV ao y.bl.length cap y, .int .i64 k, .int .i64 m, .int .u8 u3, .int .u8 u4, .int .u8 u5, .int .u8 u6, .int .u16 u7] W fun e w' => e = .returned (.bool true) ∧ Mod noB W w' := by
    rcases Nat.lt_or_ge 10 y.bl.length with hn | hn
    · exact law3_far ao y.bl.length cap y.bound y.stop y.bend k m u3 u4 u5 u6 u7 W hn hy
    · exact law3_all W.heap.size ao cap y k m u3 u4 u5 u6 u7 (by omega) (by omega) (by omega) (by omega) (by omega) W (hbl (by omega)) (Nat.le_refl _) hn
  refine walk.mono fun e W' ⟨he, hw⟩ => ?_
  subst he
  have bel : Below W.heap.size W W' := hw.below
  exact ⟨_, rfl, _, _, _, [], _, [], hW', trodAll_mk1 (shut_bool Try.underlying4 _), trodAll_mk8 (Below.trod Try.laidOut (by kernel_rfl) (of_decide_eq_true (by kernel_rfl)) h0 bel hlt) (shut_int Try.underlying3 w1) (shut_int Try.underlying3 w2) (shut_int Try.underlying5 w3) (shut_int Try.underlying5 w4) (shut_int Try.underlying5 w5) (shut_int Try.underlying5 w6) (shut_int Try.underlying25 w7), rfl, bel.frame _, fun h => by cases h⟩

theorem topBlade_holds : Rows.TopBladeSaid :=
  OpenClaim.holds_of_wide 3 Try.f3 rfl rfl rfl rfl rfl rfl rfl ⟨rfl, rfl, rfl, rfl, rfl⟩ rfl rfl rfl rfl rfl (by kernel_rfl) Try.func3 (by kernel_rfl)
    (of_decide_eq_true (by kernel_rfl)) (by unfold Func.isWrapper; rw [if_neg (by decide +kernel)]; exact ⟨rfl, rfl⟩)
    (fun os started H enc _ => topBlade_lifted os started H enc)
end Go.Proofs.Ytnplhlcifagimaa

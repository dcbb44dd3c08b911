/- CutWhole: the row: on every cut that fits the walk ends, with true, and the input reads as it did. -/
import Derived.Test.YtogalmkeipigeaaRows
import Derived.Test.YtogalmkeipigeaaMnV
import Derived.Test.YtogalmkeipigeaaShut
set_option linter.unusedSimpArgs false
set_option linter.unusedVariables false
namespace Go.Proofs.Ytogalmkeipigeaa
open Go.ChangeShapes Go.WideShapes Go.ChangeAt Go.RowKit Go.Joins

theorem cutWhole_small (W H : Int) (ao : Option Addr) (zs : List Int) (cap : Nat) (w : World) (hs : IntsAt w ao zs) (hn : zs.length ≤ 288) :
    Calls Try.prog 6 #[cutV W H ao zs.length cap] w fun e w' => e = .returned (.bool true) ∧ Mod noB w w' := by
  by_cases h : (checkR W H zs).2 = 0
  · obtain ⟨W, H, rfl, rfl, C⟩ := isCutB_true (checkR_ok h).1
    exact whole_yes C ao cap w hs hn h
  · exact whole_no W H ao zs cap w hs hn h

set_option maxRecDepth 100000 in
theorem cutWhole_lifted (os : Os) (started : os.Started) (H : Type) (enc : TypeId × Value → H) :
    ReturnsInHanded {} Try.checked os 6 .any (Rows.cutWholeSpec.pre6 enc Try.prog Try.f6 Rows.cutWholeRow.domain false) (Rows.cutWholeSpec.post enc Try.prog Try.f6 false true false false) := by
  refine returnsInHanded_of_change (C := Try.checked) Try.own started (by kernel_rfl) Try.func6
    (ChangeSpec.witness6 (enc := enc) (C := Try.checked) false ⟨#[], #[.agg #[.int .i64 0, .int .i64 0, .slice none 0 0]], []⟩ 8 (by kernel_rfl) (by kernel_rfl) (by kernel_rfl) (by kernel_rfl)) ?_
  intro W base args ds gs before hval0 hW hcnd _
  have hval : ∀ (j : Nat) t v, Try.f6.params[j]? = some t → args[j]? = some v → Value.okWide Try.prog W .any base t v := hval0
  have hW' := hW
  obtain ⟨p, q, hA0, hV, rfl, hfz, hnd⟩ := hW
  have hA : DataW.TrodAll enc Try.prog W 0 (fun _ => true) true Try.f6.params.toList args.toList ds p := hA0
  rw [Try.params6] at hA hval
  obtain ⟨v0, d0, rfl, rfl, h0⟩ := trodAll_one hA
  obtain ⟨rfl, rfl⟩ := trodVars_none hV
  obtain ⟨wi, hi, ao, n, cap, rfl, hints⟩ := cut_opened (hval 0 24 v0 rfl rfl) h0
  clear hA0 hval0 hval hA hfz hnd hcnd
  simp only [List.append_nil] at hW'
  have hlt : ∀ x ∈ p, x.block < W.heap.size := fun x hx => by simpa using hW'.lt x hx
  have walk : Calls Try.prog 6 #[cutV wi hi ao n cap] W fun e w' => e = .returned (.bool true) ∧ Mod noB W w' := by
    rcases Nat.lt_or_ge 288 n with hn | hn
    · exact cutWhole_large wi hi ao n cap W hn
    · obtain ⟨zs, rfl, hs⟩ := hints hn
      exact cutWhole_small wi hi ao zs cap W hs hn
  refine walk.mono fun e W' ⟨he, hw⟩ => ?_
  subst he
  have bel : Below W.heap.size W W' := hw.below
  refine ⟨_, rfl, _, _, _, [], p, [], hW', trodAll_mk1 (shut_bool Try.underlying4 _), ?_, rfl, ?_, fun h => by cases h⟩
  · exact trodAll_mk1 (Below.trod Try.laidOut (by kernel_rfl) (of_decide_eq_true (by kernel_rfl)) h0 bel hlt)
  · exact bel.frame _

theorem cutWhole_holds : Rows.CutWholeSaid :=
  OpenClaim.holds_of_wide 6 Try.f6 rfl rfl rfl rfl rfl rfl rfl ⟨rfl, rfl, rfl, rfl, rfl⟩ rfl rfl rfl rfl rfl (by kernel_rfl) Try.func6 (by kernel_rfl)
    (of_decide_eq_true (by kernel_rfl)) (by unfold Func.isWrapper; rw [if_neg (by decide +kernel)]; exact ⟨rfl, rfl⟩)
    (fun os started H enc _ => cutWhole_lifted os started H enc)

end Go.Proofs.Ytogalmkeipigeaa

/- CutInside: the row: on every cut that fits and any number the walk ends, with true, and the input reads as it did. -/
import Derived.Test.YtogalmkeipigeaaRows
import Derived.Test.YtogalmkeipigeaaMnI
import Derived.Test.YtogalmkeipigeaaShut
set_option linter.unusedSimpArgs false
set_option linter.unusedVariables false
namespace Go.Proofs.Ytogalmkeipigeaa
open Go.ChangeShapes Go.WideShapes Go.ChangeAt Go.RowKit Go.Joins

theorem cutInside_large (W H : Int) (ao : Option Addr) (n cap : Nat) (p : Int) (w : World) (hn : 288 < n) :
    Calls Try.prog 8 #[cutV W H ao n cap, .int .i64 p] w fun e w' => e = .returned (.bool true) ∧ Mod noB w w' :=
  inside_nocut W H ao n cap p w fun w1 _ => refCut_far W H ao n cap w1 hn
theorem cutInside_small (W H : Int) (ao : Option Addr) (zs : List Int) (cap : Nat) (p : Int) (w : World) (hs : IntsAt w ao zs) (hn : zs.length ≤ 288) :
    Calls Try.prog 8 #[cutV W H ao zs.length cap, .int .i64 p] w fun e w' => e = .returned (.bool true) ∧ Mod noB w w' := by
  cases hb : isCutB W H zs with
  | false =>
    refine inside_nocut W H ao zs.length cap p w fun w1 hm => ?_
    have := refCut_any W H ao zs cap w1 (box_facts (W := W) (H := H) (cap := cap) hs w1 hm).2.2.2
    rw [hb] at this
    exact this
  | true =>
    by_cases h : (checkR W H zs).2 = 0
    · obtain ⟨W, H, rfl, rfl, C⟩ := isCutB_true hb
      by_cases hp : 0 ≤ p ∧ p < many zs
      · obtain ⟨q, rfl⟩ := Int.eq_ofNat_of_zero_le hp.1
        exact insideLaw_yes C ao cap q w hs h (by omega)
      · exact inside_err W H ao zs cap p w hs hb 2 (.inr ⟨(checkR_ok h).2, rfl, hp⟩) fun w1 hi => inside_out C ao cap p w1 hi h hp
    · exact inside_err W H ao zs cap p w hs hb _ (.inl ⟨rfl, h⟩) fun w1 hi => inside_no W H ao zs cap p w1 hi h

set_option maxRecDepth 100000 in
theorem cutInside_lifted (os : Os) (started : os.Started) (H : Type) (enc : TypeId × Value → H) :
    ReturnsInHanded {} Try.checked os 8 .any (Rows.cutInsideSpec.pre6 enc Try.prog Try.f8 Rows.cutInsideRow.domain false) (Rows.cutInsideSpec.post enc Try.prog Try.f8 false true false false) := by
  refine returnsInHanded_of_change (C := Try.checked) Try.own started (by kernel_rfl) Try.func8
    (ChangeSpec.witness6 (enc := enc) (C := Try.checked) false ⟨#[], #[.agg #[.int .i64 0, .int .i64 0, .slice none 0 0], .int .i64 0], []⟩ 8 (by kernel_rfl) (by kernel_rfl) (by kernel_rfl) (by kernel_rfl)) ?_
  intro W base args ds gs before hval0 hW hcnd _
  have hval : ∀ (j : Nat) t v, Try.f8.params[j]? = some t → args[j]? = some v → Value.okWide Try.prog W .any base t v := hval0
  have hW' := hW
  obtain ⟨p, q, hA0, hV, rfl, hfz, hnd⟩ := hW
  have hA : DataW.TrodAll enc Try.prog W 0 (fun _ => true) true Try.f8.params.toList args.toList ds p := hA0
  rw [Try.params8] at hA hval
  obtain ⟨v0, v1, d0, d1, p0, p1, rfl, rfl, rfl, h0, h1⟩ := trodAll_two hA
  obtain ⟨rfl, rfl⟩ := trodVars_none hV
  obtain ⟨wi, hi, ao, n, cap, rfl, hints⟩ := cut_opened (hval 0 24 v0 rfl rfl) h0
  obtain ⟨a, rfl, rfl, rfl, wa⟩ := open_int Try.underlying3 (hval 1 3 v1 rfl rfl) h1
  clear hA0 hval0 hval hA hfz hnd hcnd
  simp only [List.append_nil] at hW'
  have hlt : ∀ x ∈ p0, x.block < W.heap.size := fun x hx => by simpa using hW'.lt x hx
  have walk : Calls Try.prog 8 #[cutV wi hi ao n cap, .int .i64 a] W fun e w' => e = .returned (.bool true) ∧ Mod noB W w' := by
    rcases Nat.lt_or_ge 288 n with hn | hn
    · exact cutInside_large wi hi ao n cap a W hn
    · obtain ⟨zs, rfl, hs⟩ := hints hn
      exact cutInside_small wi hi ao zs cap a W hs hn
  refine walk.mono fun e W' ⟨he, hw⟩ => ?_
  subst he
  have bel : Below W.heap.size W W' := hw.below
  refine ⟨_, rfl, _, _, _, [], p0, [], hW', trodAll_mk1 (shut_bool Try.underlying4 _), ?_, rfl, ?_, fun h => by cases h⟩
  · have := trodAll_mk2 (Below.trod Try.laidOut (by kernel_rfl) (of_decide_eq_true (by kernel_rfl)) h0 bel hlt) (shut_int Try.underlying3 wa)
    simp only [List.append_nil] at this
    exact this
  · exact bel.frame _

theorem cutInside_holds : Rows.CutInsideSaid :=
  OpenClaim.holds_of_wide 8 Try.f8 rfl rfl rfl rfl rfl rfl rfl ⟨rfl, rfl, rfl, rfl, rfl⟩ rfl rfl rfl rfl rfl (by kernel_rfl) Try.func8 (by kernel_rfl)
    (of_decide_eq_true (by kernel_rfl)) (by unfold Func.isWrapper; rw [if_neg (by decide +kernel)]; exact ⟨rfl, rfl⟩)
    (fun os started H enc _ => cutInside_lifted os started H enc)

end Go.Proofs.Ytogalmkeipigeaa

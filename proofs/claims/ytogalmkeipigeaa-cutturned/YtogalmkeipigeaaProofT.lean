/- CutTurned: the row: on every cut that fits and any two numbers the walk ends, with true, and the input reads as it did. -/
import Derived.Test.YtogalmkeipigeaaRows
import Derived.Test.YtogalmkeipigeaaMnT
import Derived.Test.YtogalmkeipigeaaShut
set_option linter.unusedSimpArgs false
set_option linter.unusedVariables false
namespace Go.Proofs.Ytogalmkeipigeaa
open Go.ChangeShapes Go.WideShapes Go.ChangeAt Go.RowKit Go.Joins

theorem wf_u8T {n : Int} (h : (Lit.int .u8 n).wf = true) : 0 ≤ n ∧ n ≤ 255 := by
  simp only [Lit.wf, Bool.and_eq_true, decide_eq_true_eq] at h
  exact h
theorem cutTurned_large (W H : Int) (ao : Option Addr) (n cap : Nat) (p u : Int) (w : World) (hn : 288 < n) :
    Calls Try.prog 10 #[cutV W H ao n cap, .int .i64 p, .int .u8 u] w fun e w' => e = .returned (.bool true) ∧ Mod noB w w' :=
  turnedLaw_nocut W H ao n cap p u w fun w1 _ => refCut_far W H ao n cap w1 hn
theorem cutTurned_small (W H : Int) (ao : Option Addr) (zs : List Int) (cap : Nat) (p : Int) (u : Nat) (hu : u ≤ 255) (w : World) (hs : IntsAt w ao zs) (hn : zs.length ≤ 288) :
    Calls Try.prog 10 #[cutV W H ao zs.length cap, .int .i64 p, .int .u8 (u : Int)] w fun e w' => e = .returned (.bool true) ∧ Mod noB w w' := by
  cases hb : isCutB W H zs with
  | false =>
    refine turnedLaw_nocut W H ao zs.length cap p u w fun w1 hm => ?_
    have := refCut_any W H ao zs cap w1 (box_facts (W := W) (H := H) (cap := cap) hs w1 hm).2.2.2
    rw [hb] at this
    exact this
  | true =>
    obtain ⟨W, H, rfl, rfl, C⟩ := isCutB_true hb
    exact turnedLaw_yes C ao cap p u hu w hs

set_option maxRecDepth 100000 in
theorem cutTurned_lifted (os : Os) (started : os.Started) (H : Type) (enc : TypeId × Value → H) :
    ReturnsInHanded {} Try.checked os 10 .any (Rows.cutTurnedSpec.pre6 enc Try.prog Try.f10 Rows.cutTurnedRow.domain false) (Rows.cutTurnedSpec.post enc Try.prog Try.f10 false true false false) := by
  refine returnsInHanded_of_change (C := Try.checked) Try.own started (by kernel_rfl) Try.func10
    (ChangeSpec.witness6 (enc := enc) (C := Try.checked) false ⟨#[], #[.agg #[.int .i64 0, .int .i64 0, .slice none 0 0], .int .i64 0, .int .u8 0], []⟩ 8 (by kernel_rfl) (by kernel_rfl) (by kernel_rfl) (by kernel_rfl)) ?_
  intro W base args ds gs before hval0 hW hcnd _
  have hval : ∀ (j : Nat) t v, Try.f10.params[j]? = some t → args[j]? = some v → Value.okWide Try.prog W .any base t v := hval0
  have hW' := hW
  obtain ⟨p, q, hA0, hV, rfl, hfz, hnd⟩ := hW
  have hA : DataW.TrodAll enc Try.prog W 0 (fun _ => true) true Try.f10.params.toList args.toList ds p := hA0
  rw [Try.params10] at hA hval
  obtain ⟨v0, v1, v2, d0, d1, d2, p0, p1, p2, rfl, rfl, rfl, h0, h1, h2⟩ := trodAll_three hA
  obtain ⟨rfl, rfl⟩ := trodVars_none hV
  obtain ⟨wi, hi, ao, n, cap, rfl, hints⟩ := cut_opened (hval 0 24 v0 rfl rfl) h0
  obtain ⟨a, rfl, rfl, rfl, wa⟩ := open_int Try.underlying3 (hval 1 3 v1 rfl rfl) h1
  obtain ⟨b, rfl, rfl, rfl, wb⟩ := open_int Try.underlying5 (hval 2 5 v2 rfl rfl) h2
  clear hA0 hval0 hval hA hfz hnd hcnd
  obtain ⟨u, rfl⟩ : ∃ u : Nat, b = u := ⟨b.toNat, by have := wf_u8T wb; omega⟩
  have hu := (wf_u8T wb).2
  simp only [List.append_nil] at hW'
  have hlt : ∀ x ∈ p0, x.block < W.heap.size := fun x hx => by simpa using hW'.lt x hx
  have walk : Calls Try.prog 10 #[cutV wi hi ao n cap, .int .i64 a, .int .u8 (u : Int)] W fun e w' => e = .returned (.bool true) ∧ Mod noB W w' := by
    rcases Nat.lt_or_ge 288 n with hn | hn
    · exact cutTurned_large wi hi ao n cap a u W hn
    · obtain ⟨zs, rfl, hs⟩ := hints hn
      exact cutTurned_small wi hi ao zs cap a u (by omega) W hs hn
  refine walk.mono fun e W' ⟨he, hw⟩ => ?_
  subst he
  have bel : Below W.heap.size W W' := hw.below
  refine ⟨_, rfl, _, _, _, [], p0, [], hW', trodAll_mk1 (shut_bool Try.underlying4 _), ?_, rfl, ?_, fun h => by cases h⟩
  · have := trodAll_mk3 (Below.trod Try.laidOut (by kernel_rfl) (of_decide_eq_true (by kernel_rfl)) h0 bel hlt) (shut_int Try.underlying3 wa) (shut_int Try.underlying5 wb)
    simp only [List.append_nil] at this
    exact this
  · exact bel.frame _

theorem cutTurned_holds : Rows.CutTurnedSaid :=
  OpenClaim.holds_of_wide 10 Try.f10 rfl rfl rfl rfl rfl rfl rfl ⟨rfl, rfl, rfl, rfl, rfl⟩ rfl rfl rfl rfl rfl (by kernel_rfl) Try.func10 (by kernel_rfl)
    (of_decide_eq_true (by kernel_rfl)) (by unfold Func.isWrapper; rw [if_neg (by decide +kernel)]; exact ⟨rfl, rfl⟩)
    (fun os started H enc _ => cutTurned_lifted os started H enc)

end Go.Proofs.Ytogalmkeipigeaa

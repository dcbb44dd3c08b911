/- CutJoined: the row: on every cut that fits and any two numbers the walk ends, with true, and the input reads as it did. -/
import Derived.Test.YtogalmkeipigeaaRows
import Derived.Test.YtogalmkeipigeaaMnK
import Derived.Test.YtogalmkeipigeaaShut
set_option linter.unusedSimpArgs false
set_option linter.unusedVariables false
namespace Go.Proofs.Ytogalmkeipigeaa
open Go.ChangeShapes Go.WideShapes Go.ChangeAt Go.RowKit Go.Joins

theorem cutJoined_large (W H : Int) (ao : Option Addr) (n cap : Nat) (a b : Int) (w : World) (hn : 288 < n) :
    Calls Try.prog 11 #[cutV W H ao n cap, .int .i64 a, .int .i64 b] w fun e w' => e = .returned (.bool true) ∧ Mod noB w w' :=
  joined_nocut W H ao n cap a b w fun w1 _ => refCut_far W H ao n cap w1 hn
theorem cutJoined_small (W H : Int) (ao : Option Addr) (zs : List Int) (cap : Nat) (a b : Int) (w : World) (hs : IntsAt w ao zs) (hn : zs.length ≤ 288) :
    Calls Try.prog 11 #[cutV W H ao zs.length cap, .int .i64 a, .int .i64 b] w fun e w' => e = .returned (.bool true) ∧ Mod noB w w' := by
  cases hb : isCutB W H zs with
  | false =>
    refine joined_nocut W H ao zs.length cap a b w fun w1 hm => ?_
    have := refCut_any W H ao zs cap w1 (box_facts (W := W) (H := H) (cap := cap) hs w1 hm).2.2.2
    rw [hb] at this
    exact this
  | true =>
    obtain ⟨W, H, rfl, rfl, C⟩ := isCutB_true hb
    by_cases h : (checkR W H zs).2 = 0
    · have hn : ¬ ((checkR W H zs).2 ≠ 0) := fun h' => h' h
      by_cases h2 : ¬ (0 ≤ a ∧ a < many zs) ∨ ¬ (0 ≤ b ∧ b < many zs) ∨ a = b
      · exact joined_err C ao cap a b w hs hb 2 (by decide) (by unfold joinR; rw [if_neg hn, if_pos h2]) (.inl h)
      · obtain ⟨x, rfl⟩ := Int.eq_ofNat_of_zero_le (show 0 ≤ a by omega)
        obtain ⟨y, rfl⟩ := Int.eq_ofNat_of_zero_le (show 0 ≤ b by omega)
        by_cases h3 : (facedL (laidG W zs zs.length) W H x).count (y : Int) = 0
        · refine joined_err C ao cap x y w hs hb 6 (by decide) ?_ (.inl h)
          have h4 : (facedL (laidG (W : Int).toNat zs zs.length) (W : Int).toNat (H : Int).toNat x).count (y : Int) = 0 := by simpa using h3
          unfold joinR
          rw [if_neg hn, if_neg h2, if_pos h4]
        · exact joined_yes C ao cap x y w hs h (by omega) (by omega) (by omega) h3
    · exact joined_err C ao cap a b w hs hb (checkR W H zs).2 h (by unfold joinR; rw [if_pos h]) (.inr rfl)

set_option maxRecDepth 100000 in
theorem cutJoined_lifted (os : Os) (started : os.Started) (H : Type) (enc : TypeId × Value → H) :
    ReturnsInHanded {} Try.checked os 11 .any (Rows.cutJoinedSpec.pre6 enc Try.prog Try.f11 Rows.cutJoinedRow.domain false) (Rows.cutJoinedSpec.post enc Try.prog Try.f11 false true false false) := by
  refine returnsInHanded_of_change (C := Try.checked) Try.own started (by kernel_rfl) Try.func11
    (ChangeSpec.witness6 (enc := enc) (C := Try.checked) false ⟨#[], #[.agg #[.int .i64 0, .int .i64 0, .slice none 0 0], .int .i64 0, .int .i64 0], []⟩ 8 (by kernel_rfl) (by kernel_rfl) (by kernel_rfl) (by kernel_rfl)) ?_
  intro W base args ds gs before hval0 hW hcnd _
  have hval : ∀ (j : Nat) t v, Try.f11.params[j]? = some t → args[j]? = some v → Value.okWide Try.prog W .any base t v := hval0
  have hW' := hW
  obtain ⟨p, q, hA0, hV, rfl, hfz, hnd⟩ := hW
  have hA : DataW.TrodAll enc Try.prog W 0 (fun _ => true) true Try.f11.params.toList args.toList ds p := hA0
  rw [Try.params11] at hA hval
  obtain ⟨v0, v1, v2, d0, d1, d2, p0, p1, p2, rfl, rfl, rfl, h0, h1, h2⟩ := trodAll_three hA
  obtain ⟨rfl, rfl⟩ := trodVars_none hV
  obtain ⟨wi, hi, ao, n, cap, rfl, hints⟩ := cut_opened (hval 0 24 v0 rfl rfl) h0
  obtain ⟨a, rfl, rfl, rfl, wa⟩ := open_int Try.underlying3 (hval 1 3 v1 rfl rfl) h1
  obtain ⟨b, rfl, rfl, rfl, wb⟩ := open_int Try.underlying3 (hval 2 3 v2 rfl rfl) h2
  clear hA0 hval0 hval hA hfz hnd hcnd
  simp only [List.append_nil] at hW'
  have hlt : ∀ x ∈ p0, x.block < W.heap.size := fun x hx => by simpa using hW'.lt x hx
  have walk : Calls Try.prog 11 #[cutV wi hi ao n cap, .int .i64 a, .int .i64 b] W fun e w' => e = .returned (.bool true) ∧ Mod noB W w' := by
    rcases Nat.lt_or_ge 288 n with hn | hn
    · exact cutJoined_large wi hi ao n cap a b W hn
    · obtain ⟨zs, rfl, hs⟩ := hints hn
      exact cutJoined_small wi hi ao zs cap a b W hs hn
  refine walk.mono fun e W' ⟨he, hw⟩ => ?_
  subst he
  have bel : Below W.heap.size W W' := hw.below
  refine ⟨_, rfl, _, _, _, [], p0, [], hW', trodAll_mk1 (shut_bool Try.underlying4 _), ?_, rfl, ?_, fun h => by cases h⟩
  · have := trodAll_mk3 (Below.trod Try.laidOut (by kernel_rfl) (of_decide_eq_true (by kernel_rfl)) h0 bel hlt) (shut_int Try.underlying3 wa) (shut_int Try.underlying3 wb)
    simp only [List.append_nil] at this
    exact this
  · exact bel.frame _

theorem cutJoined_holds : Rows.CutJoinedSaid :=
  OpenClaim.holds_of_wide 11 Try.f11 rfl rfl rfl rfl rfl rfl rfl ⟨rfl, rfl, rfl, rfl, rfl⟩ rfl rfl rfl rfl rfl (by kernel_rfl) Try.func11 (by kernel_rfl)
    (of_decide_eq_true (by kernel_rfl)) (by unfold Func.isWrapper; rw [if_neg (by decide +kernel)]; exact ⟨rfl, rfl⟩)
    (fun os started H enc _ => cutJoined_lifted os started H enc)

end Go.Proofs.Ytogalmkeipigeaa

/- CutJoins: the row: on every cut that fits and any two numbers the walk ends, with true, and the input reads as it did. -/
import Derived.Test.YtogalmkeipigeaaRows
import Derived.Test.YtogalmkeipigeaaLawJ
import Derived.ProofKit
import Derived.Lib.SmallJoins
set_option linter.unusedSimpArgs false
set_option linter.unusedVariables false
namespace Go.Proofs.Ytogalmkeipigeaa
open Go.ChangeShapes Go.WideShapes Go.ChangeAt Go.RowKit Go.Joins

theorem Try.own : ownKnob Try.prog.godebug = none := by kernel_rfl
theorem Try.laidOut : laidOutB Try.prog = true := by kernel_rfl
theorem cells24 : Try.prog.cellsOf 24 = 3 := by kernel_rfl

set_option maxRecDepth 100000 in
/-- An api.Cut that came in: its two numbers, and its slice's integers, that lie in memory; or more of them than the 288 that the statements part at. -/
theorem cut_opened {H : Type} {enc : TypeId × Value → H} {W : World} {base : Nat} {v : Value} {d : DataW H} {p : List MemPlace}
    (hv : Value.okWide Try.prog W .any base 24 v) (h : DataW.Trod enc Try.prog W 0 (fun _ => true) true 24 v d p) :
    ∃ (wi hi : Int) (ao : Option Addr) (n cap : Nat), v = cutV wi hi ao n cap ∧ (n ≤ 288 → ∃ zs : List Int, zs.length = n ∧ IntsAt W ao zs) := by
  obtain ⟨v0, v1, v2, y0, y1, y2, m, rfl, rfl, rfl, t0, t1, t2⟩ := open_agg3 Try.underlying24 (by kernel_rfl) cells24 hv h
  obtain ⟨wi, e0, _, _⟩ := DataW.trod_int Try.underlying3 t0
  obtain ⟨hi, e1, _, _⟩ := DataW.trod_int Try.underlying3 t1
  simp only [List.cons.injEq, and_true] at e0 e1
  subst e0; subst e1
  rcases open_ints Try.underlying22 Try.underlying3 cells3 t2 with ⟨e2, _⟩ | ⟨a, len, cap, zs, e2, _, hl, _, hz, hx, hcell, _⟩
  · simp only [List.cons.injEq, and_true] at e2
    subst e2
    exact ⟨wi, hi, none, 0, 0, rfl, fun _ => ⟨[], rfl, ⟨fun hh => absurd rfl hh, by simp⟩⟩⟩
  · simp only [List.cons.injEq, and_true] at e2
    subst e2
    simp only [if_true] at hz
    refine ⟨wi, hi, some a, len, cap, rfl, fun hn => ⟨zs.take len, by simp; omega, ⟨fun hne => ?_, by simp; omega⟩⟩⟩
    have h0 : 0 < len := by
      rcases Nat.eq_zero_or_pos len with hh | hh
      · subst hh; simp at hne
      · exact hh
    obtain ⟨b, off, spot⟩ := a
    have hc0 := hcell 0 (by omega)
    have hs : spot = none := by
      cases spot with
      | none => rfl
      | some k => simp [World.cell?, Addr.add] at hc0; split at hc0 <;> simp at hc0
    subst hs
    refine ⟨b, off, rfl, World.block_lt_of_cell? _ _ hc0, fun j hj => ?_⟩
    have hj' : j < len := by simp at hj; omega
    have hc := hcell j (by omega)
    have ha : (⟨b, off, none⟩ : Addr).add j = ⟨b, off + j, none⟩ := by
      unfold Addr.add
      split <;> simp_all
    rw [ha] at hc
    simpa [List.getElem?_take, hj', List.getD] using hc

set_option maxRecDepth 100000 in
theorem cutJoins_lifted (os : Os) (started : os.Started) (H : Type) (enc : TypeId × Value → H) :
    ReturnsInHanded {} Try.checked os 5 .any (Rows.cutJoinsSpec.pre6 enc Try.prog Try.f5 Rows.cutJoinsRow.domain false) (Rows.cutJoinsSpec.post enc Try.prog Try.f5 false true false false) := by
  refine returnsInHanded_of_change (C := Try.checked) Try.own started (by kernel_rfl) Try.func5
    (ChangeSpec.witness6 (enc := enc) (C := Try.checked) false ⟨#[], #[.agg #[.int .i64 0, .int .i64 0, .slice none 0 0], .int .i64 0, .int .i64 0], []⟩ 8 (by kernel_rfl) (by kernel_rfl) (by kernel_rfl) (by kernel_rfl)) ?_
  intro W base args ds gs before hval0 hW hcnd _
  have hval : ∀ (j : Nat) t v, Try.f5.params[j]? = some t → args[j]? = some v → Value.okWide Try.prog W .any base t v := hval0
  have hW' := hW
  obtain ⟨p, q, hA0, hV, rfl, hfz, hnd⟩ := hW
  have hA : DataW.TrodAll enc Try.prog W 0 (fun _ => true) true Try.f5.params.toList args.toList ds p := hA0
  rw [Try.params5] at hA hval
  obtain ⟨v0, v1, v2, d0, d1, d2, p0, p1, p2, rfl, rfl, rfl, h0, h1, h2⟩ := trodAll_three hA
  obtain ⟨rfl, rfl⟩ := trodVars_none hV
  obtain ⟨wi, hi, ao, n, cap, rfl, hints⟩ := cut_opened (hval 0 24 v0 rfl rfl) h0
  obtain ⟨a, rfl, rfl, rfl, wa⟩ := open_int Try.underlying3 (hval 1 3 v1 rfl rfl) h1
  obtain ⟨b, rfl, rfl, rfl, wb⟩ := open_int Try.underlying3 (hval 2 3 v2 rfl rfl) h2
  clear hA0 hval0 hval hA hfz hnd hcnd
  simp only [List.append_nil] at hW'
  have hlt : ∀ x ∈ p0, x.block < W.heap.size := fun x hx => by simpa using hW'.lt x hx
  have walk : Calls Try.prog 5 #[cutV wi hi ao n cap, .int .i64 a, .int .i64 b] W fun e w' => e = .returned (.bool true) ∧ Mod noB W w' := by
    rcases Nat.lt_or_ge 288 n with hn | hn
    · exact cutJoins_large wi hi ao n cap a b W hn
    · obtain ⟨zs, rfl, hs⟩ := hints hn
      exact cutJoins_small wi hi ao zs cap a b W hs hn
  refine walk.mono fun e W' ⟨he, hw⟩ => ?_
  subst he
  have bel : Below W.heap.size W W' := hw.below
  refine ⟨_, rfl, _, _, _, [], p0, [], hW', trodAll_mk1 (shut_bool Try.underlying4 _), ?_, rfl, ?_, fun h => by cases h⟩
  · have := trodAll_mk3 (Below.trod Try.laidOut (by kernel_rfl) (of_decide_eq_true (by kernel_rfl)) h0 bel hlt) (shut_int Try.underlying3 wa) (shut_int Try.underlying3 wb)
    simp only [List.append_nil] at this
    exact this
  · exact bel.frame _

theorem cutJoins_holds : Rows.CutJoinsSaid :=
  OpenClaim.holds_of_wide 5 Try.f5 rfl rfl rfl rfl rfl rfl rfl ⟨rfl, rfl, rfl, rfl, rfl⟩ rfl rfl rfl rfl rfl (by kernel_rfl) Try.func5 (by kernel_rfl)
    (of_decide_eq_true (by kernel_rfl)) (by unfold Func.isWrapper; rw [if_neg (by decide +kernel)]; exact ⟨rfl, rfl⟩)
    (fun os started H enc _ => cutJoins_lifted os started H enc)

end Go.Proofs.Ytogalmkeipigeaa

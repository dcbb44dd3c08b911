/- A cut that came in, opened: two integers and a slice of integers in memory; for the rows of layer 1. -/
import Derived.Test.YtogalmkeipigeaaRows
import Derived.Test.YtogalmkeipigeaaIsCut
import Derived.ProofKit
import Derived.Lib.SmallJoins
set_option linter.unusedSimpArgs false
set_option linter.unusedVariables false
namespace Go.Proofs.Ytogalmkeipigeaa
open Go.ChangeShapes Go.WideShapes Go.ChangeAt Go.RowKit Go.Joins

theorem Try.own : ownKnob Try.prog.godebug = none := by kernel_rfl
theorem Try.laidOut : laidOutB Try.prog = true := by kernel_rfl
theorem cells24 : Try.prog.cellsOf 24 = 3 := by kernel_rfl

set_option maxRecDepth 100000 in
/-- An api.Cut that came in: its two numbers, and its slice's integers, that lie in memory; or more of them than the 288 that the statements part at. -/
theorem cut_opened {H : Type} {enc : TypeId × Value → H} {W : World} {base : Nat} {v : Value} {d : DataW H} {p : List MemPlace}
    (hv : Value.okWide Try.prog W .any base 24 v) (h : DataW.Trod enc Try.prog W 0 (fun _ => true) true 24 v d p) :
    ∃ (wi hi : Int) (ao : Option Addr) (n cap : Nat), v = cutV wi hi ao n cap ∧ (n ≤ 288 → ∃ zs : List Int, zs.length = n ∧ IntsAt W ao zs) := by
  obtain ⟨v0, v1, v2, y0, y1, y2, m, rfl, rfl, rfl, t0, t1, t2⟩ := open_agg3 Try.underlying24 (by kernel_rfl) cells24 hv h
  obtain ⟨wi, e0, _, _⟩ := DataW.trod_int Try.underlying3 t0
  obtain ⟨hi, e1, _, _⟩ := DataW.trod_int Try.underlying3 t1
  simp only [List.cons.injEq, and_true] at e0 e1
  subst e0; subst e1
  rcases open_ints Try.underlying22 Try.underlying3 cells3 t2 with ⟨e2, _⟩ | ⟨a, len, cap, zs, e2, _, hl, _, hz, hx, hcell, _⟩
  · simp only [List.cons.injEq, and_true] at e2
    subst e2
    exact ⟨wi, hi, none, 0, 0, rfl, fun _ => ⟨[], rfl, ⟨fun hh => absurd rfl hh, by simp⟩⟩⟩
  · simp only [List.cons.injEq, and_true] at e2
    subst e2
    simp only [if_true] at hz
    refine ⟨wi, hi, some a, len, cap, rfl, fun hn => ⟨zs.take len, by simp; omega, ⟨fun hne => ?_, by simp; omega⟩⟩⟩
    have h0 : 0 < len := by
      rcases Nat.eq_zero_or_pos len with hh | hh
      · subst hh; simp at hne
      · exact hh
    obtain ⟨b, off, spot⟩ := a
    have hc0 := hcell 0 (by omega)
    have hs : spot = none := by
      cases spot with
      | none => rfl
      | some k => simp [World.cell?, Addr.add] at hc0; split at hc0 <;> simp at hc0
    subst hs
    refine ⟨b, off, rfl, World.block_lt_of_cell? _ _ hc0, fun j hj => ?_⟩
    have hj' : j < len := by simp at hj; omega
    have hc := hcell j (by omega)
    have ha : (⟨b, off, none⟩ : Addr).add j = ⟨b, off + j, none⟩ := by
      unfold Addr.add
      split <;> simp_all
    rw [ha] at hc
    simpa [List.getElem?_take, hj', List.getD] using hc
end Go.Proofs.Ytogalmkeipigeaa

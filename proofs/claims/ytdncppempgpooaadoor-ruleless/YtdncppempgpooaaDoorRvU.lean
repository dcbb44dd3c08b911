/- What came in, opened: a die, stints, a plan; the library's table; for the rows of layer 4. -/
import Derived.Test.YtdncppempgpooaaDoorRows
import Derived.Test.YtdncppempgpooaaDoorTie
import Derived.Test.YtdncppempgpooaaDoorCards
import Derived.Test.YtdncppempgpooaaDoorOpen
import Derived.Test.YtdncppempgpooaaDoorRxB
import Derived.Lib.LaidTab
import Derived.LaidMore
import Derived.OpenShut
import Derived.Stop.Joined
import Derived.Stop.LaidErr
set_option linter.unusedSimpArgs false
set_option linter.unusedVariables false
namespace Go.Proofs.YtdncppempgpooaaDoor
open Go.ChangeShapes Go.WideShapes Go.ChangeAt Go.RowKit Go.Joins

theorem Tryd.own : ownKnob Tryd.prog.godebug = none := by kernel_rfl
theorem Tryd.laidOut : laidOutB Tryd.prog = true := by kernel_rfl
theorem cellsOf3 : Tryd.prog.cellsOf 3 = 1 := by kernel_rfl
theorem cellsOf28 : Tryd.prog.cellsOf 28 = 2 := by kernel_rfl
theorem cellsOf53 : Tryd.prog.cellsOf 53 = 4 := by kernel_rfl
theorem cellsOf58 : Tryd.prog.cellsOf 58 = 2 := by kernel_rfl
theorem cellsOf24 : Tryd.prog.cellsOf 24 = 4 := by kernel_rfl

section
variable {H : Type} {enc : TypeId × Value → H} {W : World} {base : Nat} {sp : Nat → Bool} {held : Bool}
set_option maxRecDepth 100000 in
theorem trod_span {fuel : Nat} {cs : List Value} {x : DataW H × List MemPlace} (h : DataW.trod enc Tryd.prog W base sp held fuel 28 cs = some x) : ∃ s : Int × Int, cs = (spC s).toList := by
  obtain ⟨xs, n, _, _, hl, hx, hf⟩ := DataW.trod_struct Tryd.underlying28 h
  rw [cellsOf28] at hl
  match cs, hl with
  | [c0, c1], _ =>
    match xs, hx with
    | [x0, x1], _ =>
      have h0 := hf 0 _ rfl
      have h1 := hf 1 _ rfl
      obtain ⟨a, ea, _⟩ := DataW.trod_int Tryd.underlying3 h0
      obtain ⟨b, eb, _⟩ := DataW.trod_int Tryd.underlying3 h1
      replace ea : ([c0, c1].drop 0).take (Tryd.prog.cellsOf 3) = _ := ea
      rw [cellsOf3] at ea
      replace ea : [c0] = _ := ea
      replace eb : ([c0, c1].drop 1).take (Tryd.prog.cellsOf 3) = _ := eb
      rw [cellsOf3] at eb
      replace eb : [c1] = _ := eb
      simp only [List.cons.injEq, and_true] at ea eb
      exact ⟨(a, b), by rw [ea, eb]⟩
set_option maxRecDepth 100000 in
theorem trod_stint {fuel : Nat} {cs : List Value} {x : DataW H × List MemPlace} (h : DataW.trod enc Tryd.prog W base sp held fuel 58 cs = some x) : ∃ s : Int × Int, cs = (spC s).toList := by
  obtain ⟨xs, n, _, _, hl, hx, hf⟩ := DataW.trod_struct Tryd.underlying58 h
  rw [cellsOf58] at hl
  match cs, hl with
  | [c0, c1], _ =>
    match xs, hx with
    | [x0, x1], _ =>
      have h0 := hf 0 _ rfl
      have h1 := hf 1 _ rfl
      obtain ⟨a, ea, _⟩ := DataW.trod_int Tryd.underlying3 h0
      obtain ⟨b, eb, _⟩ := DataW.trod_int Tryd.underlying3 h1
      replace ea : ([c0, c1].drop 0).take (Tryd.prog.cellsOf 3) = _ := ea
      rw [cellsOf3] at ea
      replace ea : [c0] = _ := ea
      replace eb : ([c0, c1].drop 1).take (Tryd.prog.cellsOf 3) = _ := eb
      rw [cellsOf3] at eb
      replace eb : [c1] = _ := eb
      simp only [List.cons.injEq, and_true] at ea eb
      exact ⟨(a, b), by rw [ea, eb]⟩
set_option maxRecDepth 100000 in
theorem trod_blade {fuel : Nat} {cs : List Value} {x : DataW H × List MemPlace} (h : DataW.trod enc Tryd.prog W base sp held fuel 53 cs = some x) : ∃ b : Bld, cs = (blC b).toList := by
  obtain ⟨xs, n, _, _, hl, hx, hf⟩ := DataW.trod_struct Tryd.underlying53 h
  rw [cellsOf53] at hl
  match cs, hl with
  | [c0, c1, c2, c3], _ =>
    match xs, hx with
    | [x0, x1], _ =>
      have h0 := hf 0 _ rfl
      have h1 := hf 1 _ rfl
      obtain ⟨a, ea⟩ := trod_span h0
      obtain ⟨b, eb⟩ := trod_span h1
      replace ea : ([c0, c1, c2, c3].drop 0).take (Tryd.prog.cellsOf 28) = _ := ea
      rw [cellsOf28] at ea
      replace ea : [c0, c1] = _ := ea
      replace eb : ([c0, c1, c2, c3].drop 2).take (Tryd.prog.cellsOf 28) = _ := eb
      rw [cellsOf28] at eb
      replace eb : [c2, c3] = _ := eb
      simp only [List.cons.injEq, and_true] at ea eb
      obtain ⟨rfl, rfl⟩ := ea
      obtain ⟨rfl, rfl⟩ := eb
      exact ⟨⟨a, b⟩, rfl⟩

set_option maxRecDepth 100000 in
theorem die_opened {r : Reach} {v : Value} {d : DataW H} {p : List MemPlace} (hv : Value.okWide Tryd.prog W r base 24 v) {b0 : Nat} (h : DataW.Trod enc Tryd.prog W b0 sp held 24 v d p) :
    ∃ (ao : Option Addr) (cap : Nat) (y : Dye), v = dyV ao y.bl.length cap y ∧ y.bl.length ≤ 9223372036854775807 ∧ (y.bl.length ≤ 1000000000000 → BladesAt W.heap.size W ao y.bl) := by
  obtain ⟨v0, v1, v2, v3, y0, y1, y2, y3, m, rfl, _, _, t0, t1, t2, t3⟩ := open_agg4 Tryd.underlying24 (by kernel_rfl) cellsOf24 hv h
  obtain ⟨bd, e1, _, _⟩ := DataW.trod_int Tryd.underlying3 t1
  obtain ⟨st, e2, _, _⟩ := DataW.trod_int Tryd.underlying3 t2
  obtain ⟨be, e3, _, _⟩ := DataW.trod_int Tryd.underlying3 t3
  simp only [List.cons.injEq, and_true] at e1 e2 e3
  subst e1; subst e2; subst e3
  obtain ⟨ao, n, cap, rfl, hn, es, hes, hat⟩ := slice_opened (by omega : 0 < 4) blC (fun _ => rfl) Tryd.underlying22 cellsOf53 (fun _ _ _ h => trod_blade h) t0
  exact ⟨ao, cap, ⟨es, bd, st, be⟩, by rw [hes], by rw [hes]; exact hn, fun hs => ⟨hat, hs⟩⟩
set_option maxRecDepth 100000 in
theorem stints_opened {r : Reach} {v : Value} {d : DataW H} {p : List MemPlace} (hv : Value.okWide Tryd.prog W r base 33 v) {b0 : Nat} (h : DataW.Trod enc Tryd.prog W b0 sp held 33 v d p) :
    ∃ (ao : Option Addr) (cap : Nat) (l : List (Int × Int)), v = .slice ao l.length cap ∧ l.length ≤ 9223372036854775807 ∧ (l.length ≤ 1000000000000 → StintsAt W.heap.size W ao l) := by
  obtain ⟨fuel, hf⟩ := h
  have hone : ∃ c, v.cells.toList = [c] := by
    cases v with
    | agg cs => simp only [Value.okWide, Tryd.underlying33, Cell.okWide, Cell.ok] at hv
    | _ => exact ⟨_, rfl⟩
  obtain ⟨c, hc⟩ := hone
  rw [hc] at hf
  obtain ⟨ao, n, cap, rfl, hn, es, hes, hat⟩ := slice_opened (by omega : 0 < 2) spC (fun _ => rfl) Tryd.underlying33 cellsOf58 (fun _ _ _ h => trod_stint h) hf
  exact ⟨ao, cap, es, by rw [slice_value Tryd.underlying33 hv hc, hes], by rw [hes]; exact hn, fun hs => ⟨hat, hs⟩⟩
set_option maxRecDepth 100000 in
theorem plan_opened {r : Reach} {v : Value} {d : DataW H} {p : List MemPlace} (hv : Value.okWide Tryd.prog W r base 34 v) {b0 : Nat} (h : DataW.Trod enc Tryd.prog W b0 sp held 34 v d p) :
    ∃ (ao : Option Addr) (cap : Nat) (l : List Int), v = .slice ao l.length cap ∧ l.length ≤ 9223372036854775807 ∧ (l.length ≤ 1000000 → IntsAt W ao l) := by
  obtain ⟨fuel, hf⟩ := h
  have hone : ∃ c, v.cells.toList = [c] := by
    cases v with
    | agg cs => simp only [Value.okWide, Tryd.underlying34, Cell.okWide, Cell.ok] at hv
    | _ => exact ⟨_, rfl⟩
  obtain ⟨c, hc⟩ := hone
  rw [hc] at hf
  obtain ⟨ao, n, cap, rfl, hn, es, hes, hat⟩ := slice_opened (by omega : 0 < 1) (fun x : Int => #[.int .i64 x]) (fun _ => rfl) Tryd.underlying34 cellsOf3 (fun _ _ _ h => trod_int1 Tryd.underlying3 cellsOf3 h) hf
  refine ⟨ao, cap, es, by rw [slice_value Tryd.underlying34 hv hc, hes], by rw [hes]; exact hn, fun hs => ⟨fun hne => ?_, hs⟩⟩
  obtain ⟨b, off, h1, h2, h3⟩ := hat hne
  refine ⟨b, off, h1, h2, fun j hj => ?_⟩
  obtain ⟨x, hx⟩ : ∃ x, es[j]? = some x := ⟨_, List.getElem?_eq_getElem hj⟩
  have := h3 j x hx 0 (by omega)
  rw [hx]
  simpa using this
end

/-! ### the library's table -/
theorem gTab : Tryd.prog.globalNamed "math/bits.deBruijn64tab" = some 1 := by kernel_rfl
theorem tTab : (Tryd.prog.globals[1]?).map (·.type) = some 133 := by kernel_rfl
theorem cellsT : Tryd.prog.cellsOf 133 = 64 := by kernel_rfl
theorem cells5 : Tryd.prog.cellsOf 5 = 1 := by kernel_rfl
abbrev laidL : List (String × DataW Unit) := [("math/bits.deBruijn32tab", Rows.laid_math_bits_deBruijn32tab), ("math/bits.deBruijn64tab", Rows.laid_math_bits_deBruijn64tab)]
abbrev tabZ : List Int := List.map (fun n : Nat => (Int.ofNat n)) Lib.deBruijn64tab
theorem tab_data : (Rows.laid_math_bits_deBruijn64tab : DataW Unit) = Lib.tabData .u8 tabZ := by kernel_rfl
theorem tab_of_laid {W : World} (h : laidMetH Tryd.prog laidL W) : Tab W := by
  rw [MakeChecks.laidMetH_plain _ _ _ (by kernel_rfl)] at h
  have h2 := h.tail
  rw [tab_data] at h2
  have ht := Lib.tabIs_of_head gTab tTab Tryd.underlying133 Tryd.underlying5 cells5 cellsT h2
  refine ⟨fun j hj => ?_⟩
  have hl : j < tabZ.length := by rw [List.length_map]; exact Nat.lt_of_lt_of_le hj (by decide +kernel)
  have := ht.cell gTab j hl
  rw [this]
  have hj2 : j < Lib.deBruijn64tab.length := by simpa using hl
  simp [List.getD, hj2]

/-- The door's own heap meets the condition. -/
theorem door_met (os : Os) (args : Array Value) : laidMetH Tryd.prog laidL ((World.doorLaid Tryd.prog 400 os).forCall (fun _ _ => 0) ⟨#[], args, []⟩).memory :=
  laidMetH_of_parts3 (fuel := 8) (laidMet_of_run' 8 (by kernel_rfl) (by kernel_rfl)) (by kernel_rfl) (by kernel_rfl)

abbrev noDie : Value := .agg #[.slice none 0 0, .int .i64 0, .int .i64 0, .int .i64 0]

end Go.Proofs.YtdncppempgpooaaDoor

/- Raw bytes that came in. -/
import Derived.Test.YtdncppempgpooaaDoorRwS
import Derived.Test.YtdncppempgpooaaDoorRvU
set_option linter.unusedSimpArgs false
set_option linter.unusedVariables false
namespace Go.Proofs.YtdncppempgpooaaDoor
open Go.ChangeShapes Go.WideShapes Go.ChangeAt Go.RowKit Go.Joins
theorem cellsOf5b : Tryd.prog.cellsOf 5 = 1 := by kernel_rfl
section
variable {H : Type} {enc : TypeId × Value → H} {W : World} {base : Nat} {sp : Nat → Bool} {held : Bool}
set_option maxRecDepth 100000 in
theorem bytes_opened {r : Reach} {v : Value} {d : DataW H} {p : List MemPlace} (hv : Value.okWide Tryd.prog W r base 62 v) {b0 : Nat} (h : DataW.Trod enc Tryd.prog W b0 sp held 62 v d p) :
    ∃ (bo : Option Addr) (n cap : Nat), v = .slice bo n cap ∧ n ≤ 9223372036854775807 ∧ (0 < n → BytesAt W bo n) := by
  obtain ⟨fuel, hf⟩ := h
  have hone : ∃ c, v.cells.toList = [c] := by
    cases v with
    | agg cs => simp only [Value.okWide, Tryd.underlying62, Cell.okWide, Cell.ok] at hv
    | _ => exact ⟨_, rfl⟩
  obtain ⟨c, hc⟩ := hone
  rw [hc] at hf
  obtain ⟨ao, n, cap, rfl, hn, es, hes, hat⟩ := slice_opened (by omega : 0 < 1) (fun u : { u : Nat // u ≤ 255 } => #[Value.int .u8 (u.1 : Nat)]) (fun _ => rfl) Tryd.underlying62 cellsOf5b (fun _ l _ h => by
    obtain ⟨a, ea, _, hw⟩ := DataW.trod_int Tryd.underlying5 h
    obtain ⟨a0, a1⟩ := wf_u8 hw
    refine ⟨⟨a.toNat, by omega⟩, ?_⟩
    rw [ea]
    show [Value.int .u8 a] = [Value.int .u8 (a.toNat : Nat)]
    rw [Int.toNat_of_nonneg a0]) hf
  refine ⟨ao, n, cap, slice_value Tryd.underlying62 hv hc, hn, fun h0 => ?_⟩
  obtain ⟨b, off, h1, h2, h3⟩ := hat (fun e => by rw [e] at hes; simp at hes; omega)
  refine ⟨b, off, h1, h2, fun j hj => ?_⟩
  obtain ⟨u, hu⟩ : ∃ u, es[j]? = some u := ⟨_, List.getElem?_eq_getElem (by omega)⟩
  refine ⟨u.1, u.2, ?_⟩
  have := h3 j u hu 0 (by omega)
  rw [Nat.mul_one, Nat.add_zero] at this
  exact this
end
theorem tab_lt2 {W : World} (h : Tab W) : 1 < W.heap.size := World.block_lt_of_cell? _ _ (h.at_ 0 (by omega))
end Go.Proofs.YtdncppempgpooaaDoor

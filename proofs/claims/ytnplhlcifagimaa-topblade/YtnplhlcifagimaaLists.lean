/- Slices of integers: what they hold; Index, Contains, Clone; indices. -/
import Derived.Test.YtnplhlcifagimaaGev
import Derived.Test.YtnplhlcifagimaaAreSides
set_option linter.unusedSimpArgs false
set_option linter.unusedVariables false
namespace Go.Proofs.Ytnplhlcifagimaa
open Go.RowKit

/-- Where in a list a number is one of some. -/
def indicesTo (f : Int → Bool) (L : List Int) (n : Nat) : List Int := ((List.range n).filter fun i => f (L[i]?.getD 0)).map (fun (i : Nat) => (i : Int))
def indicesR (f : Int → Bool) (L : List Int) : List Int := indicesTo f L L.length
theorem indicesTo_yes {f : Int → Bool} {L : List Int} {k : Nat} (h : f (L[k]?.getD 0) = true) : indicesTo f L (k + 1) = indicesTo f L k ++ [(k : Int)] := by
  simp [indicesTo, List.range_succ, List.filter_append, h]
theorem indicesTo_no {f : Int → Bool} {L : List Int} {k : Nat} (h : f (L[k]?.getD 0) = false) : indicesTo f L (k + 1) = indicesTo f L k := by
  simp [indicesTo, List.range_succ, List.filter_append, h]
theorem indicesTo_len (f : Int → Bool) (L : List Int) (k : Nat) : (indicesTo f L k).length ≤ k := by
  unfold indicesTo
  rw [List.length_map]
  exact Nat.le_trans (List.length_filter_le _ _) (by simp)

end Go.Proofs.Ytnplhlcifagimaa

/- pairings: which holes each tab goes into. -/
import Derived.Test.YtnjbamikfjdofaaPlaceC
import Derived.Test.YtnjbamikfjdofaaMatches
import Derived.Deep.RegionHeld3
set_option linter.unusedSimpArgs false
set_option linter.unusedVariables false
namespace Go.Proofs.Ytnjbamikfjdofaa
open Go.RowKit Go.Shelf

theorem info43 : (Try.prog.info? 43).map (fun i => (i.zero, i.size, i.bytes)) = some (some (.slice none 0 0), 1, 24) := by kernel_rfl

/-- Which holes each tab goes into. -/
def goesL (p : Ply) (tabs holes : List Edg) : List (List Int) := tabs.map fun t => indicesR maybe (foundL p t holes)

/-- What pairings captured: tabs, what is allowed, holes. -/
structure Env (p : Ply) (tabs holes : List Edg) (bt pb hb : Nat) (to ho : Option Addr) (capt caph : Nat) (W : World) : Prop where
  t : W.heap[bt]? = some (.cells #[.slice to tabs.length capt] 42)
  p : W.heap[pb]? = some (.cells (plC p) 25)
  h : W.heap[hb]? = some (.cells #[.slice ho holes.length caph] 42)
  te : EdgesAt W to tabs
  he : EdgesAt W ho holes
theorem Env.mod {p : Ply} {tabs holes : List Edg} {bt pb hb : Nat} {to ho : Option Addr} {capt caph : Nat} {W W' : World} (h : Env p tabs holes bt pb hb to ho capt caph W) (hm : Mod noB W W') : Env p tabs holes bt pb hb to ho capt caph W' :=
  ⟨hm.at h.t id, hm.at h.p id, hm.at h.h id, h.te.mod hm, h.he.mod hm⟩

/-- The rows that have been filled so far: what lies at which place of the outer row. -/
structure GInv (B : Nat) (n : Nat) (gb : Nat) (goes : List (List Int)) (i : Nat) (V : Nat → Value) (W : World) : Prop where
  b : W.heap[gb]? = some (.cells (fcells n V) 43)
  r : ∀ j L, j < i → goes[j]? = some L → W.ownsRow B 3 1 (V j) L.length (L.map (Value.int .i64))
theorem GInv.mod {B n gb : Nat} {goes : List (List Int)} {i : Nat} {V : Nat → Value} {W W' : World} (h : GInv B n gb goes i V W) (hm : Mod noB W W') : GInv B n gb goes i V W' :=
  ⟨hm.at h.b id, fun j L hj hL => own_mod (h.r j L hj hL) hm⟩
theorem GInv.set {B n gb : Nat} {goes : List (List Int)} {i : Nat} {V : Nat → Value} {W : World} (h : GInv B n gb goes i V W) {v : Value} {L : List Int} (hL : goes[i]? = some L) (hv : W.ownsRow B 3 1 v L.length (L.map (Value.int .i64))) (hgb : gb < B) :
    GInv B n gb goes (i + 1) (fun j => if j = i then v else V j) (W.setCell ⟨gb, i, none⟩ v) := by
  have hm : Mod (fun k => k = gb) W (W.setCell ⟨gb, i, none⟩ v) := (Mod.refl (fun k => k = gb) W).setCell (p := ⟨gb, i, none⟩) (fun _ => rfl) _
  have keep : ∀ {v : Value} {L : List Int}, W.ownsRow B 3 1 v L.length (L.map (Value.int .i64)) → (W.setCell ⟨gb, i, none⟩ v).heap.size = W.heap.size → True := fun _ _ => trivial
  refine ⟨fcells_store h.b i v, fun j L' hj hL' => ?_⟩
  have same : ∀ {u : Value} {M : List Int}, W.ownsRow B 3 1 u M.length (M.map (Value.int .i64)) → (W.setCell ⟨gb, i, none⟩ v).ownsRow B 3 1 u M.length (M.map (Value.int .i64)) := fun {u M} hu => by
    have h0 : OwnV B W (M, u) := hu
    exact h0.same (fun r hr => hm.block r (h0.cells hr).2.1 (by have := (h0.cells hr).1; omega))
  by_cases e : j = i
  · subst e
    rw [hL] at hL'
    cases hL'
    simp only [if_pos]
    exact same hv
  · simp only [if_neg e]
    exact same (h.r j L' (by omega) hL')

/-- A list of what fits, behind the found numbers and the two that are sought. -/
theorem indices_maybe (p : Ply) (t : Edg) (holes : List Edg) (ao bo : Option Addr) (W : World) (h1 : IntsAt W ao (foundL p t holes)) (h2 : IntsAt W bo [2, 1]) :
    Calls Try.prog 63 #[.slice ao holes.length holes.length, .slice bo 2 2] W fun e w' => ∃ v, e = .returned v ∧ w'.ownsRow W.heap.size 3 1 v (indicesR maybe (foundL p t holes)).length ((indicesR maybe (foundL p t holes)).map (Value.int .i64)) ∧ Mod noB W w' := by
  have := indices_any ao bo (foundL p t holes) [2, 1] holes.length 2 W h1 h2
  rw [foundL_len] at this
  exact this
end Go.Proofs.Ytnjbamikfjdofaa

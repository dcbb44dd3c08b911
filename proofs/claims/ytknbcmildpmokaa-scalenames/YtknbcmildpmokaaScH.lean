/- weigher: what a scale reads. -/
import Derived.Test.YtknbcmildpmokaaScG
set_option linter.unusedSimpArgs false
set_option linter.unusedVariables false
namespace Go.Proofs.Ytknbcmildpmokaa
open Go.RowKit Go.Shelf


theorem li_at {l : List Int} {k : Nat} (h : k < 4) : (liC l)[k]? = some (.int .i64 (l[k]?.getD 0)) := by
  rcases (by omega : k = 0 ∨ k = 1 ∨ k = 2 ∨ k = 3) with rfl | rfl | rfl | rfl <;> rfl
theorem partsW_len (ks : List Knd) (ns : List Int) : (partsW ks ns).length = min ks.length ns.length := by simp [partsW]
theorem partsW_at {ks : List Knd} {ns : List Int} {k : Nat} {kk : Knd} {z : Int} (h1 : ks[k]? = some kk) (h2 : ns[k]? = some z) : (partsW ks ns)[k]? = some (partW kk z) := by
  have : (ks.zip ns)[k]? = some (kk, z) := by rw [List.getElem?_zip_eq_some]; exact ⟨h1, h2⟩
  simp [partsW, this]
theorem take_snoc' {α : Type} {l : List α} {k : Nat} {x : α} (h : l[k]? = some x) : l.take (k + 1) = l.take k ++ [x] := by
  obtain ⟨hk, hx⟩ := List.getElem?_eq_some_iff.1 h
  rw [List.take_succ_eq_append_getElem hk, hx]
/-- What lies where while a scale, or a camera, reads. -/
structure RdF (B : Nat) (w : World) (m : Array Value) (mt : Nat) (ao : Option Addr) (cap : Nat) (b : Bx) (has : List Int) (W : World) : Prop where
  m : W.heap[w.heap.size]? = some (.cells m mt)
  b : BoxAt B W (w.heap.size + 1) ao cap b
  h : W.heap[w.heap.size + 1 + 1]? = some (.cells (liC has) 77)
  r : W.heap[w.heap.size + 1 + 1 + 1]? = some (.cells (spC (0, 0)) 78)
  w : Mod noB w W
theorem rdF {B : Nat} {w : World} {m : Array Value} {mt : Nat} {ao : Option Addr} {cap : Nat} {b : Bx} {has : List Int} (hB : B ≤ w.heap.size) (hs : KindsAt B w ao b.ks) {W : World} (h : Mod noB (allocL w [.cells m mt, .cells (bxC ao b.ks.length cap b) 26, .cells (liC has) 77, .cells (spC (0, 0)) 78]) W) : RdF B w m mt ao cap b has W := by
  have hm := (allocL_mod noB [.cells m mt, .cells (bxC ao b.ks.length cap b) 26, .cells (liC has) 77, .cells (spC (0, 0)) 78] w).trans h
  exact ⟨at_allocL _ h 0 _ rfl, ⟨at_allocL _ h 1 _ rfl, hs.low (Low.ofN hm hB)⟩, at_allocL _ h 2 _ rfl, at_allocL _ h 3 _ rfl, hm⟩
theorem RdF.mod {B : Nat} {w : World} {m : Array Value} {mt : Nat} {ao : Option Addr} {cap : Nat} {b : Bx} {has : List Int} {W W' : World} (h : RdF B w m mt ao cap b has W) (hB : B ≤ w.heap.size) (hm : Mod noB W W') : RdF B w m mt ao cap b has W' :=
  ⟨hm.at h.m id, h.b.mod hm (Nat.le_trans hB h.w.size), hm.at h.h id, hm.at h.r id, h.w.trans hm⟩
/-- Between two rounds. -/
structure RdI (B : Nat) (w : World) (m : Array Value) (mt : Nat) (ao : Option Addr) (cap : Nat) (b : Bx) (has : List Int) (n : Nat) (L : List (Int × Int)) (v : Value) (W : World) : Prop where
  f : RdF B w m mt ao cap b has W
  o : W.ownsRow (w.heap.size + 4) 78 2 v n (flatC spC L)
/-- A list that is appended to turns its own block alone. -/
theorem RdF.grown {B : Nat} {w : World} {m : Array Value} {mt : Nat} {ao : Option Addr} {cap : Nat} {b : Bx} {has : List Int} {W W' : World} {row : Option Nat} (h : RdF B w m mt ao cap b has W) (hB : B ≤ w.heap.size) (hg : W.grownBy W' row) (hr : ∀ r, row = some r → w.heap.size + 4 ≤ r) : RdF B w m mt ao cap b has W' := by
  have keep : ∀ k, k < w.heap.size + 4 → k < W.heap.size → W'.heap[k]? = W.heap[k]? := fun k h1 h2 => hg.block k h2 (fun e => by have := hr k e.symm; omega)
  have hsz := at_ltS h.r
  have hM : Mod (fun k => w.heap.size + 4 ≤ k) W W' := Mod.of_grownBy hg (fun r hr' _ => hr r hr')
  exact ⟨(keep _ (by omega) (by omega)).trans h.m, ⟨(keep _ (by omega) (by omega)).trans h.b.c, h.b.k.low (Low.of hM (Nat.le_trans hB h.w.size) (fun k hk => by omega))⟩, (keep _ (by omega) (by omega)).trans h.h, (keep _ (by omega) hsz).trans h.r, h.w.then hM (fun i hi h => by omega)⟩


end Go.Proofs.Ytknbcmildpmokaa

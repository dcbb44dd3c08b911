/- Blocks that are made anew and then written. -/
import Derived.Test.YtnjbamikfjdofaaLawT
set_option linter.unusedSimpArgs false
set_option linter.unusedVariables false
namespace Go.Proofs.Ytnjbamikfjdofaa
open Go.RowKit Go.Shelf

theorem set_same {w : World} {b o : Nat} {cs ds : Array Value} {T : TypeId} {v : Value} (h : w.heap[b]? = some (.cells cs T)) (e : cs.setIfInBounds o v = ds) : (w.setCell ⟨b, o, none⟩ v).heap[b]? = some (.cells ds T) := by
  rw [← e]; exact heap_setCell_same w b o cs T v h
theorem set_other {w : World} {b c o : Nat} {x : Obj} {v : Value} (h : w.heap[b]? = some x) (n : b ≠ c) : (w.setCell ⟨c, o, none⟩ v).heap[b]? = some x := by
  rw [heap_setCell_other w ⟨c, o, none⟩ b v n]; exact h
theorem frozen_at {w : World} {b : Nat} {cs : Array Value} {T : TypeId} (h : w.heap[b]? = some (.cells cs T)) (o : Nat) : w.frozen? ⟨b, o, none⟩ = false := frozen_of_row w b o cs T h

/-- Three blocks, made anew. -/
structure Three (q1 q2 q3 : Ply) (w w' : World) (x y z : Nat) : Prop where
  m : Mod noB w w'
  x0 : w.heap.size ≤ x
  y0 : w.heap.size ≤ y
  z0 : w.heap.size ≤ z
  xy : x ≠ y
  xz : x ≠ z
  yz : y ≠ z
  hx : w'.heap[x]? = some (.cells (plC q1) 25)
  hy : w'.heap[y]? = some (.cells (plC q2) 25)
  hz : w'.heap[z]? = some (.cells (plC q3) 25)
theorem Three.drew {q1 q2 q3 : Ply} {w w' : World} {x y z : Nat} (h : Three q1 q2 q3 w w' x y z) : Three q1 q2 q3 w w'.drew x y z := ⟨h.m.drew, h.x0, h.y0, h.z0, h.xy, h.xz, h.yz, h.hx, h.hy, h.hz⟩
theorem Three.set1 {q1 q2 q3 : Ply} {w w' : World} {x y z : Nat} (h : Three q1 q2 q3 w w' x y z) (v : Int) : Three { q1 with slack := v } q2 q3 w (w'.setCell ⟨x, 1, none⟩ (.int .i64 v)) x y z :=
  ⟨h.m.setNew h.x0 _, h.x0, h.y0, h.z0, h.xy, h.xz, h.yz, set_same h.hx rfl, set_other h.hy h.xy.symm, set_other h.hz h.xz.symm⟩
theorem Three.set2 {q1 q2 q3 : Ply} {w w' : World} {x y z : Nat} (h : Three q1 q2 q3 w w' x y z) (v : Int) : Three q1 { q2 with loose := v } q3 w (w'.setCell ⟨y, 2, none⟩ (.int .i64 v)) x y z :=
  ⟨h.m.setNew h.y0 _, h.x0, h.y0, h.z0, h.xy, h.xz, h.yz, set_other h.hx h.xy, set_same h.hy rfl, set_other h.hz h.yz.symm⟩
theorem Three.set3 {q1 q2 q3 : Ply} {w w' : World} {x y z : Nat} (h : Three q1 q2 q3 w w' x y z) (v : Int) : Three q1 q2 { q3 with damp := (q3.damp.1, v) } w (w'.setCell ⟨z, 4, none⟩ (.int .i64 v)) x y z :=
  ⟨h.m.setNew h.z0 _, h.x0, h.y0, h.z0, h.xy, h.xz, h.yz, set_other h.hx h.xz, set_other h.hy h.yz, set_same h.hz rfl⟩

theorem three_new (p : Ply) (w : World) (x y z : Nat) (hx : x = w.heap.size ∨ x = w.heap.size + 1 ∨ x = w.heap.size + 1 + 1) (hy : y = w.heap.size ∨ y = w.heap.size + 1 ∨ y = w.heap.size + 1 + 1) (hz : z = w.heap.size ∨ z = w.heap.size + 1 ∨ z = w.heap.size + 1 + 1) (xy : x ≠ y) (xz : x ≠ z) (yz : y ≠ z) :
    Three p p p w (((w.alloc (.cells (plC p) 25)).alloc (.cells (plC p) 25)).alloc (.cells (plC p) 25)).drew x y z := by
  have H : ∀ b, (b = w.heap.size ∨ b = w.heap.size + 1 ∨ b = w.heap.size + 1 + 1) → ((((w.alloc (.cells (plC p) 25)).alloc (.cells (plC p) 25)).alloc (.cells (plC p) 25)).drew).heap[b]? = some (.cells (plC p) 25) := by
    intro b hb
    rw [allocL3]
    rcases hb with rfl | rfl | rfl
    · exact allocL_at _ w 0 _ rfl
    · exact allocL_at _ w 1 _ rfl
    · exact allocL_at _ w 2 _ rfl
  exact ⟨by rw [allocL3]; exact (allocL_mod noB _ w).drew, by omega, by omega, by omega, xy, xz, yz, H x hx, H y hy, H z hz⟩

theorem Three.both {p : Ply} {w w' : World} {x y z : Nat} {S L u v : Int} (h : Three p p p w w' x y z) (e1 : S = u) (e2 : L = v) : Three { p with slack := S } { p with loose := L } p w ((w'.setCell ⟨x, 1, none⟩ (.int .i64 u)).setCell ⟨y, 2, none⟩ (.int .i64 v)).drew x y z := by
  subst e1; subst e2
  exact ((h.set1 _).set2 _).drew
theorem Three.third {q1 q2 p : Ply} {w w' : World} {x y z : Nat} {D v : Int} (h : Three q1 q2 p w w' x y z) (e1 : D = v) : Three q1 q2 { p with damp := (p.damp.1, D) } w (w'.setCell ⟨z, 4, none⟩ (.int .i64 v)) x y z := by
  subst e1
  exact h.set3 _

/-- The cells of three blocks of plays, one after the other. -/
@[reducible] def threeC (p q r : Ply) : Array Value := #[.int .i64 p.len, .int .i64 p.slack, .int .i64 p.loose, .int .i64 p.damp.1, .int .i64 p.damp.2, .int .i64 q.len, .int .i64 q.slack, .int .i64 q.loose, .int .i64 q.damp.1, .int .i64 q.damp.2, .int .i64 r.len, .int .i64 r.slack, .int .i64 r.loose, .int .i64 r.damp.1, .int .i64 r.damp.2]
/-- In the loop over three plays. -/
def LoopAt (p : Ply) (a b : Edg) (r : Int × Int) (w : World) (z B : Nat) (q1 q2 q3 : Ply) (w' : World) : Prop :=
  (LK p a b r w w' ∧ w'.heap[z]? = some (.cells (plC q3) 25)) ∧ w'.heap[B]? = some (.cells (threeC q1 q2 q3) 25)
theorem loop_at {p : Ply} {a b : Edg} {r : Int × Int} {w w24 wc : World} {x y z : Nat} {q1 q2 q3 : Ply} (HF : Kept w24 (LK p a b r w)) (h : Three q1 q2 q3 w24 wc x y z) : Kept (wc.alloc (.cells (threeC q1 q2 q3) 25)) (LoopAt p a b r w z wc.heap.size q1 q2 q3) :=
  fun w' hm => ⟨⟨HF w' (h.m.trans (((Mod.refl noB wc).alloc _).trans hm)), (((Mod.refl noB wc).alloc _).trans hm).at h.hz id⟩, hm.at (World.alloc_heap_new wc _) id⟩

/-- A block with a side, made anew. -/
structure One (c : Edg) (w w' : World) (b : Nat) : Prop where
  m : Mod noB w w'
  b0 : w.heap.size ≤ b
  hb : w'.heap[b]? = some (.cells (edC c) 27)
theorem One.drew {c : Edg} {w w' : World} {b : Nat} (h : One c w w' b) : One c w w'.drew b := ⟨h.m.drew, h.b0, h.hb⟩
theorem One.set1 {c : Edg} {w w' : World} {b : Nat} (h : One c w w' b) (v : Int) : One { c with a := (c.a.1, v) } w (w'.setCell ⟨b, 2, none⟩ (.int .i64 v)) b := ⟨h.m.setNew h.b0 _, h.b0, set_same h.hb rfl⟩
theorem One.set2 {c : Edg} {w w' : World} {b : Nat} (h : One c w w' b) (v : Int) : One { c with w := (v, c.w.2) } w (w'.setCell ⟨b, 3, none⟩ (.int .i64 v)) b := ⟨h.m.setNew h.b0 _, h.b0, set_same h.hb rfl⟩
theorem One.set3 {c : Edg} {w w' : World} {b : Nat} (h : One c w w' b) (v : Int) : One { c with d := (c.d.1, v) } w (w'.setCell ⟨b, 6, none⟩ (.int .i64 v)) b := ⟨h.m.setNew h.b0 _, h.b0, set_same h.hb rfl⟩
theorem one_new (c : Edg) (w : World) : One c w (w.alloc (.cells (edC c) 27)) w.heap.size := ⟨(Mod.refl noB w).alloc _, Nat.le_refl _, World.alloc_heap_new w _⟩
theorem one_a (c : Edg) (v : Int) (w : World) : One { c with a := (c.a.1, v) } w (w.alloc (.cells #[.int .i64 c.k, .int .i64 c.a.1, .int .i64 v, .int .i64 c.w.1, .int .i64 c.w.2, .int .i64 c.d.1, .int .i64 c.d.2] 27)) w.heap.size := one_new { c with a := (c.a.1, v) } w
end Go.Proofs.Ytnjbamikfjdofaa

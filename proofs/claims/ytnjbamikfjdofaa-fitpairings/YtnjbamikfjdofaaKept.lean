/- Blocks laid one behind the other; what holds in a world and in all later ones. -/
import Derived.Test.YtnjbamikfjdofaaVerdicts
set_option linter.unusedSimpArgs false
set_option linter.unusedVariables false
namespace Go.Proofs.Ytnjbamikfjdofaa
open Go.RowKit

/-- Objects laid one behind the other. -/
def allocL (w : World) : List Obj → World
  | [] => w
  | o :: os => allocL (w.alloc o) os
theorem allocL_size (os : List Obj) : ∀ w : World, (allocL w os).heap.size = w.heap.size + os.length := by
  induction os with
  | nil => exact fun w => rfl
  | cons o os ih => intro w; simp only [allocL, ih, World.size_alloc, List.length_cons]; omega
theorem allocL_mod (T : Nat → Prop) (os : List Obj) : ∀ w : World, Mod T w (allocL w os) := by
  induction os with
  | nil => exact fun w => Mod.refl _ _
  | cons o os ih => exact fun w => ((Mod.refl T w).alloc o).trans (ih _)
theorem allocL_at (os : List Obj) : ∀ (w : World) (i : Nat) (o : Obj), os[i]? = some o → (allocL w os).heap[w.heap.size + i]? = some o := by
  induction os with
  | nil => intro w i o h; cases h
  | cons x os ih =>
    intro w i o h
    cases i with
    | zero =>
      obtain rfl : x = o := by simpa using h
      exact (allocL_mod noB os (w.alloc x)).at (World.alloc_heap_new w x) id
    | succ i =>
      have := ih (w.alloc x) i o (by simpa using h)
      rw [World.size_alloc] at this
      rw [show w.heap.size + (i + 1) = w.heap.size + 1 + i from by omega]
      exact this
theorem allocL1 (w : World) (a : Obj) : w.alloc a = allocL w [a] := rfl
theorem allocL2 (w : World) (a b : Obj) : (w.alloc a).alloc b = allocL w [a, b] := rfl
theorem allocL3 (w : World) (a b c : Obj) : ((w.alloc a).alloc b).alloc c = allocL w [a, b, c] := rfl
theorem allocL4 (w : World) (a b c d : Obj) : (((w.alloc a).alloc b).alloc c).alloc d = allocL w [a, b, c, d] := rfl
theorem allocL5 (w : World) (a b c d e : Obj) : ((((w.alloc a).alloc b).alloc c).alloc d).alloc e = allocL w [a, b, c, d, e] := rfl
theorem allocL6 (w : World) (a b c d e f : Obj) : (((((w.alloc a).alloc b).alloc c).alloc d).alloc e).alloc f = allocL w [a, b, c, d, e, f] := rfl
theorem allocL7 (w : World) (a b c d e f g : Obj) : ((((((w.alloc a).alloc b).alloc c).alloc d).alloc e).alloc f).alloc g = allocL w [a, b, c, d, e, f, g] := rfl
theorem allocL8 (w : World) (a b c d e f g h : Obj) : (((((((w.alloc a).alloc b).alloc c).alloc d).alloc e).alloc f).alloc g).alloc h = allocL w [a, b, c, d, e, f, g, h] := rfl

/-- What holds in this world and in all later ones. -/
def Kept (w : World) (F : World → Prop) : Prop := ∀ w', Mod noB w w' → F w'
theorem Kept.later {w w' : World} {F : World → Prop} (h : Kept w F) (hm : Mod noB w w') : Kept w' F := fun w2 h2 => h w2 (hm.trans h2)
theorem Kept.and {w : World} {F G : World → Prop} (h : Kept w F) (k : Kept w G) : Kept w (fun w => F w ∧ G w) := fun w2 h2 => ⟨h w2 h2, k w2 h2⟩
theorem Kept.now {w : World} {F : World → Prop} (h : Kept w F) : F w := h w (Mod.refl _ _)
theorem kept_mod (w : World) : Kept w (fun w' => Mod noB w w') := fun _ h => h
theorem kept_block {w : World} {b : Nat} {o : Obj} (h : w.heap[b]? = some o) : Kept w (fun w' => w'.heap[b]? = some o) := fun _ hm => hm.at h id
theorem kept_ints {w : World} {ao : Option Addr} {zs : List Int} (h : IntsAt w ao zs) : Kept w (fun w' => IntsAt w' ao zs) := fun _ hm => h.mod hm
theorem kept_edges {w : World} {ao : Option Addr} {es : List Edg} (h : EdgesAt w ao es) : Kept w (fun w' => EdgesAt w' ao es) := fun _ hm => h.mod hm

/-- A block of a world that this one came from, and that all others lie behind. -/
theorem at_allocL {w W' : World} (os : List Obj) (h : Mod noB (allocL w os) W') (i : Nat) (o : Obj) (ho : os[i]? = some o) : W'.heap[w.heap.size + i]? = some o := h.at (allocL_at os w i o ho) id
theorem lt_allocL {w W' : World} (os : List Obj) (h : Mod noB (allocL w os) W') : w.heap.size + os.length ≤ W'.heap.size := by
  have := h.size; rw [allocL_size] at this; exact this
end Go.Proofs.Ytnjbamikfjdofaa

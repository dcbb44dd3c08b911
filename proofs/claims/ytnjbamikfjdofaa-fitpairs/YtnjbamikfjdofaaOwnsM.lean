/- FitOwns: how long the lists are; what came in as a list that is nil. -/
import Derived.Test.YtnjbamikfjdofaaOwnsH
set_option linter.unusedSimpArgs false
set_option linter.unusedVariables false
namespace Go.Proofs.Ytnjbamikfjdofaa
open Go.RowKit Go.Shelf

theorem pairsL_len (goes : List (List Int)) : ∀ (m : Nat) (pre : List Int) (l : List Int), l ∈ pairsL goes m pre → l.length = pre.length + m := by
  intro m
  induction m with
  | zero => intro pre l h; simp [pairsL] at h; rw [h]; rfl
  | succ m ih =>
    intro pre l h
    rw [pairsL, List.mem_flatMap] at h
    obtain ⟨x, _, hx⟩ := h
    split at hx
    · cases hx
    · have := ih _ _ hx
      rw [this, List.length_append, List.length_singleton]; omega
theorem firstTwo_len {L : List (List Int)} {n : Nat} (h : ∀ l, l ∈ L → l.length = n) : (firstTwo L).1.length ≤ n ∧ (firstTwo L).2.1.length ≤ n := by
  unfold firstTwo
  split
  · exact ⟨Nat.zero_le _, Nat.zero_le _⟩
  · exact ⟨Nat.le_of_eq (h _ (by simp)), Nat.zero_le _⟩
  · exact ⟨Nat.le_of_eq (h _ (by simp)), Nat.le_of_eq (h _ (by simp))⟩
theorem pairsE_len (p : Ply) (ts hs : List Edg) : (pairsE p ts hs).1.length ≤ ts.length ∧ (pairsE p ts hs).2.1.length ≤ ts.length := by
  unfold pairsE
  split
  · split
    · split
      · split
        · exact firstTwo_len fun l hl => by have := pairsL_len _ _ _ _ hl; simpa using this
        · exact ⟨Nat.zero_le _, Nat.zero_le _⟩
      · exact ⟨Nat.zero_le _, Nat.zero_le _⟩
    · exact ⟨Nat.zero_le _, Nat.zero_le _⟩
  · exact ⟨Nat.zero_le _, Nat.zero_le _⟩
theorem matchesE_len (p : Ply) (s : Edg) (l : List Edg) : (matchesE p s l).1.length ≤ l.length ∧ (matchesE p s l).2.1.length ≤ l.length := by
  unfold matchesE
  split
  · split
    · refine ⟨?_, ?_⟩
      · have := indicesTo_len surely (foundL p s l) (foundL p s l).length
        rw [foundL_len] at this
        show (indicesTo surely (foundL p s l) (foundL p s l).length).length ≤ _
        rw [foundL_len]; exact this
      · have := indicesTo_len maybe (foundL p s l) (foundL p s l).length
        rw [foundL_len] at this
        show (indicesTo maybe (foundL p s l) (foundL p s l).length).length ≤ _
        rw [foundL_len]; exact this
    · exact ⟨Nat.zero_le _, Nat.zero_le _⟩
  · exact ⟨Nat.zero_le _, Nat.zero_le _⟩

/-- What came in, in two blocks. -/
def OK2 (p : Ply) (s : Edg) (w w' : World) : Prop := (Mod noB w w' ∧ w'.heap[w.heap.size]? = some (.cells (plC p) 25)) ∧ w'.heap[w.heap.size + 1]? = some (.cells (edC s) 27)
theorem ok2_kept (p : Ply) (s : Edg) (w : World) : Kept ((w.alloc (.cells (plC p) 25)).alloc (.cells (edC s) 27)) (OK2 p s w) := fun w' h => by
  rw [allocL2] at h
  exact ⟨⟨(allocL_mod noB _ w).trans h, at_allocL _ h 0 _ rfl⟩, at_allocL _ h 1 _ rfl⟩
theorem ok2_next {p : Ply} {s : Edg} {w wa wb : World} (h : Kept wa (OK2 p s w)) (hm : Mod (fun b => b = wa.heap.size) (wa.alloc (.cells #[] 27)) wb) : Mod noB wa wb :=
  ((Mod.refl (fun b => b = wa.heap.size) wa).alloc _ |>.trans hm).wider fun i h1 h2 => by omega
end Go.Proofs.Ytnjbamikfjdofaa

/- Lists of sides in another order: as many of them fit; where in a list of indices an index is. A slice of sides that a call made. -/
import Derived.Test.YtnjbamikfjdofaaAlive
set_option linter.unusedSimpArgs false
set_option linter.unusedVariables false
namespace Go.Proofs.Ytnjbamikfjdofaa
open Go.RowKit Go.Shelf

theorem info27 : (Try.prog.info? 27).map (fun i => (i.zero, i.size, i.bytes)) = some (some (edV ⟨0, (0, 0), (0, 0), (0, 0)⟩), 7, 56) := by kernel_rfl

theorem edges_of_owns {w : World} {base n : Nat} {v : Value} {es : List Edg} (h : w.ownsRow base 27 7 v n (es.flatMap edL)) (hn : es.length = n) (hs : es.length ≤ 1000000) : ∃ ao cap, v = .slice ao n cap ∧ EdgesAt w ao es := by
  obtain ⟨_, ⟨rfl, rfl⟩ | ⟨g, cap, cur, rfl, hb, hg, h1, _, h2, h3⟩⟩ := h
  · have : es = [] := List.length_eq_zero_iff.1 hn
    subst this
    exact ⟨none, 0, rfl, ⟨fun h => absurd rfl h, by simp⟩⟩
  · refine ⟨some ⟨g, 0, none⟩, cap, rfl, ⟨fun _ => ⟨g, 0, rfl, (Array.getElem?_eq_some_iff.1 hg).1, fun k e hk => ?_⟩, by omega⟩⟩
    have hkn : k < n := by
      have := (List.getElem?_eq_some_iff.1 hk).1
      omega
    have H : ∀ j, j < 7 → w.cell? ⟨g, 0 + k * 7 + j, none⟩ = (edL e)[j]? := fun j hj => by
      rw [← edL_at es k e j hk hj, ← h3, List.getElem?_take_of_lt (by omega), Array.getElem?_toList, Nat.zero_add]
      exact cellsAt hg _
    exact ⟨H 0 (by omega), H 1 (by omega), H 2 (by omega), H 3 (by omega), H 4 (by omega), H 5 (by omega), H 6 (by omega)⟩

theorem edge_cells (w : World) (e : Edg) : ∀ (j : Nat) (u : Value), (edL e)[j]? = some u → (w.alloc (.cells (edC e) 27)).cell? (Addr.add ⟨w.heap.size, 0, none⟩ j) = some u := fun j u hj => by
  have hnw := World.alloc_heap_new w (.cells (edC e) 27)
  have ea : Addr.add ⟨w.heap.size, 0, none⟩ j = ⟨w.heap.size, j, none⟩ := by simp [Addr.add]; omega
  rw [ea, cellsAt hnw j, ← hj, ← Array.getElem?_toList]
  rfl

/-- The first k sides of a list, turned by t. -/
def turnedTo (l : List Edg) (t k : Nat) : List Edg := (List.range k).map fun i => (l[(i + t) % l.length]?).getD ⟨0, (0, 0), (0, 0), (0, 0)⟩
theorem turnedTo_len (l : List Edg) (t k : Nat) : (turnedTo l t k).length = k := by simp [turnedTo]
theorem turnedTo_succ {l : List Edg} {t k : Nat} {x : Edg} (h : l[(k + t) % l.length]? = some x) : (turnedTo l t (k + 1)).flatMap edL = (turnedTo l t k).flatMap edL ++ edL x := by
  simp [turnedTo, List.range_succ, h]
theorem turned_is (l : List Edg) (t : Nat) : turnedTo l t l.length = l.drop (t % l.length) ++ l.take (t % l.length) := by
  rcases Nat.eq_zero_or_pos l.length with h0 | h0
  · have : l = [] := List.length_eq_zero_iff.1 h0
    subst this
    simp [turnedTo]
  · have hr := Nat.mod_lt t h0
    have hm : ∀ i, (i + t) % l.length = (i + t % l.length) % l.length := fun i => (Nat.add_mod_mod i t l.length).symm
    apply List.ext_getElem?
    intro i
    rcases Nat.lt_or_ge i l.length with hi | hi
    · have e1 : (turnedTo l t l.length)[i]? = some ((l[(i + t) % l.length]?).getD ⟨0, (0, 0), (0, 0), (0, 0)⟩) := by
        simp [turnedTo, hi]
      rw [e1, hm i]
      generalize t % l.length = r at *
      rcases Nat.lt_or_ge (i + r) l.length with h | h
      · rw [Nat.mod_eq_of_lt h, List.getElem?_append_left (by simp; omega), List.getElem?_drop, Nat.add_comm r i, List.getElem?_eq_getElem h]
        rfl
      · rw [Nat.mod_eq_sub_mod h, Nat.mod_eq_of_lt (by omega), List.getElem?_append_right (by simp; omega), List.getElem?_take_of_lt (by simp; omega)]
        rw [show i - (l.drop r).length = i + r - l.length by simp; omega, List.getElem?_eq_getElem (by omega)]
        rfl
    · rw [List.getElem?_eq_none (by rw [turnedTo_len]; exact hi), List.getElem?_eq_none (by simp; omega)]
theorem turned_sides (l : List Edg) (t : Nat) : sidesB (turnedTo l t l.length) = sidesB l := by
  rw [turned_is]
  unfold sidesB
  rw [List.all_append, Bool.and_comm, ← List.all_append, List.take_append_drop]

theorem indicesR_len (f : Int → Bool) (L : List Int) : (indicesR f L).length = L.countP f := by
  unfold indicesR indicesTo
  rw [List.length_map, ← List.countP_eq_length_filter]
  have e : L = (List.range L.length).map fun i => L[i]?.getD 0 := by
    apply List.ext_getElem?
    intro i
    by_cases h : i < L.length
    · simp [h]
    · simp [h]
  conv => rhs; rw [e]
  rw [List.countP_map]
  rfl
theorem turned_found (f : Int → Bool) (p : Ply) (s : Edg) (l : List Edg) (t : Nat) : (indicesR f (foundL p s (turnedTo l t l.length))).length = (indicesR f (foundL p s l)).length := by
  rw [indicesR_len, indicesR_len, turned_is]
  unfold foundL
  rw [List.countP_map, List.countP_map, List.countP_append, Nat.add_comm, ← List.countP_append, List.take_append_drop]

theorem indices_more {f : Int → Bool} {L : List Int} {k : Nat} (hf : f (L[k]?.getD 0) = true) : ∀ n, k < n → ∃ rest, indicesTo f L n = indicesTo f L k ++ ((k : Int) :: rest) := by
  intro n hn
  induction n with
  | zero => omega
  | succ n ih =>
    rcases Nat.lt_or_ge k n with h | h
    · obtain ⟨rest, hr⟩ := ih h
      cases h2 : f (L[n]?.getD 0) with
      | true => exact ⟨rest ++ [(n : Int)], by rw [indicesTo_yes h2, hr]; simp⟩
      | false => exact ⟨rest, by rw [indicesTo_no h2, hr]⟩
    · obtain rfl : k = n := by omega
      exact ⟨[], indicesTo_yes hf⟩
theorem index_next {f : Int → Bool} {L : List Int} {k : Nat} (hk : k < L.length) (hf : f (L[k]?.getD 0) = true) :
    (indicesTo f L k).length < (indicesR f L).length ∧ (indicesR f L)[(indicesTo f L k).length]?.getD 0 = (k : Int) := by
  obtain ⟨rest, hr⟩ := indices_more hf L.length hk
  unfold indicesR
  rw [hr]
  refine ⟨by simp, ?_⟩
  rw [List.getElem?_append_right (Nat.le_refl _), Nat.sub_self]
  rfl
end Go.Proofs.Ytnjbamikfjdofaa

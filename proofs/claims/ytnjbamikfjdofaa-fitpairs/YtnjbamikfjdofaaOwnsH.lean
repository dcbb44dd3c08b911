/- FitOwns: appends to new slices, and what holds in the loop that copies and overwrites. -/
import Derived.Test.YtnjbamikfjdofaaListsM
import Derived.Laws.AppendOwnNone
set_option linter.unusedSimpArgs false
set_option linter.unusedVariables false
namespace Go.Proofs.Ytnjbamikfjdofaa
open Go.RowKit Go.Shelf

theorem add_off (b off i : Nat) : (⟨b, off, none⟩ : Addr).add i = ⟨b, off + i, none⟩ := by
  unfold Addr.add
  split <;> simp_all

theorem flat_some {es : List Edg} {j : Nat} {u : Value} (h : (es.flatMap edL)[j]? = some u) : ∃ e, es[j / 7]? = some e ∧ (edL e)[j % 7]? = some u := by
  have hlen : ∀ es : List Edg, (es.flatMap edL).length = es.length * 7 := fun es => by
    induction es with
    | nil => rfl
    | cons x xs ih => rw [List.flatMap_cons, List.length_append, ih]; simp [edL]; omega
  have hj := (List.getElem?_eq_some_iff.1 h).1
  rw [hlen] at hj
  have hk : j / 7 < es.length := by omega
  refine ⟨es[j / 7], List.getElem?_eq_getElem hk, ?_⟩
  rw [← edL_at es (j / 7) es[j / 7] (j % 7) (List.getElem?_eq_getElem hk) (Nat.mod_lt _ (by omega)), show j / 7 * 7 + j % 7 = j by omega]
  exact h

theorem edges_cells {w : World} {ad : Addr} {es : List Edg} (h : EdgesAt w (some ad) es) : ∀ j u, (es.flatMap edL)[j]? = some u → w.cell? (ad.add j) = some u := by
  intro j u hu
  obtain ⟨e, he, h7⟩ := flat_some hu
  obtain ⟨b, off, e1, _, hc⟩ := h.lies (fun e => by rw [e] at he; cases he)
  cases e1
  obtain ⟨c0, c1, c2, c3, c4, c5, c6⟩ := hc _ _ he
  rw [add_off]
  have hm := Nat.mod_lt j (show 0 < 7 by omega)
  have hd : off + j = off + j / 7 * 7 + j % 7 := by omega
  rw [hd]
  generalize j % 7 = m at *
  rcases (by omega : m = 0 ∨ m = 1 ∨ m = 2 ∨ m = 3 ∨ m = 4 ∨ m = 5 ∨ m = 6) with rfl | rfl | rfl | rfl | rfl | rfl | rfl
  · rw [← h7]; exact c0
  · rw [← h7]; exact c1
  · rw [← h7]; exact c2
  · rw [← h7]; exact c3
  · rw [← h7]; exact c4
  · rw [← h7]; exact c5
  · rw [← h7]; exact c6

theorem flat_cells (es : List Edg) : (∀ u ∈ es.flatMap edL, u.oneCell' = true) ∧ (es.flatMap edL).length = es.length * 7 := by
  constructor
  · intro u hu
    obtain ⟨e, _, he⟩ := List.mem_flatMap.1 hu
    simp only [edL, List.mem_cons, List.not_mem_nil, or_false] at he
    rcases he with rfl | rfl | rfl | rfl | rfl | rfl | rfl <;> rfl
  · induction es with
    | nil => rfl
    | cons x xs ih => rw [List.flatMap_cons, List.length_append, ih]; simp [edL]; omega

/-- 'append' of all sides of a slice to a new slice that holds none. -/
theorem append_edges {w : World} {ops : Array Oper} {rest : List Oper} {o : Oper} {a : Act} {Q : Exit → Act → World → Prop} (hgd : o.guard = none) (s x : Operand)
    (ho : o.op = .call { callee := .builtin .append, args := #[s, x], argTypes := #[42, 42] }) (g : Nat) (hs : a.eval s = .slice (some ⟨g, 0, none⟩) 0 0) (hg : w.heap[g]? = some (.cells #[] 27))
    (ao : Option Addr) (es : List Edg) (n cap : Nat) (hn : n = es.length) (hx : a.eval x = .slice ao n cap) (h0 : ao = none → cap = 0) (he : EdgesAt w ao es) (hsm : es.length ≤ 1000)
    (h : ∀ ao' cap' w', EdgesAt w' ao' es → Mod (fun b => b = g) w w' → wpList Try.prog ops Q rest (a.put o.dst (.slice ao' es.length cap')) w') : wpList Try.prog ops Q (o :: rest) a w := by
  subst hn
  obtain ⟨i0, hi, hz0, hz1, hz2⟩ := info_parts info27
  have hgl := (Array.getElem?_eq_some_iff.1 hg).1
  have hown : w.ownsRow g 27 7 (.slice (some ⟨g, 0, none⟩) 0 0) 0 [] := ⟨by rfl, .inr ⟨g, 0, #[], rfl, Nat.le_refl _, hg, Nat.le_refl _, Nat.zero_le _, rfl, rfl⟩⟩
  cases ao with
  | none =>
    have hes : es = [] := by
      by_cases hne : es = []
      · exact hne
      · obtain ⟨b, off, e, _⟩ := he.lies hne
        cases e
    subst hes
    have hc := h0 rfl
    subst hc
    exact wpList_append_own_none hgd s x 42 ho g 27 i0 7 Try.underlying42 hi _ 0 [] hs hown hx (h _ _ _ ⟨fun h => absurd rfl h, by simp⟩ (Mod.refl _ _))
  | some ad =>
    obtain ⟨f1, f2⟩ := flat_cells es
    refine wpList_append_own w hgd s x 42 ho g 27 i0 (edV ⟨0, (0, 0), (0, 0), (0, 0)⟩) 7 56 Try.underlying42 hi hz0 hz1 hz2 rfl (by decide) _ 0 [] hs hown ad es.length cap (es.flatMap edL) hx f2 (edges_cells he) f1 (by unfold maxLen; omega) (by omega) (by omega) ?_
    intro v' w' hown' hgr _
    rw [List.nil_append, Nat.zero_add] at hown'
    obtain ⟨ao', cap', rfl, h2⟩ := edges_of_owns hown' rfl (by omega)
    exact h _ _ _ h2 (Mod.of_grownBy hgr (fun r hr _ => by have h : some g = some r := hr; simpa using h.symm))

/-- 'append' of all numbers of a slice that a call made to a new slice that holds none. -/
theorem append_ints {w : World} {ops : Array Oper} {rest : List Oper} {o : Oper} {a : Act} {Q : Exit → Act → World → Prop} (hgd : o.guard = none) (s x : Operand)
    (ho : o.op = .call { callee := .builtin .append, args := #[s, x], argTypes := #[43, 43] }) (g : Nat) (hs : a.eval s = .slice (some ⟨g, 0, none⟩) 0 0) (hg : w.heap[g]? = some (.cells #[] 3))
    (L : List Int) (v : Value) (base : Nat) (hv : w.ownsRow base 3 1 v L.length (L.map (Value.int .i64))) (hx : a.eval x = v) (hsm : L.length ≤ 1000)
    (h : ∀ g' cap' cur w', g ≤ g' → w'.heap[g']? = some (.cells cur 3) → cur.toList.take L.length = L.map (Value.int .i64) → Mod (fun b => b = g) w w' → wpList Try.prog ops Q rest (a.put o.dst (.slice (some ⟨g', 0, none⟩) L.length cap')) w') : wpList Try.prog ops Q (o :: rest) a w := by
  obtain ⟨i0, hi, hz0, hz1, hz2⟩ := info_parts info3
  have hgl := (Array.getElem?_eq_some_iff.1 hg).1
  have hown : w.ownsRow g 3 1 (.slice (some ⟨g, 0, none⟩) 0 0) 0 [] := ⟨by rfl, .inr ⟨g, 0, #[], rfl, Nat.le_refl _, hg, Nat.le_refl _, Nat.zero_le _, rfl, rfl⟩⟩
  obtain ⟨hl, ⟨rfl, h0⟩ | ⟨b, cap, cur, rfl, hb, hg2, h1, _, h2, h3⟩⟩ := hv
  · have hL : L = [] := List.length_eq_zero_iff.1 h0
    subst hL
    exact wpList_append_own_none hgd s x 43 ho g 3 i0 1 Try.underlying43 hi _ 0 [] hs hown hx (h g 0 #[] w (Nat.le_refl _) hg rfl (Mod.refl _ _))
  · have hc : ∀ j u, (L.map (Value.int .i64))[j]? = some u → w.cell? (Addr.add ⟨b, 0, none⟩ j) = some u := fun j u hj => by
      have hlt : j < L.length := by have := (List.getElem?_eq_some_iff.1 hj).1; simpa using this
      rw [add_off, Nat.zero_add, cellsAt hg2]
      rw [← h3, List.getElem?_take_of_lt (by omega)] at hj
      simpa using hj
    refine wpList_append_own w hgd s x 43 ho g 3 i0 (.int .i64 0) 1 8 Try.underlying43 hi hz0 hz1 hz2 rfl (by decide) _ 0 [] hs hown ⟨b, 0, none⟩ L.length cap (L.map (Value.int .i64)) hx (by simp) hc (ints_one L) (by unfold maxLen; omega) (by omega) (by omega) ?_
    intro v' w' hown' hgr hnil
    rw [List.nil_append, Nat.zero_add] at hown'
    obtain ⟨_, ⟨rfl, hn0⟩ | ⟨g', cap', cur', rfl, hb', hg', _, _, _, h3'⟩⟩ := hown'
    · have := hnil.1 rfl
      exact absurd this.1 (by simp)
    · exact h g' cap' cur' w' hb' hg' (by simpa using h3') (Mod.of_grownBy hgr (fun r hr _ => by have h : some g = some r := hr; simpa using h.symm))

/-- In the loop: the first i lists are copied, the others lie as they were returned. -/
structure OInv (w3 W5 : World) (V : Nat → Value) (L : Nat → List Int) (i : Nat) (cs : Array Value) (wr : World) : Prop where
  m : Mod noB w3 wr
  n : W5.heap.size + 2 ≤ wr.heap.size
  s : wr.heap[W5.heap.size + 1]? = some (.cells #[V 0, V 1, V 2, V 3] 43)
  c : wr.heap[W5.heap.size]? = some (.cells cs 81)
  z : cs.size = 4
  d : ∀ j, j < i → ∃ g cap cur, cs[j]? = some (.slice (some ⟨g, 0, none⟩) (L j).length cap) ∧ W5.heap.size + 2 ≤ g ∧ wr.heap[g]? = some (.cells cur 3) ∧ cur.toList.take (L j).length = (L j).map (Value.int .i64)
  t : ∀ j, i ≤ j → j < 4 → wr.ownsRow w3.heap.size 3 1 (V j) (L j).length ((L j).map (Value.int .i64))
/-- Where the lists lie: before, and apart. -/
structure OApart (w3 W5 : World) (V : Nat → Value) : Prop where
  w : w3.heap.size ≤ W5.heap.size
  b : ∀ j, j < 4 → ∀ r, (V j).ownBlock = some r → w3.heap.size ≤ r ∧ r < W5.heap.size
  d : ∀ j k, j < 4 → k < 4 → j ≠ k → ∀ r, (V j).ownBlock = some r → (V k).ownBlock ≠ some r

theorem own_same {w w' : World} {base n : Nat} {v : Value} {xs : List Value} (h : w.ownsRow base 3 1 v n xs) (hs : ∀ r, v.ownBlock = some r → w'.heap[r]? = w.heap[r]?) : w'.ownsRow base 3 1 v n xs := by
  obtain ⟨h1, h2 | ⟨g, cap, cur, hv, hb, hh, hr⟩⟩ := h
  · exact ⟨h1, .inl h2⟩
  · exact ⟨h1, .inr ⟨g, cap, cur, hv, hb, (hs g (by rw [hv]; rfl)).trans hh, hr⟩⟩

theorem OInv.next {w3 W5 : World} {V : Nat → Value} {L : Nat → List Int} {i : Nat} {cs : Array Value} {wr wz : World} (h : OInv w3 W5 V L i cs wr) (A : OApart w3 W5 V) (hi : i < 4) {g' cap' : Nat} {cur : Array Value}
    (hm : Mod (fun b => b = W5.heap.size ∨ (V i).ownBlock = some b) wr wz) (hc : wz.heap[W5.heap.size]? = some (.cells (cs.setIfInBounds i (.slice (some ⟨g', 0, none⟩) (L i).length cap')) 81))
    (hg : W5.heap.size + 2 ≤ g') (hb : wz.heap[g']? = some (.cells cur 3)) (ht : cur.toList.take (L i).length = (L i).map (Value.int .i64)) :
    OInv w3 W5 V L (i + 1) (cs.setIfInBounds i (.slice (some ⟨g', 0, none⟩) (L i).length cap')) wz := by
  have hz := h.z
  have hw := A.w
  refine ⟨h.m.then hm ?_, Nat.le_trans h.n hm.size, hm.at h.s ?_, hc, by simpa using hz, ?_, ?_⟩
  · rintro b hb (rfl | hr)
    · exact absurd hb (by omega)
    · exact absurd hb (by have := (A.b i hi b hr).1; omega)
  · rintro (h1 | h1)
    · omega
    · have := (A.b i hi _ h1).2; omega
  · intro j hj
    by_cases hji : j = i
    · subst hji
      exact ⟨g', cap', cur, by rw [Array.getElem?_setIfInBounds_self_of_lt (by omega)], hg, hb, ht⟩
    · obtain ⟨g, cap, c2, e1, e2, e3, e4⟩ := h.d j (by omega)
      refine ⟨g, cap, c2, by rw [Array.getElem?_setIfInBounds_ne (by omega)]; exact e1, e2, hm.at e3 ?_, e4⟩
      rintro (h1 | h1)
      · omega
      · have := (A.b i hi _ h1).2; omega
  · intro j hj hj4
    refine own_same (h.t j (by omega) hj4) fun r hr => ?_
    have hrb := A.b j hj4 r hr
    refine hm.block r (by have := h.n; omega) ?_
    rintro (h1 | h1)
    · omega
    · exact A.d j i hj4 hi (by omega) r hr h1

theorem four_at (V : Nat → Value) {i : Nat} (h : i < 4) : #[V 0, V 1, V 2, V 3][i]? = some (V i) := by
  rcases (by omega : i = 0 ∨ i = 1 ∨ i = 2 ∨ i = 3) with rfl | rfl | rfl | rfl <;> rfl
theorem ints_copied {w : World} {g : Nat} {cur : Array Value} {L : List Int} (h : w.heap[g]? = some (.cells cur 3)) (ht : cur.toList.take L.length = L.map (Value.int .i64)) (hs : L.length ≤ 1000000) : IntsAt w (some ⟨g, 0, none⟩) L :=
  ⟨fun _ => ⟨g, 0, rfl, (Array.getElem?_eq_some_iff.1 h).1, fun j hj => by
    have h4 : cur[j]? = some (.int .i64 (L[j]?.getD 0)) := by
      have e1 : (cur.toList.take L.length)[j]? = cur.toList[j]? := List.getElem?_take_of_lt hj
      rw [ht, List.getElem?_map, List.getElem?_eq_getElem hj] at e1
      rw [← Array.getElem?_toList, ← e1, List.getElem?_eq_getElem hj]
      rfl
    rw [Nat.zero_add, cellsAt h j]
    exact h4⟩, hs⟩
end Go.Proofs.Ytnjbamikfjdofaa

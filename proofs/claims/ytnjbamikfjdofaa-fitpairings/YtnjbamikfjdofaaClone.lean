/- slices.Clone. -/
import Derived.Test.YtnjbamikfjdofaaLoopV
set_option linter.unusedSimpArgs false
set_option linter.unusedVariables false
namespace Go.Proofs.Ytnjbamikfjdofaa
open Go.RowKit Go.Shelf

set_option maxRecDepth 100000 in
set_option maxHeartbeats 1000000 in
theorem clone_any (x : Held) (B : Nat) (w : World) (h : OwnV B w x) (hL : x.1.length ≤ 1000) :
    Calls Try.prog 88 #[x.2] w fun e w' => ∃ v, e = .returned v ∧ OwnV w.heap.size w' (x.1, v) ∧ Mod noB w w' := by
  obtain ⟨L, v⟩ := x
  obtain ⟨hl, ⟨hv, hx⟩ | ⟨g, cap, cur, hv, hb, hg, hnc, _, hcs, hys⟩⟩ := h
  · simp only at hv hx
    subst hv
    have hL0 : L = [] := by simpa using hx
    subst hL0
    have hnil : ∀ W : World, (binOp .eql 43 (.slice none 0 0) (.slice none 0 0)).run Try.prog W = .ok (.bool true) W := fun W => by kernel_rfl
    go_enter Try.func88, Try.ntmps88
    go_wp2
    go_ret
    exact ⟨_, rfl, World.ownsRow_nil _ _ _ _, Mod.refl _ _⟩
  · simp only at hv hys hL hnc
    subst hv
    have hbl := (Array.getElem?_eq_some_iff.1 hg).1
    have HC := Hold.mk (fun j u (hj : (L.map (Value.int .i64))[j]? = some u) => (show (w.alloc (.cells #[] 3)).cell? (Addr.add ⟨g, 0, none⟩ j) = some u from by
      have ea : Addr.add ⟨g, 0, none⟩ j = ⟨g, j, none⟩ := by simp [Addr.add]; omega
      rw [ea, cell_same (Below.heap_alloc w _ g hbl), cellsAt hg]
      have hlt : j < L.length := by have := (List.getElem?_eq_some_iff.1 hj).1; simpa using this
      rw [← hys, List.getElem?_take_of_lt (by omega)] at hj
      simpa using hj))
    obtain ⟨i0, hi, hz0, hz1, hz2⟩ := info_parts info3
    have HO : Hold ((w.alloc (.cells #[] 3)).ownsRow w.heap.size 3 1 (.slice (some ⟨w.heap.size, 0, none⟩) 0 0) 0 []) := ⟨by rfl, .inr ⟨w.heap.size, 0, #[], rfl, Nat.le_refl _, World.alloc_heap_new w _, Nat.le_refl _, Nat.zero_le _, rfl, rfl⟩⟩
    have hnil : ∀ W : World, (binOp .eql 43 (.slice (some ⟨g, 0, none⟩) L.length cap) (.slice none 0 0)).run Try.prog W = .ok (.bool false) W := fun W => by kernel_rfl
    clear hl hg hys hcs
    go_enter Try.func88, Try.ntmps88
    go_wp2_with (at_builtin; refine wpList_append_own _ rfl (.tmp 5) (.tmp 6) 43 rfl w.heap.size 3 i0 (.int .i64 0) 1 8 Try.underlying43 hi hz0 hz1 hz2 rfl (by decide) _ 0 [] rfl HO.out ⟨g, 0, none⟩ L.length cap (L.map (Value.int .i64)) rfl (by simp) HC.out (ints_one L) (by unfold maxLen; omega) (by omega) (by simp) ?_; intro v' w1 hown hgr _; have HW := Hold.mk (And.intro hown hgr); clear hown hgr)
    go_ret
    obtain ⟨hown, hgr⟩ := HW.out
    simp only [Nat.zero_add, List.nil_append] at hown
    exact ⟨_, rfl, hown, ((Mod.refl noB w).alloc _).then (Mod.of_grownBy (T := fun k => k = w.heap.size) hgr (fun r hr _ => by have h : some w.heap.size = some r := hr; simpa using h.symm)) (fun i h1 h2 => by omega)⟩
end Go.Proofs.Ytnjbamikfjdofaa

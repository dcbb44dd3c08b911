/- Slices that a call made: what they hold; slices.Clone. -/
import Derived.Test.YtogalmkeipigeaaRefB
set_option linter.unusedSimpArgs false
set_option linter.unusedVariables false
namespace Go.Proofs.Ytogalmkeipigeaa
open Go.RowKit

theorem info3 : (Try.prog.info? 3).map (fun i => (i.zero, i.size, i.bytes)) = some (some (.int .i64 0), 1, 8) := by kernel_rfl

/-- The numbers of a slice of ints that a call made. -/
theorem ints_of_owns {w : World} {base n : Nat} {v : Value} {L : List Int} (h : w.ownsRow base 3 1 v n (L.map (Value.int .i64))) (hn : L.length = n) (hs : L.length ≤ 1000000) : ∃ ao cap, v = .slice ao n cap ∧ IntsAt w ao L ∧ (∀ b off, L ≠ [] → ao = some ⟨b, off, none⟩ → base ≤ b) := by
  obtain ⟨_, ⟨rfl, rfl⟩ | ⟨g, cap, cur, rfl, hb, hg, h1, _, h2, h3⟩⟩ := h
  · have : L = [] := List.length_eq_zero_iff.1 hn
    subst this
    exact ⟨none, 0, rfl, ⟨fun h => absurd rfl h, hs⟩, fun _ _ h => absurd rfl h⟩
  · refine ⟨some ⟨g, 0, none⟩, cap, rfl, ⟨fun _ => ⟨g, 0, rfl, (Array.getElem?_eq_some_iff.1 hg).1, fun j hj => ?_⟩, hs⟩, fun b off _ e => by cases e; exact hb⟩
    have hz : (0, 0).1 + j - (0, 0).1 = j := by omega
    have h4 : cur[j]? = some (.int .i64 (L[j]?.getD 0)) := by
      have e1 : (cur.toList.take (n * 1))[j]? = cur.toList[j]? := List.getElem?_take_of_lt (by omega)
      rw [h3, List.getElem?_map, List.getElem?_eq_getElem hj] at e1
      rw [← Array.getElem?_toList, ← e1, List.getElem?_eq_getElem hj]
      rfl
    simp only [World.cell?, hg, Nat.zero_add]
    simpa using h4

theorem ints_one (L : List Int) : ∀ u ∈ L.map (Value.int .i64), u.oneCell' = true := by
  intro u hu
  obtain ⟨x, _, rfl⟩ := List.mem_map.1 hu
  rfl

set_option maxRecDepth 100000 in
set_option maxHeartbeats 1000000 in
theorem clone_any (ao : Option Addr) (zs : List Int) (cap : Nat) (w : World) (hs : IntsAt w ao zs) (hne : zs ≠ []) :
    Calls Try.prog 80 #[.slice ao zs.length cap] w fun e w' => ∃ v, e = .returned v ∧ w'.ownsRow w.heap.size 3 1 v zs.length (zs.map (Value.int .i64)) ∧ Mod noB w w' := by
  have hsm := hs.small
  obtain ⟨b, off, rfl, hb, hc⟩ := hs.lies hne
  have HC := Hold.mk (fun j u (hj : (zs.map (Value.int .i64))[j]? = some u) => (show (w.alloc (.cells #[] 3)).cell? (Addr.add ⟨b, off, none⟩ j) = some u from by
    have ea : Addr.add ⟨b, off, none⟩ j = ⟨b, off + j, none⟩ := by simp [Addr.add]
    rw [ea]
    have hlt : j < zs.length := by have := (List.getElem?_eq_some_iff.1 hj).1; simpa using this
    rw [cell_same (Below.heap_alloc w _ b hb), hc j hlt]
    rw [List.getElem?_map, List.getElem?_eq_getElem hlt] at hj
    rw [List.getElem?_eq_getElem hlt]
    simpa using hj))
  clear hs hc
  obtain ⟨i0, hi, hz0, hz1, hz2⟩ := info_parts info3
  have HO : Hold ((w.alloc (.cells #[] 3)).ownsRow w.heap.size 3 1 (.slice (some ⟨w.heap.size, 0, none⟩) 0 0) 0 []) := ⟨by rfl, .inr ⟨w.heap.size, 0, #[], rfl, Nat.le_refl _, World.alloc_heap_new w _, Nat.le_refl _, Nat.zero_le _, rfl, rfl⟩⟩
  have hnil : ∀ W : World, (binOp .eql 22 (.slice (some ⟨b, off, none⟩) zs.length cap) (.slice none 0 0)).run Try.prog W = .ok (.bool false) W := fun W => by kernel_rfl
  go_enter Try.func80, Try.ntmps80
  go_wp2_with (at_builtin; refine wpList_append_own _ rfl (.tmp 5) (.tmp 6) 22 rfl w.heap.size 3 i0 (.int .i64 0) 1 8 Try.underlying22 hi hz0 hz1 hz2 rfl (by decide) _ 0 [] rfl HO.out ⟨b, off, none⟩ zs.length cap (zs.map (Value.int .i64)) rfl (by simp) HC.out (ints_one zs) (by unfold maxLen; omega) (by omega) (by simp) ?_; intro v' w1 hown hgr _; have HW := Hold.mk (And.intro hown hgr); clear hown hgr)
  go_ret
  obtain ⟨hown, hgr⟩ := HW.out
  simp only [Nat.zero_add, List.nil_append] at hown
  exact ⟨_, rfl, hown, ((Mod.refl noB w).alloc _).then (Mod.of_grownBy (T := fun k => k = w.heap.size) hgr (fun r hr _ => by have h : some w.heap.size = some r := hr; simpa using h.symm)) (fun i h1 h2 => by omega)⟩
end Go.Proofs.Ytogalmkeipigeaa

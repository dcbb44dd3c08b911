/- joined: the numbers of the cells when one piece is a part of another one. -/
import Derived.Test.YtogalmkeipigeaaClone
set_option linter.unusedSimpArgs false
set_option linter.unusedVariables false
namespace Go.Proofs.Ytogalmkeipigeaa
open Go.RowKit

/-- The new number of a piece. -/
def jf (lesser greater z : Int) : Int := if z = greater then lesser else if greater < z then z - 1 else z

/-- A row of ints whose first n are told by a function. -/
def RowIs (w : World) (g n : Nat) (f : Nat → Int) : Prop := ∃ cur : Array Value, w.heap[g]? = some (.cells cur 3) ∧ ∀ j, j < n → cur[j]? = some (.int .i64 (f j))
theorem RowIs.cell {w : World} {g n : Nat} {f : Nat → Int} (h : RowIs w g n f) {j : Nat} (hj : j < n) : w.cell? ⟨g, j, none⟩ = some (.int .i64 (f j)) := by
  obtain ⟨cur, h1, h2⟩ := h
  simp only [World.cell?, h1]
  simpa using h2 j hj
theorem RowIs.frozen {w : World} {g n : Nat} {f : Nat → Int} (h : RowIs w g n f) (j : Nat) : w.frozen? ⟨g, j, none⟩ = false := by
  obtain ⟨cur, h1, h2⟩ := h
  exact cells_frozen h1 j
theorem RowIs.store {w : World} {g n : Nat} {f : Nat → Int} (h : RowIs w g n f) {k : Nat} (hk : k < n) (v : Int) : RowIs (w.setCell ⟨g, k, none⟩ (.int .i64 v)) g n (fun j => if j = k then v else f j) := by
  obtain ⟨cur, h1, h2⟩ := h
  refine ⟨_, setCell_at h1 k _, fun j hj => ?_⟩
  rw [Array.getElem?_setIfInBounds]
  have hlt : k < cur.size := (Array.getElem?_eq_some_iff.1 (h2 k hk)).1
  by_cases e : j = k
  · subst e; simp [hlt]
  · rw [if_neg (fun h => e h.symm), h2 j hj]; simp [e]
theorem RowIs.same {w w' : World} {g n : Nat} {f : Nat → Int} (h : RowIs w g n f) (e : w'.heap[g]? = w.heap[g]?) : RowIs w' g n f := by
  obtain ⟨cur, h1, h2⟩ := h
  exact ⟨cur, e.trans h1, h2⟩
theorem RowIs.lt {w : World} {g n : Nat} {f : Nat → Int} (h : RowIs w g n f) : g < w.heap.size := by
  obtain ⟨cur, h1, h2⟩ := h
  exact (Array.getElem?_eq_some_iff.1 h1).1
theorem RowIs.ints {w : World} {g n : Nat} {f : Nat → Int} (h : RowIs w g n f) {L : List Int} (hn : L.length = n) (hL : ∀ j, j < n → L[j]?.getD 0 = f j) (hs : n ≤ 1000000) : IntsAt w (some ⟨g, 0, none⟩) L :=
  ⟨fun _ => ⟨g, 0, rfl, h.lt, fun j hj => by rw [Nat.zero_add, h.cell (by omega), hL j (by omega)]⟩, by omega⟩

theorem row_of_owns {w : World} {base : Nat} {v : Value} {L : List Int} (h : w.ownsRow base 3 1 v L.length (L.map (Value.int .i64))) (hne : L ≠ []) : ∃ g cap, v = .slice (some ⟨g, 0, none⟩) L.length cap ∧ base ≤ g ∧ RowIs w g L.length (fun j => L[j]?.getD 0) := by
  obtain ⟨_, ⟨_, h0⟩ | ⟨g, cap, cur, rfl, hb, hg, h1, _, h2, h3⟩⟩ := h
  · exact absurd (List.length_eq_zero_iff.1 h0) hne
  · refine ⟨g, cap, rfl, hb, cur, hg, fun j hj => ?_⟩
    have e1 : (cur.toList.take (L.length * 1))[j]? = cur.toList[j]? := List.getElem?_take_of_lt (by omega)
    rw [h3, List.getElem?_map, List.getElem?_eq_getElem hj] at e1
    rw [← Array.getElem?_toList, ← e1]
    simp [hj]

set_option maxRecDepth 100000 in
set_option maxHeartbeats 2000000 in
theorem joined_any (ao : Option Addr) (zs : List Int) (cap : Nat) (lo hi : Int) (w : World) (hs : IntsAt w ao zs) (hne : zs ≠ []) (h0 : ∀ z ∈ zs, 0 ≤ z ∧ z < 40) :
    Calls Try.prog 58 #[.slice ao zs.length cap, .int .i64 lo, .int .i64 hi] w fun e w' => ∃ g cap', e = .returned (.slice (some ⟨g, 0, none⟩) zs.length cap') ∧ w.heap.size ≤ g ∧ IntsAt w' (some ⟨g, 0, none⟩) (zs.map (jf lo hi)) ∧ Mod noB w w' := by
  have hsm := hs.small
  have HC := Hold.mk (clone_any ao zs cap w hs hne)
  have H0 := Hold.mk h0
  have HN := Hold.mk hne
  clear hs h0 hne
  go_enter Try.func58, Try.ntmps58
  go_wp2_with (go_at_call 80; refine HC.out.mono ?_; rintro e w1 ⟨v, rfl, hown, hM1⟩; obtain ⟨g, cap', rfl, hg, hrow⟩ := row_of_owns hown HN.out; have HR := Hold.mk (And.intro hrow hM1); clear hown hrow hM1)
  go_loopw [14] (fun i wr => ∃ k : Nat, k ≤ zs.length ∧ i = .int .i64 k ∧ RowIs wr g zs.length (fun j => if j < k then jf lo hi (zs[j]?.getD 0) else zs[j]?.getD 0) ∧ Mod (fun b => b = g) w1 wr) (fun i _ => zs.length - (intOf i).toNat)
  case atStart => exact ⟨0, Nat.zero_le _, rfl, by simpa using HR.out.1, Mod.refl _ _⟩
  case round =>
    obtain ⟨k, hk, rfl, hrow, hmr⟩ := hrel
    by_cases hlt : k < zs.length
    · obtain ⟨z, hz⟩ : ∃ z, z = zs[k]?.getD 0 := ⟨_, rfl⟩
      have hcell := hrow.cell hlt
      rw [if_neg (Nat.lt_irrefl k), ← hz] at hcell
      have hfz := hrow.frozen k
      have hz1 : 0 ≤ z ∧ z < 40 := by rw [hz, List.getElem?_eq_getElem hlt]; exact H0.out _ (List.getElem_mem hlt)
      obtain ⟨hz1, hz2⟩ := hz1
      have HR2 := Hold.mk (And.intro hrow (And.intro hmr hz))
      have NX : Hold (∀ wr', RowIs wr' g zs.length (fun j => if j = k then jf lo hi z else (if j < k then jf lo hi (zs[j]?.getD 0) else zs[j]?.getD 0)) → RowIs wr' g zs.length (fun j => if j < k + 1 then jf lo hi (zs[j]?.getD 0) else zs[j]?.getD 0)) := ⟨fun wr' h => by
        have e : (fun j => if j = k then jf lo hi z else (if j < k then jf lo hi (zs[j]?.getD 0) else zs[j]?.getD 0)) = (fun j => if j < k + 1 then jf lo hi (zs[j]?.getD 0) else zs[j]?.getD 0) := by
          funext j
          by_cases e1 : j = k
          · subst e1; simp [HR2.out.2.2]
          · by_cases e2 : j < k
            · simp [e1, e2, show j < k + 1 by omega]
            · simp [e1, e2, show ¬ j < k + 1 by omega]
        rw [← e]; exact h⟩
      clear hrow hmr hz
      by_cases c1 : z = hi
      · have hb1 : (z == hi) = true := by simpa using c1
        have HJ : Hold (jf lo hi z = lo) := ⟨by unfold jf; rw [if_pos c1]⟩
        clear c1
        go_wp2
        go_roundw
        case rel =>
          obtain ⟨hrow, hmr, hz⟩ := HR2.out
          refine ⟨k + 1, by omega, by go_num, NX.out _ ?_, hmr.setCell (fun _ => rfl) _⟩
          rw [HJ.out]
          exact hrow.store hlt lo
        case measure => simp [intOf]; omega
      · have hb1 : (z == hi) = false := by simpa using c1
        by_cases c2 : hi < z
        · have HJ : Hold (jf lo hi z = z - 1) := ⟨by unfold jf; rw [if_neg c1, if_pos c2]⟩
          clear c1
          go_wp2
          go_roundw
          case rel =>
            obtain ⟨hrow, hmr, hz⟩ := HR2.out
            refine ⟨k + 1, by omega, by go_num, NX.out _ ?_, hmr.setCell (fun _ => rfl) _⟩
            rw [HJ.out]
            exact hrow.store hlt (z - 1)
          case measure => simp [intOf]; omega
        · have HJ : Hold (jf lo hi z = z) := ⟨by unfold jf; rw [if_neg c1, if_neg c2]⟩
          clear c1
          go_wp2
          go_roundw
          case rel =>
            obtain ⟨hrow, hmr, hz⟩ := HR2.out
            refine ⟨k + 1, by omega, by go_num, NX.out _ ?_, hmr⟩
            rw [HJ.out]
            have e : (fun j => if j = k then z else (if j < k then jf lo hi (zs[j]?.getD 0) else zs[j]?.getD 0)) = (fun j => if j < k then jf lo hi (zs[j]?.getD 0) else zs[j]?.getD 0) := by
              funext j
              by_cases e1 : j = k
              · subst e1; simp [hz]
              · simp [e1]
            rw [e]; exact hrow
          case measure => simp [intOf]; omega
    · obtain rfl : k = zs.length := by omega
      have HR2 := Hold.mk (And.intro hrow hmr)
      clear hrow hmr
      go_wp2
      go_ret
      obtain ⟨hrow, hmr⟩ := HR2.out
      refine ⟨g, cap', rfl, hg, hrow.ints (by simp) (fun j hj => ?_) hsm, HR.out.2.then hmr (fun i h1 h2 => by omega)⟩
      rw [List.getElem?_map, List.getElem?_eq_getElem hj]
      simp [hj]
end Go.Proofs.Ytogalmkeipigeaa

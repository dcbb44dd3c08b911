/- Slices of integers: what they hold; Index, Contains, Clone; indices. -/
import Derived.Test.YtnjbamikfjdofaaArr
import Derived.Test.YtnjbamikfjdofaaAreSides
set_option linter.unusedSimpArgs false
set_option linter.unusedVariables false
namespace Go.Proofs.Ytnjbamikfjdofaa
open Go.RowKit

/-- A slice's value reads as the integers zs, in memory. -/
structure IntsAt (w : World) (ao : Option Addr) (zs : List Int) : Prop where
  lies : zs ≠ [] → ∃ b off, ao = some ⟨b, off, none⟩ ∧ b < w.heap.size ∧ ∀ j, j < zs.length → w.cell? ⟨b, off + j, none⟩ = some (.int .i64 (zs[j]?.getD 0))
  small : zs.length ≤ 1000000

theorem IntsAt.mod {w w' : World} {ao : Option Addr} {zs : List Int} (h : IntsAt w ao zs) (hm : Mod noB w w') : IntsAt w' ao zs :=
  ⟨fun hne => by obtain ⟨b, off, h1, h2, h3⟩ := h.lies hne; exact ⟨b, off, h1, Nat.lt_of_lt_of_le h2 hm.size, fun j hj => (cell_same (hm.block b h2 id) _).trans (h3 j hj)⟩, h.small⟩

/-- A block whose cells are a list of ints. -/
theorem ints_lit {w : World} {b : Nat} {cs : Array Value} {t : TypeId} (L : List Int) (h : w.heap[b]? = some (.cells cs t)) (hc : cs.toList = L.map (Value.int .i64)) (hs : L.length ≤ 1000000) : IntsAt w (some ⟨b, 0, none⟩) L :=
  ⟨fun _ => ⟨b, 0, rfl, (Array.getElem?_eq_some_iff.1 h).1, fun j hj => by
    simp only [World.cell?, h, Nat.zero_add]
    have e : cs[j]? = (cs.toList)[j]? := by simp
    have : cs[j]? = some (.int .i64 (L[j]?.getD 0)) := by rw [e, hc, List.getElem?_map, List.getElem?_eq_getElem hj]; rfl
    simpa using this⟩, hs⟩

theorem info3 : (Try.prog.info? 3).map (fun i => (i.zero, i.size, i.bytes)) = some (some (.int .i64 0), 1, 8) := by kernel_rfl

/-- The numbers of a slice of ints that a call made. -/
theorem ints_of_owns {w : World} {base n : Nat} {v : Value} {L : List Int} (h : w.ownsRow base 3 1 v n (L.map (Value.int .i64))) (hn : L.length = n) (hs : L.length ≤ 1000000) : ∃ ao cap, v = .slice ao n cap ∧ IntsAt w ao L ∧ (∀ b off, L ≠ [] → ao = some ⟨b, off, none⟩ → base ≤ b) := by
  obtain ⟨_, ⟨rfl, rfl⟩ | ⟨g, cap, cur, rfl, hb, hg, h1, _, h2, h3⟩⟩ := h
  · have : L = [] := List.length_eq_zero_iff.1 hn
    subst this
    exact ⟨none, 0, rfl, ⟨fun h => absurd rfl h, hs⟩, fun _ _ h => absurd rfl h⟩
  · refine ⟨some ⟨g, 0, none⟩, cap, rfl, ⟨fun _ => ⟨g, 0, rfl, (Array.getElem?_eq_some_iff.1 hg).1, fun j hj => ?_⟩, hs⟩, fun b off _ e => by cases e; exact hb⟩
    have hz : (0, 0).1 + j - (0, 0).1 = j := by omega
    have h4 : cur[j]? = some (.int .i64 (L[j]?.getD 0)) := by
      have e1 : (cur.toList.take (n * 1))[j]? = cur.toList[j]? := List.getElem?_take_of_lt (by omega)
      rw [h3, List.getElem?_map, List.getElem?_eq_getElem hj] at e1
      rw [← Array.getElem?_toList, ← e1, List.getElem?_eq_getElem hj]
      rfl
    simp only [World.cell?, hg, Nat.zero_add]
    simpa using h4

theorem ints_one (L : List Int) : ∀ u ∈ L.map (Value.int .i64), u.oneCell' = true := by
  intro u hu
  obtain ⟨x, _, rfl⟩ := List.mem_map.1 hu
  rfl
theorem one_cell (w : World) (n : Int) : ∀ (j : Nat) (u : Value), [Value.int .i64 n][j]? = some u → (w.alloc (.cells #[.int .i64 n] 3)).cell? (Addr.add ⟨w.heap.size, 0, none⟩ j) = some u := fun j u hj => by
  have hnw := World.alloc_heap_new w (.cells #[.int .i64 n] 3)
  have ea : Addr.add ⟨w.heap.size, 0, none⟩ j = ⟨w.heap.size, j, none⟩ := by simp [Addr.add]; omega
  rw [ea]
  simp only [World.cell?, hnw]
  rcases j with _ | j
  · simpa using hj
  · simp at hj
theorem own_ge {w : World} {base : Nat} {e : TypeId} {size : Nat} {v : Value} {n : Nat} {xs : List Value} (h : w.ownsRow base e size v n xs) {r : Nat} (hr : v.ownBlock = some r) : base ≤ r := by
  obtain ⟨_, ⟨rfl, _⟩ | ⟨g, cap, cur, rfl, hb, _⟩⟩ := h
  · cases hr
  · have : some g = some r := hr
    cases this
    exact hb
theorem own_mono {w : World} {base base' : Nat} {e : TypeId} {size : Nat} {v : Value} {n : Nat} {xs : List Value} (h : w.ownsRow base e size v n xs) (hb : base' ≤ base) : w.ownsRow base' e size v n xs := by
  obtain ⟨h1, h2 | ⟨g, cap, cur, hv, hg, h3⟩⟩ := h
  · exact ⟨h1, .inl h2⟩
  · exact ⟨h1, .inr ⟨g, cap, cur, hv, Nat.le_trans hb hg, h3⟩⟩
theorem own_mod {base e size n : Nat} {w w' : World} {v : Value} {xs : List Value} (h : w.ownsRow base e size v n xs) (hm : Mod noB w w') : w'.ownsRow base e size v n xs := by
  obtain ⟨h1, h2 | ⟨g, cap, cur, hv, hb, hh, hr⟩⟩ := h
  · exact ⟨h1, .inl h2⟩
  · exact ⟨h1, .inr ⟨g, cap, cur, hv, hb, hm.at hh id, hr⟩⟩

set_option maxHeartbeats 1000000 in
theorem index_any (ao : Option Addr) (zs : List Int) (cap : Nat) (x : Int) (w : World) (hs : IntsAt w ao zs) :
    Calls Try.prog 91 #[.slice ao zs.length cap, .int .i64 x] w fun e w' => e = .returned (.int .i64 (idxOf (fun z => x == z) zs)) ∧ w = w' := by
  have hsm := hs.small
  go_enter Try.func91, Try.ntmps91
  go_wp2
  go_loop [8] (fun i => ∃ k : Nat, k ≤ zs.length ∧ i = .int .i64 k ∧ ∀ j y, j < k → zs[j]? = some y → (x == y) = false) (fun i => zs.length - (intOf i).toNat)
  case atStart => exact ⟨0, Nat.zero_le _, rfl, fun j y hj => absurd hj (Nat.not_lt_zero _)⟩
  case round =>
    obtain ⟨k, hk, rfl, h0⟩ := hrel
    have H0 := Hold.mk h0
    clear h0
    by_cases hlt : k < zs.length
    · obtain ⟨b, off, rfl, _, hc⟩ := hs.lies (fun e => by simp [e] at hlt)
      obtain ⟨z, hz⟩ : ∃ z, zs[k]? = some z := ⟨_, List.getElem?_eq_getElem hlt⟩
      have hcell := hc k hlt
      rw [hz, Option.getD_some] at hcell
      have Hz := Hold.mk hz
      clear hc hz
      by_cases hx : (x == z) = true
      · go_wp2
        go_ret
        exact ⟨ret_i64 (idxOf_at (p := fun y => x == y) Hz.out hx H0.out).symm, rfl⟩
      · have hx' : (x == z) = false := by simpa using hx
        clear hx
        go_wp2
        go_round
        case rel => exact ⟨k + 1, by omega, by go_num, fun j y hj hy => by
          rcases Nat.lt_succ_iff_lt_or_eq.1 hj with h | rfl
          · exact H0.out j y h hy
          · rw [Hz.out] at hy; cases hy; exact hx'⟩
        case measure => simp [intOf]; omega
    · obtain rfl : k = zs.length := by omega
      go_wp2
      go_ret
      exact ⟨ret_i64 (idxOf_none H0.out).symm, rfl⟩

set_option maxHeartbeats 1000000 in
theorem contains_any (ao : Option Addr) (zs : List Int) (cap : Nat) (x : Int) (w : World) (hs : IntsAt w ao zs) :
    Calls Try.prog 84 #[.slice ao zs.length cap, .int .i64 x] w fun e w' => e = .returned (.bool (zs.any fun z => x == z)) ∧ w = w' := by
  have HI := Hold.mk (index_any ao zs cap x w hs)
  have HA := Hold.mk (idxOf_any (fun z => x == z) zs)
  clear hs
  obtain ⟨i, hi⟩ : ∃ i, idxOf (fun z => x == z) zs = i := ⟨_, rfl⟩
  rw [hi] at HI HA
  clear hi
  go_enter Try.func84, Try.ntmps84
  go_wp2_with (go_at_call 91; refine HI.out.mono ?_; rintro e w' ⟨rfl, rfl⟩)
  go_ret
  exact ⟨by rw [← HA.out]; rfl, rfl⟩

/-- Where in a list a number is one of some. -/
def indicesTo (f : Int → Bool) (L : List Int) (n : Nat) : List Int := ((List.range n).filter fun i => f (L[i]?.getD 0)).map (fun (i : Nat) => (i : Int))
def indicesR (f : Int → Bool) (L : List Int) : List Int := indicesTo f L L.length
theorem indicesTo_yes {f : Int → Bool} {L : List Int} {k : Nat} (h : f (L[k]?.getD 0) = true) : indicesTo f L (k + 1) = indicesTo f L k ++ [(k : Int)] := by
  simp [indicesTo, List.range_succ, List.filter_append, h]
theorem indicesTo_no {f : Int → Bool} {L : List Int} {k : Nat} (h : f (L[k]?.getD 0) = false) : indicesTo f L (k + 1) = indicesTo f L k := by
  simp [indicesTo, List.range_succ, List.filter_append, h]
theorem indicesTo_len (f : Int → Bool) (L : List Int) (k : Nat) : (indicesTo f L k).length ≤ k := by
  unfold indicesTo
  rw [List.length_map]
  exact Nat.le_trans (List.length_filter_le _ _) (by simp)

set_option maxRecDepth 100000 in
set_option maxHeartbeats 2000000 in
theorem indices_any (ao bo : Option Addr) (zs ws : List Int) (cap cap2 : Nat) (w : World) (hs : IntsAt w ao zs) (hw : IntsAt w bo ws) :
    Calls Try.prog 63 #[.slice ao zs.length cap, .slice bo ws.length cap2] w fun e w' => ∃ v, e = .returned v ∧
      w'.ownsRow w.heap.size 3 1 v (indicesR (fun z => ws.any fun y => z == y) zs).length ((indicesR (fun z => ws.any fun y => z == y) zs).map (Value.int .i64)) ∧ Mod noB w w' := by
  have hsm := hs.small
  have HS := Hold.mk hs
  have HW := Hold.mk hw
  obtain ⟨i0, hi, hz0, hz1, hz2⟩ := info_parts info3
  obtain ⟨f, hf⟩ : ∃ f, (fun z : Int => ws.any fun y => z == y) = f := ⟨_, rfl⟩
  have HF : Hold (∀ x, (ws.any fun y => x == y) = f x) := ⟨fun x => congrFun hf x⟩
  rw [hf]
  clear hs hw hf
  go_enter Try.func63, Try.ntmps63
  go_wp2
  go_loopw [5, 10] (fun v i wr => ∃ k : Nat, k ≤ zs.length ∧ i = .int .i64 k ∧ wr.ownsRow w.heap.size 3 1 v (indicesTo f zs k).length ((indicesTo f zs k).map (Value.int .i64)) ∧ Mod noB w wr) (fun _ i _ => zs.length - (intOf i).toNat)
  case atStart => exact ⟨0, Nat.zero_le _, rfl, World.ownsRow_nil _ _ _ _, Mod.refl _ _⟩
  case round =>
    obtain ⟨k, hk, rfl, hown, hmr⟩ := hrel
    have HMR := Hold.mk hmr
    have HOW := Hold.mk hown
    have hcl := indicesTo_len f zs k
    clear hown
    by_cases hlt : k < zs.length
    · obtain ⟨b, off, rfl, _, hc⟩ := (HS.out.mod hmr).lies (fun e => by simp [e] at hlt)
      have hcell := hc k hlt
      obtain ⟨z, hz⟩ : ∃ z, zs[k]?.getD 0 = z := ⟨_, rfl⟩
      rw [hz] at hcell
      have Hz := Hold.mk hz
      clear hc hz hmr
      have HC : Hold (Calls Try.prog 84 #[.slice bo ws.length cap2, .int .i64 z] wr fun e w' => e = .returned (.bool (f z)) ∧ wr = w') := ⟨by rw [← HF.out]; exact contains_any bo ws cap2 z wr (HW.out.mod HMR.out)⟩
      cases hfz : f z with
      | false =>
        rw [hfz] at HC
        have HZ : Hold (indicesTo f zs (k + 1) = indicesTo f zs k) := ⟨indicesTo_no (by rw [Hz.out]; exact hfz)⟩
        clear hfz
        go_wp2_with (go_at_call 84; refine HC.out.mono ?_; rintro e w' ⟨rfl, rfl⟩)
        go_roundw
        case rel => exact ⟨k + 1, by omega, by go_num, by rw [HZ.out]; exact HOW.out, HMR.out⟩
        case measure => simp [intOf]; omega
      | true =>
        rw [hfz] at HC
        have HZ : Hold (indicesTo f zs (k + 1) = indicesTo f zs k ++ [(k : Int)]) := ⟨indicesTo_yes (by rw [Hz.out]; exact hfz)⟩
        clear hfz
        go_wp2_with (first
          | (go_at_call 84; refine HC.out.mono ?_; rintro e w' ⟨rfl, rfl⟩)
          | (at_builtin; refine wpList_append_own _ rfl (.tmp 18) (.tmp 20) 43 rfl w.heap.size 3 i0 (.int .i64 0) 1 8 Try.underlying43 hi hz0 hz1 hz2 rfl (by decide) _ _ _ rfl (HOW.out.alloc _) ⟨wr.heap.size, 0, none⟩ 1 1 [.int .i64 k] rfl rfl (one_cell wr k) (by simp [Value.oneCell']) (by unfold maxLen; omega) (by omega) (by have := HMR.out.size; simp; omega) ?_; intro v' wa hown' hgr _; have HW2 := Hold.mk (And.intro hown' hgr); clear hown' hgr))
        go_roundw
        case rel =>
          obtain ⟨hown', hgr⟩ := HW2.out
          refine ⟨k + 1, by omega, by go_num, ?_, ?_⟩
          · rw [HZ.out, List.map_append, List.length_append]; exact hown'
          · exact HMR.out.then (((Mod.refl (fun b => w.heap.size ≤ b) wr).alloc _).trans (Mod.of_grownBy hgr (fun r hr _ => own_ge HOW.out hr))) (fun i h1 h2 => absurd h1 (Nat.not_lt.2 h2))
        case measure => simp [intOf]; omega
    · obtain rfl : k = zs.length := by omega
      go_wp2
      go_ret
      exact ⟨_, rfl, HOW.out, HMR.out⟩
end Go.Proofs.Ytnjbamikfjdofaa

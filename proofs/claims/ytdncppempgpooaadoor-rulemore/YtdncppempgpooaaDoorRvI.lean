/- The document's Ints, Spans; a span; the document's example. -/
import Derived.Test.YtdncppempgpooaaDoorRvH
set_option linter.unusedSimpArgs false
set_option linter.unusedVariables false
namespace Go.Proofs.YtdncppempgpooaaDoor
open Go.RowKit Go.Shelf

set_option maxRecDepth 100000 in
set_option maxHeartbeats 2000000 in
theorem ints_any (ao bo : Option Addr) (L M : List Int) (c d : Nat) (w : World) (ha : IntsAt w ao L) (hb : IntsAt w bo M) :
    Calls Tryd.prog 23 #[.slice ao L.length c, .slice bo M.length d] w fun e w' => e = .returned (.bool (decide (L = M))) ∧ Mod noB w w' := by
  have hsm := ha.small
  have hsm2 := hb.small
  have HA := Hold.mk (And.intro ha hb)
  clear ha hb
  by_cases hl : L.length = M.length
  · have hl1 : ((L.length : Int) != (M.length : Int)) = false := by simp [bne, hl]
    have HL := Hold.mk hl
    rw [← hl]
    rw [← hl] at hl1
    clear hl
    go_enter Tryd.func23, Tryd.ntmps23
    go_wp2
    go_loopw [5] (fun i wr => ∃ k : Nat, k ≤ L.length ∧ i = .int .i64 k ∧ (∀ j, j < k → L[j]? = M[j]?) ∧ Mod noB w wr) (fun i _ => L.length - (intOf i).toNat)
    case atStart => exact ⟨0, Nat.zero_le _, rfl, fun j hj => absurd hj (Nat.not_lt_zero _), Mod.refl _ _⟩
    case round =>
      obtain ⟨k, hk, rfl, h0, hmr⟩ := hrel
      have H0 := Hold.mk h0
      clear h0
      by_cases hlt : k < L.length
      · have hlt2 : k < M.length := by have := HL.out; omega
        obtain ⟨b1, o1, rfl, hb1, hc1⟩ := (HA.out.1.mod hmr).lies (fun e => by simp [e] at hlt)
        obtain ⟨b2, o2, rfl, hb2, hc2⟩ := (HA.out.2.mod hmr).lies (fun e => by simp [e] at hlt2)
        have h1 := hc1 k hlt
        have h2 := hc2 k hlt2
        obtain ⟨x, hx⟩ : ∃ x, L[k]? = some x := ⟨_, List.getElem?_eq_getElem hlt⟩
        obtain ⟨y, hy⟩ : ∃ y, M[k]? = some y := ⟨_, List.getElem?_eq_getElem hlt2⟩
        rw [hx, Option.getD_some] at h1
        rw [hy, Option.getD_some] at h2
        have HXY := Hold.mk (And.intro hx hy)
        have HM := Hold.mk hmr
        clear hc1 hc2 hmr hx hy hlt2
        by_cases he : x = y
        · subst he
          go_wp2
          go_quiet (fail)
          go_wp2
          go_roundw
          case rel => exact ⟨k + 1, by omega, by go_num, fun j hj => by
            rcases Nat.lt_succ_iff_lt_or_eq.1 hj with h | rfl
            · exact H0.out j h
            · rw [HXY.out.1, HXY.out.2], HM.out.drewN _⟩
          case measure => simp [intOf]; omega
        · have hne : (x != y) = true := by simp [bne, he]
          have HE := Hold.mk he
          clear he
          go_wp2
          go_quiet (fail)
          go_wp2
          go_ret
          refine ⟨?_, HM.out.drewN _⟩
          have : decide (L = M) = false := by
            simp only [decide_eq_false_iff_not]
            intro e
            subst e
            obtain ⟨h1, h2⟩ := HXY.out
            rw [h1] at h2
            exact HE.out (by simpa using h2)
          rw [this]; rfl
      · obtain rfl : k = L.length := by omega
        go_wp2
        go_ret
        refine ⟨?_, hmr⟩
        have : L = M := List.ext_getElem? (fun i => by
          by_cases hi : i < L.length
          · exact H0.out i hi
          · rw [List.getElem?_eq_none (by omega), List.getElem?_eq_none (by have := HL.out; omega)])
        simp [this]
  · have hl1 : ((L.length : Int) != (M.length : Int)) = true := by simp [bne]; omega
    have hf : decide (L = M) = false := by
      simp only [decide_eq_false_iff_not]
      intro e
      exact hl (by rw [e])
    have HF := Hold.mk hf
    clear hl hf
    go_enter Tryd.func23, Tryd.ntmps23
    go_wp2
    go_ret
    exact ⟨by rw [HF.out]; rfl, Mod.refl _ _⟩

set_option maxHeartbeats 400000 in
theorem span_any (lo hi : Int) (w : World) : Calls Tryd.prog 38 #[.int .i64 lo, .int .i64 hi] w fun e w' => e = .returned (spV (lo, hi)) ∧ Mod noB w w' := by
  go_enter Tryd.func38, Tryd.ntmps38
  go_wp2
  exact bodyPost_ret (v := spV (lo, hi)) (by simp [results, Tryd.results38, go_sem]) rfl ⟨rfl, (Mod.refl _ _).alloc _⟩

set_option maxRecDepth 100000 in
set_option maxHeartbeats 2000000 in
theorem spans_any (ao bo : Option Addr) (L M : List (Int × Int)) (c d : Nat) (w : World) (ha : ListAt w.heap.size w 2 spC ao L) (hb : ListAt w.heap.size w 2 spC bo M) :
    Calls Tryd.prog 22 #[.slice ao L.length c, .slice bo M.length d] w fun e w' => e = .returned (.bool (decide (L = M))) ∧ Mod noB w w' := by
  have hsm := ha.small
  have hsm2 := hb.small
  have HA := Hold.mk (And.intro ha hb)
  clear ha hb
  by_cases hl : L.length = M.length
  · have hl1 : ((L.length : Int) != (M.length : Int)) = false := by simp [bne, hl]
    have HL := Hold.mk hl
    rw [← hl]
    rw [← hl] at hl1
    clear hl
    go_enter Tryd.func22, Tryd.ntmps22
    go_wp2
    go_loopw [5] (fun i wr => ∃ k : Nat, k ≤ L.length ∧ i = .int .i64 k ∧ (∀ j, j < k → L[j]? = M[j]?) ∧ Mod noB w wr) (fun i _ => L.length - (intOf i).toNat)
    case atStart => exact ⟨0, Nat.zero_le _, rfl, fun j hj => absurd hj (Nat.not_lt_zero _), Mod.refl _ _⟩
    case round =>
      obtain ⟨k, hk, rfl, h0, hmr⟩ := hrel
      have H0 := Hold.mk h0
      clear h0
      by_cases hlt : k < L.length
      · have hlt2 : k < M.length := by have := HL.out; omega
        obtain ⟨b1, o1, rfl, hb1, hc1⟩ := (HA.out.1.low (Low.ofN hmr (Nat.le_refl _))).lies (fun e => by simp [e] at hlt)
        obtain ⟨b2, o2, rfl, hb2, hc2⟩ := (HA.out.2.low (Low.ofN hmr (Nat.le_refl _))).lies (fun e => by simp [e] at hlt2)
        obtain ⟨x, hx⟩ : ∃ x, L[k]? = some x := ⟨_, List.getElem?_eq_getElem hlt⟩
        obtain ⟨y, hy⟩ : ∃ y, M[k]? = some y := ⟨_, List.getElem?_eq_getElem hlt2⟩
        have h1 : wr.cell? ⟨b1, o1 + k * 2, none⟩ = some (.int .i64 x.1) := hc1 k x hx 0 (by omega)
        have h2 : wr.cell? ⟨b1, o1 + k * 2 + 1, none⟩ = some (.int .i64 x.2) := hc1 k x hx 1 (by omega)
        have h3 : wr.cell? ⟨b2, o2 + k * 2, none⟩ = some (.int .i64 y.1) := hc2 k y hy 0 (by omega)
        have h4 : wr.cell? ⟨b2, o2 + k * 2 + 1, none⟩ = some (.int .i64 y.2) := hc2 k y hy 1 (by omega)
        have HXY := Hold.mk (And.intro hx hy)
        have HM := Hold.mk hmr
        clear hc1 hc2 hmr hx hy hlt2
        obtain ⟨x1, x2⟩ := x
        obtain ⟨y1, y2⟩ := y
        by_cases he : x1 = y1 ∧ x2 = y2
        · obtain ⟨rfl, rfl⟩ := he
          go_wp2
          go_quiet (fail)
          go_wp2
          go_roundw
          case rel => exact ⟨k + 1, by omega, by go_num, fun j hj => by
            rcases Nat.lt_succ_iff_lt_or_eq.1 hj with h | rfl
            · exact H0.out j h
            · rw [HXY.out.1, HXY.out.2], HM.out.drewN _⟩
          case measure => simp [intOf]; omega
        · have HE := Hold.mk he
          by_cases e1 : x1 = y1
          · subst e1
            have e2 : ¬ x2 = y2 := fun e => he ⟨rfl, e⟩
            have e3 : (x2 == y2) = false := by simpa using e2
            clear he
            go_wp2
            go_quiet (fail)
            go_wp2
            go_ret
            refine ⟨?_, HM.out.drewN _⟩
            have : decide (L = M) = false := by
              simp only [decide_eq_false_iff_not]
              intro e
              subst e
              obtain ⟨h1, h2⟩ := HXY.out
              rw [h1] at h2
              exact HE.out (by simpa using h2)
            rw [this]; rfl
          · have e3 : (x1 == y1) = false := by simpa using e1
            clear he
            go_wp2
            go_quiet (fail)
            go_wp2
            go_ret
            refine ⟨?_, HM.out.drewN _⟩
            have : decide (L = M) = false := by
              simp only [decide_eq_false_iff_not]
              intro e
              subst e
              obtain ⟨h1, h2⟩ := HXY.out
              rw [h1] at h2
              exact HE.out (by simpa using h2)
            rw [this]; rfl
      · obtain rfl : k = L.length := by omega
        go_wp2
        go_ret
        refine ⟨?_, hmr⟩
        have : L = M := List.ext_getElem? (fun i => by
          by_cases hi : i < L.length
          · exact H0.out i hi
          · rw [List.getElem?_eq_none (by omega), List.getElem?_eq_none (by have := HL.out; omega)])
        simp [this]
  · have hl1 : ((L.length : Int) != (M.length : Int)) = true := by simp [bne]; omega
    have hf : decide (L = M) = false := by
      simp only [decide_eq_false_iff_not]
      intro e
      exact hl (by rw [e])
    have HF := Hold.mk hf
    clear hl hf
    go_enter Tryd.func22, Tryd.ntmps22
    go_wp2
    go_ret
    exact ⟨by rw [HF.out]; rfl, Mod.refl _ _⟩

end Go.Proofs.YtdncppempgpooaaDoor

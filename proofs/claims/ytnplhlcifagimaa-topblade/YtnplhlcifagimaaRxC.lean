/- Several texts in one (a claim holds at most 60 files): each has its own words ahead of it. -/
import Derived.Test.YtnplhlcifagimaaRuG
set_option linter.unusedSimpArgs false
set_option linter.unusedVariables false

/- The document's in, span. -/
namespace Go.Proofs.Ytnplhlcifagimaa
open Go.RowKit Go.Shelf

set_option maxHeartbeats 400000 in
theorem refIn_any (n lo hi : Int) (w : World) : Calls Try.prog 10 #[.int .i64 n, .int .i64 lo, .int .i64 hi] w fun e w' => e = .returned (.bool (fromB lo hi n)) ∧ w' = w := by
  by_cases h1 : lo ≤ n <;> by_cases h2 : n ≤ hi
  all_goals
    have he : Hold (fromB lo hi n = (decide (lo ≤ n) && decide (n ≤ hi))) := ⟨rfl⟩
    go_enter Try.func10, Try.ntmps10
    go_wp2
    go_ret
    exact ⟨by rw [he.out]; simp [*]; try omega, rfl⟩

def spanB (lo hi : Int) (s : Int × Int) : Bool := decide (lo ≤ s.1) && decide (s.1 ≤ s.2) && decide (s.2 ≤ hi)
set_option maxHeartbeats 400000 in
theorem refSpan_any (s : Int × Int) (lo hi : Int) (w : World) : Calls Try.prog 9 #[spVQ s, .int .i64 lo, .int .i64 hi] w fun e w' => e = .returned (.bool (spanB lo hi s)) ∧ Mod noB w w' := by
  obtain ⟨a, b⟩ := s
  by_cases h1 : lo ≤ a <;> by_cases h2 : a ≤ b <;> by_cases h3 : b ≤ hi
  all_goals
    have he : Hold (spanB lo hi (a, b) = (decide (lo ≤ a) && decide (a ≤ b) && decide (b ≤ hi))) := ⟨rfl⟩
    go_enter Try.func9, Try.ntmps9
    go_wp2
    go_ret
    exact ⟨by rw [he.out]; simp [*]; try omega, (Mod.refl _ _).alloc _⟩
theorem spanB_away (s : Int × Int) : spanB 0 10000 s = awayB s := rfl
end Go.Proofs.Ytnplhlcifagimaa

/- The document's Worst, lasts. -/
namespace Go.Proofs.Ytnplhlcifagimaa
open Go.RowKit Go.Shelf

end Go.Proofs.Ytnplhlcifagimaa

/- The document's Die. -/
namespace Go.Proofs.Ytnplhlcifagimaa
open Go.RowKit Go.Shelf

theorem dieB_all {d : Dye} (h : ∀ b ∈ d.bl, bladeB b = true) : dieB d = (fromB 1 5 d.bl.length && fromB 0 100000 d.bound && fromB 0 10000 d.stop && fromB 0 10000 d.bend) := by
  have : d.bl.all bladeB = true := List.all_eq_true.2 h
  simp [dieB, this]

set_option maxRecDepth 100000 in
set_option maxHeartbeats 4000000 in
theorem refDie_any (B : Nat) (ao : Option Addr) (cap : Nat) (d : Dye) (w : World) (hB : B ≤ w.heap.size) (hs : BladesAt B w ao d.bl) :
    Calls Try.prog 4 #[dyV ao d.bl.length cap d] w fun e w' => e = .returned (.bool (dieB d)) ∧ Mod noB w w' := by
  have hsm := hs.small
  have hb0 := World.alloc_heap_new w (.cells (dyC ao d.bl.length cap d) 24)
  have HF := Hold.mk (show Kept (w.alloc (.cells (dyC ao d.bl.length cap d) 24)) (fun W => (W.heap[w.heap.size]? = some (.cells (dyC ao d.bl.length cap d) 24) ∧ BladesAt B W ao d.bl) ∧ Mod noB w W) from fun W h => ⟨⟨h.at hb0 id, hs.low (Low.ofN (((Mod.refl noB w).alloc _).trans h) hB)⟩, ((Mod.refl noB w).alloc _).trans h⟩)
  clear hs hb0 hB
  go_enter Try.func4, Try.ntmps4
  go_wp2
  go_loopw [3] (fun i wr => ∃ k : Nat, k ≤ d.bl.length ∧ i = .int .i64 k ∧ (∀ j x, j < k → d.bl[j]? = some x → bladeB x = true) ∧ Mod noB (w.alloc (.cells (dyC ao d.bl.length cap d) 24)) wr) (fun i _ => d.bl.length - (intOf i).toNat)
  case atStart => exact ⟨0, Nat.zero_le _, rfl, fun j x hj => absurd hj (Nat.not_lt_zero _), Mod.refl _ _⟩
  case round =>
    obtain ⟨k, hk, rfl, hall, hm⟩ := hrel
    have HA := Hold.mk hall
    have HW := Hold.mk (HF.out.later hm)
    have HMM := Hold.mk hm
    clear hall hm
    by_cases hlt : k < d.bl.length
    · obtain ⟨x, hx⟩ : ∃ x, d.bl[k]? = some x := ⟨_, List.getElem?_eq_getElem hlt⟩
      obtain ⟨b, off, rfl, hb, q0, q1, q2, q3⟩ := HW.out.now.1.2.blade hx
      have ga := HW.out.now.1.1
      have c0 := cellsAt ga 0
      have HX := Hold.mk hx
      have HQ := Hold.mk (show Kept wr (fun W => W.cell? ⟨w.heap.size, 0, none⟩ = some (.slice (some ⟨b, off, none⟩) d.bl.length cap) ∧ W.cell? ⟨b, off + k * 4 + 2, none⟩ = some (.int .i64 x.w.1) ∧ W.cell? ⟨b, off + k * 4 + 3, none⟩ = some (.int .i64 x.w.2)) from fun W h => by
        have hh := HW.out W h
        obtain ⟨b', off', e', _, p0, p1, p2, p3⟩ := hh.1.2.blade HX.out
        simp only [Option.some.injEq, Addr.mk.injEq, and_true] at e'
        obtain ⟨rfl, rfl⟩ := e'
        exact ⟨cellsAt hh.1.1 0, p2, p3⟩)
      have hkI : (k : Int) < (d.bl.length : Int) := by omega
      have hk0 : (0 : Int) ≤ (k : Int) := by omega
      obtain ⟨f, u⟩ := x
      clear ga hx
      have hbad : ∀ (h : bladeB ⟨f, u⟩ = false), dieB d = false := fun h => by
        have : d.bl.all bladeB = false := by
          rw [List.all_eq_false]
          exact ⟨_, List.mem_of_getElem? HX.out, by simp [h]⟩
        simp [dieB, this]
      have HBAD := Hold.mk hbad
      clear hbad
      cases hf : awayB f with
      | false =>
        have H1 : Hold (∀ w, Calls Try.prog 9 #[spVQ f, .int .i64 0, .int .i64 10000] w fun e w' => e = .returned (.bool false) ∧ Mod noB w w') := ⟨fun w => by rw [← hf, ← spanB_away]; exact refSpan_any _ _ _ _⟩
        have HD : Hold (dieB d = false) := ⟨HBAD.out (by simp [bladeB, hf])⟩
        clear hf
        go_wp2_with (go_at_call 9; refine (H1.out _).mono ?_; rintro e w1 ⟨rfl, hM⟩; have HW1 := Hold.mk (HW.out.later hM); clear hM)
        go_ret
        exact ⟨by rw [HD.out]; rfl, HW1.out.now.2⟩
      | true =>
        have H1 : Hold (∀ w, Calls Try.prog 9 #[spVQ f, .int .i64 0, .int .i64 10000] w fun e w' => e = .returned (.bool true) ∧ Mod noB w w') := ⟨fun w => by rw [← hf, ← spanB_away]; exact refSpan_any _ _ _ _⟩
        cases hu : awayB u with
        | false =>
          have H2 : Hold (∀ w, Calls Try.prog 9 #[spVQ u, .int .i64 0, .int .i64 10000] w fun e w' => e = .returned (.bool false) ∧ Mod noB w w') := ⟨fun w => by rw [← hu, ← spanB_away]; exact refSpan_any _ _ _ _⟩
          have HD : Hold (dieB d = false) := ⟨HBAD.out (by simp [bladeB, hf, hu])⟩
          clear hf hu
          go_wp2_with (first
            | (go_at_call 9; have H1x := H1; refine (H1.out _).mono ?_; rintro e w1 ⟨rfl, hM⟩; have HW1 := Hold.mk (HW.out.later hM); clear q0 q1 q2 q3 c0; obtain ⟨c0, q2, q3⟩ := HQ.out _ hM; clear hM H1 H1x)
            | (go_at_call 9; refine (H2.out _).mono ?_; rintro e w2 ⟨rfl, hM⟩; have HW2 := Hold.mk (HW1.out.later hM); clear hM))
          go_ret
          exact ⟨by rw [HD.out]; rfl, HW2.out.now.2⟩
        | true =>
          have H2 : Hold (∀ w, Calls Try.prog 9 #[spVQ u, .int .i64 0, .int .i64 10000] w fun e w' => e = .returned (.bool true) ∧ Mod noB w w') := ⟨fun w => by rw [← hu, ← spanB_away]; exact refSpan_any _ _ _ _⟩
          have HD : Hold (bladeB ⟨f, u⟩ = true) := ⟨by simp [bladeB, hf, hu]⟩
          clear hf hu
          go_wp2_with (first
            | (go_at_call 9; have H1x := H1; refine (H1.out _).mono ?_; rintro e w1 ⟨rfl, hM⟩; have HM1 := Hold.mk (HMM.out.trans hM); clear q0 q1 q2 q3 c0; obtain ⟨c0, q2, q3⟩ := HQ.out _ hM; clear hM H1 H1x)
            | (go_at_call 9; refine (H2.out _).mono ?_; rintro e w2 ⟨rfl, hM⟩; have HM2 := Hold.mk (HM1.out.trans hM); clear hM))
          go_roundw
          case rel => exact ⟨k + 1, by omega, by go_num, fun j y hj hy => by
            rcases Nat.lt_succ_iff_lt_or_eq.1 hj with h | rfl
            · exact HA.out j y h hy
            · rw [HX.out] at hy; cases hy; exact HD.out, HM2.out⟩
          case measure => simp [intOf]; omega
    · obtain rfl : k = d.bl.length := by omega
      have HD : Hold (dieB d = (fromB 1 5 d.bl.length && fromB 0 100000 d.bound && fromB 0 10000 d.stop && fromB 0 10000 d.bend)) := ⟨dieB_all (fun b hb => by
        obtain ⟨j, hj, he⟩ := List.getElem_of_mem hb
        exact HA.out j b hj (by rw [List.getElem?_eq_getElem hj, he]))⟩
      have ga := HW.out.now.1.1
      have c0 := cellsAt ga 0; have c1 := cellsAt ga 1; have c2 := cellsAt ga 2; have c3 := cellsAt ga 3
      clear ga
      cases h1 : fromB 1 5 d.bl.length <;> cases h2 : fromB 0 100000 d.bound <;> cases h3 : fromB 0 10000 d.stop <;> cases h4 : fromB 0 10000 d.bend
      all_goals
        go_wp2_with (go_at_call 10; refine (refIn_any _ _ _ _).mono ?_; rintro e w1 ⟨rfl, rfl⟩)
        go_ret
        exact ⟨by rw [HD.out]; simp [*], HW.out.now.2⟩
end Go.Proofs.Ytnplhlcifagimaa

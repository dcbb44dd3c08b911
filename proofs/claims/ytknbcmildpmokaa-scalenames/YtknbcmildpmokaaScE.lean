/- spreads, lists, machines: the small functions. -/
import Derived.Test.YtknbcmildpmokaaScD
set_option linter.unusedSimpArgs false
set_option linter.unusedVariables false
namespace Go.Proofs.Ytknbcmildpmokaa
open Go.RowKit


/-- A list, as the program holds it: four numbers. -/
@[reducible] def liC (l : List Int) : Array Value := #[.int .i64 (l[0]?.getD 0), .int .i64 (l[1]?.getD 0), .int .i64 (l[2]?.getD 0), .int .i64 (l[3]?.getD 0)]
@[reducible] def liV (l : List Int) : Value := .agg #[.int .i64 (l[0]?.getD 0), .int .i64 (l[1]?.getD 0), .int .i64 (l[2]?.getD 0), .int .i64 (l[3]?.getD 0)]
theorem whole4 {l : List Int} (h : l.length ≤ 4) : wholeB l = (decide ((0 : Int) ≤ l[0]?.getD 0) && (decide ((0 : Int) ≤ l[1]?.getD 0) && (decide ((0 : Int) ≤ l[2]?.getD 0) && decide ((0 : Int) ≤ l[3]?.getD 0)))) := by
  match l, h with
  | [], _ => rfl
  | [a], _ => simp [wholeB]
  | [a, b], _ => simp [wholeB]
  | [a, b, c], _ => simp [wholeB]
  | [a, b, c, d], _ => simp [wholeB]
  | _ :: _ :: _ :: _ :: _ :: _, h => simp at h

set_option maxHeartbeats 1000000 in
theorem isComplete4 (a b c d : Int) (w : World) : Calls Try.prog 70 #[.agg #[.int .i64 a, .int .i64 b, .int .i64 c, .int .i64 d]] w fun e w' => e = .returned (.bool (decide (0 ≤ a) && (decide (0 ≤ b) && (decide (0 ≤ c) && decide (0 ≤ d))))) ∧ Mod noB w w' := by
  have HM0 := Hold.mk ((Mod.refl noB w).alloc (.cells #[.int .i64 a, .int .i64 b, .int .i64 c, .int .i64 d] 77))
  have i0 : ∀ w, (Instr.index 77 (.agg #[.int .i64 a, .int .i64 b, .int .i64 c, .int .i64 d]) (.int .i64 0)).run Try.prog w = .ok (.int .i64 a) w := fun _ => by kernel_rfl
  have i1 : ∀ w, (Instr.index 77 (.agg #[.int .i64 a, .int .i64 b, .int .i64 c, .int .i64 d]) (.int .i64 1)).run Try.prog w = .ok (.int .i64 b) w := fun _ => by kernel_rfl
  have i2 : ∀ w, (Instr.index 77 (.agg #[.int .i64 a, .int .i64 b, .int .i64 c, .int .i64 d]) (.int .i64 2)).run Try.prog w = .ok (.int .i64 c) w := fun _ => by kernel_rfl
  have i3 : ∀ w, (Instr.index 77 (.agg #[.int .i64 a, .int .i64 b, .int .i64 c, .int .i64 d]) (.int .i64 3)).run Try.prog w = .ok (.int .i64 d) w := fun _ => by kernel_rfl
  go_enter Try.func70, Try.ntmps70
  go_wp2
  go_loop [6] (fun i => ∃ k : Nat, k ≤ 4 ∧ i = .int .i64 k ∧ Hold ((1 ≤ k → 0 ≤ a) ∧ (2 ≤ k → 0 ≤ b) ∧ (3 ≤ k → 0 ≤ c) ∧ (4 ≤ k → 0 ≤ d))) (fun i => 4 - (intOf i).toNat)
  case atStart => exact ⟨0, by omega, rfl, ⟨by omega⟩⟩
  case round =>
    obtain ⟨k, hk, rfl, H⟩ := hrel
    rcases (by omega : k = 0 ∨ k = 1 ∨ k = 2 ∨ k = 3 ∨ k = 4) with rfl | rfl | rfl | rfl | rfl
    · by_cases h : a < 0
      · have he : Hold (decide (0 ≤ a) = false) := ⟨by simp; omega⟩
        go_wp2
        go_ret
        exact ⟨by rw [he.out]; rfl, HM0.out⟩
      · go_wp2
        go_round
        case rel => exact ⟨1, by omega, rfl, ⟨by have := H.out; omega⟩⟩
        case measure => simp [intOf]
    · by_cases h : b < 0
      · have he : Hold (decide (0 ≤ b) = false) := ⟨by simp; omega⟩
        go_wp2
        go_ret
        exact ⟨by rw [he.out]; simp, HM0.out⟩
      · go_wp2
        go_round
        case rel => exact ⟨2, by omega, rfl, ⟨by have := H.out; omega⟩⟩
        case measure => simp [intOf]
    · by_cases h : c < 0
      · have he : Hold (decide (0 ≤ c) = false) := ⟨by simp; omega⟩
        go_wp2
        go_ret
        exact ⟨by rw [he.out]; simp, HM0.out⟩
      · go_wp2
        go_round
        case rel => exact ⟨3, by omega, rfl, ⟨by have := H.out; omega⟩⟩
        case measure => simp [intOf]
    · by_cases h : d < 0
      · have he : Hold (decide (0 ≤ d) = false) := ⟨by simp; omega⟩
        go_wp2
        go_ret
        exact ⟨by rw [he.out]; simp, HM0.out⟩
      · go_wp2
        go_round
        case rel => exact ⟨4, by omega, rfl, ⟨by have := H.out; omega⟩⟩
        case measure => simp [intOf]
    · go_wp2
      go_ret
      exact ⟨by obtain ⟨h1, h2, h3, h4⟩ := H.out; simp [h1 (by omega), h2 (by omega), h3 (by omega), h4 (by omega)], HM0.out⟩
theorem isComplete_any (l : List Int) (w : World) (h : l.length ≤ 4) : Calls Try.prog 70 #[liV l] w fun e w' => e = .returned (.bool (wholeB l)) ∧ Mod noB w w' := by
  rw [whole4 h]; exact isComplete4 _ _ _ _ w

theorem newMod (w : World) {b : Nat} {o : Obj} (W : World) (hm : Mod noB w W) (hb : w.heap.size ≤ b) : Mod noB w (W.putObj b o) := hm.putObj (fun h => by omega) o

set_option maxHeartbeats 1000000 in
theorem just_any (n : Int) (w : World) : Calls Try.prog 71 #[.int .i64 n] w fun e w' => e = .returned (spV (n, n)) ∧ Mod noB w w' := by
  go_enter Try.func71, Try.ntmps71
  go_wp2
  refine bodyPost_ret (v := spV (n, n)) (by simp [results, Try.results71, go_sem]) rfl ⟨rfl, (Mod.refl _ _).alloc _⟩
set_option maxHeartbeats 1000000 in
theorem with_any (s : Int × Int) (n : Int) (w : World) : Calls Try.prog 72 #[spV s, .int .i64 n] w fun e w' => e = .returned (spV (widen s n)) ∧ Mod noB w w' := by
  obtain ⟨a, b⟩ := s
  go_enter Try.func72, Try.ntmps72
  go_wp2
  · exact bodyPost_ret (v := spV (n, n)) (by simp [results, Try.results72, go_sem]) rfl ⟨by rw [show widen (a, b) n = (n, n) by simp only [widen, Prod.mk.injEq]; omega], ((Mod.refl _ _).alloc _).alloc _⟩
  · exact bodyPost_ret (v := spV (n, b)) (by simp [results, Try.results72, go_sem]) rfl ⟨by rw [show widen (a, b) n = (n, b) by simp only [widen, Prod.mk.injEq]; omega], ((Mod.refl _ _).alloc _).alloc _⟩
  · exact bodyPost_ret (v := spV (a, n)) (by simp [results, Try.results72, go_sem]) rfl ⟨by rw [show widen (a, b) n = (a, n) by simp only [widen, Prod.mk.injEq]; omega], ((Mod.refl _ _).alloc _).alloc _⟩
  · exact bodyPost_ret (v := spV (a, b)) (by simp [results, Try.results72, go_sem]) rfl ⟨by rw [show widen (a, b) n = (a, b) by simp only [widen, Prod.mk.injEq]; omega], ((Mod.refl _ _).alloc _).alloc _⟩
set_option maxHeartbeats 1000000 in
theorem meets_any (s t : Int × Int) (w : World) : Calls Try.prog 78 #[spV s, spV t] w fun e w' => e = .returned (.bool (meetsB s t)) ∧ Mod noB w w' := by
  obtain ⟨a, b⟩ := s
  obtain ⟨c, d⟩ := t
  have HM0 := Hold.mk (((Mod.refl noB w).alloc (.cells #[.int .i64 a, .int .i64 b] 78)).alloc (.cells #[.int .i64 c, .int .i64 d] 78))
  have he : Hold (meetsB (a, b) (c, d) = (decide (a ≤ d) && decide (c ≤ b))) := ⟨rfl⟩
  by_cases h1 : a ≤ d <;> by_cases h2 : c ≤ b
  all_goals
    go_enter Try.func78, Try.ntmps78
    go_wp2
    go_ret
    exact ⟨by rw [he.out]; simp [*]; try omega, HM0.out⟩
set_option maxHeartbeats 1000000 in
theorem plus_any (s t : Int × Int) (w : World) (h1 : Small 1000000000000 s) (h2 : Small 1000000000000 t) : Calls Try.prog 100 #[spV s, spV t] w fun e w' => e = .returned (spV (plusP s t)) ∧ Mod noB w w' := by
  obtain ⟨a, b⟩ := s
  obtain ⟨c, d⟩ := t
  obtain ⟨⟨x1, x2⟩, x3, x4⟩ := h1
  obtain ⟨⟨y1, y2⟩, y3, y4⟩ := h2
  simp only at x1 x2 x3 x4 y1 y2 y3 y4
  go_enter Try.func100, Try.ntmps100
  go_wp2
  refine bodyPost_ret (v := spV (plusP (a, b) (c, d))) (by simp [results, Try.results100, plusP, go_sem]) rfl ⟨rfl, (((Mod.refl _ _).alloc _).alloc _).alloc _⟩
set_option maxHeartbeats 1000000 in
theorem times_any (s : Int × Int) (n : Int) (w : World) (h1 : Small 1000000 s) (h2 : -1000000 ≤ n ∧ n ≤ 1000000) : Calls Try.prog 102 #[spV s, .int .i64 n] w fun e w' => e = .returned (spV (s.1 * n, s.2 * n)) ∧ Mod noB w w' := by
  obtain ⟨a, b⟩ := s
  obtain ⟨⟨x1, x2⟩, x3, x4⟩ := h1
  simp only at x1 x2 x3 x4
  obtain ⟨m1, m2⟩ := mul_bd (m := 1000000) (k := 1000000) (a := a) (b := n) ⟨x1, x2⟩ h2
  obtain ⟨m3, m4⟩ := mul_bd (m := 1000000) (k := 1000000) (a := b) (b := n) ⟨x3, x4⟩ h2
  simp only [Int.reduceMul] at m1 m2 m3 m4
  obtain ⟨n1, n2⟩ := h2
  go_enter Try.func102, Try.ntmps102
  go_wp2
  refine bodyPost_ret (v := spV (a * n, b * n)) (by simp [results, Try.results102, go_sem]) rfl ⟨rfl, ((Mod.refl _ _).alloc _).alloc _⟩
/-- The machine of a test. -/
def machV (t : Tst) : Value := if t.how = 1 then .iface 110 (.agg #[.int .i64 t.kinds, .int .i64 t.err.1, .int .i64 t.err.2]) else .iface 112 (.agg #[.int .i64 t.err.1, .int .i64 t.err.2])
set_option maxHeartbeats 1000000 in
theorem machineOf_any (t : Tst) (w : World) : Calls Try.prog 46 #[tsV t] w fun e w' => e = .returned (machV t) ∧ Mod noB w w' := by
  obtain ⟨how, kinds, err, pass, cost⟩ := t
  have HM0 := Hold.mk ((Mod.refl noB w).alloc (.cells (tsC ⟨how, kinds, err, pass, cost⟩) 29))
  have he : Hold (machV ⟨how, kinds, err, pass, cost⟩ = if how = 1 then .iface 110 (.agg #[.int .i64 kinds, .int .i64 err.1, .int .i64 err.2]) else .iface 112 (.agg #[.int .i64 err.1, .int .i64 err.2])) := ⟨rfl⟩
  by_cases h : how = 1
  · subst h
    go_enter Try.func46, Try.ntmps46
    go_wp2
    go_ret
    exact ⟨by rw [he.out]; rfl, HM0.out⟩
  · go_enter Try.func46, Try.ntmps46
    go_wp2
    go_ret
    exact ⟨by rw [he.out, if_neg h]; rfl, HM0.out⟩

end Go.Proofs.Ytknbcmildpmokaa

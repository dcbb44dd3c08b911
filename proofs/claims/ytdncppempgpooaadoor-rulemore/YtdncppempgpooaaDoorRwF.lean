/- The document's power, Has, Stints, check. -/
import Derived.Test.YtdncppempgpooaaDoorRvR
set_option linter.unusedSimpArgs false
set_option linter.unusedVariables false
namespace Go.Proofs.YtdncppempgpooaaDoor
open Go.RowKit Go.Shelf

theorem pow_bd {n : Nat} (h : n ≤ 5) : 1 ≤ 2 ^ n ∧ 2 ^ n ≤ 32 := by
  rcases (by omega : n = 0 ∨ n = 1 ∨ n = 2 ∨ n = 3 ∨ n = 4 ∨ n = 5) with rfl | rfl | rfl | rfl | rfl | rfl <;> decide

set_option maxHeartbeats 1000000 in
theorem power_any (n : Nat) (w : World) (hn : n ≤ 5) : Calls Tryd.prog 58 #[.int .i64 n] w fun e w' => e = .returned (.int .i64 ((2 ^ n : Nat) : Int)) ∧ Mod noB w w' := by
  go_enter Tryd.func58, Tryd.ntmps58
  go_wp2
  go_loopw [3, 4] (fun a i wr => ∃ k p : Nat, k ≤ n ∧ 2 ^ k = p ∧ i = .int .i64 k ∧ a = .int .i64 p ∧ Mod noB w wr) (fun _ i _ => n - (intOf i).toNat)
  case atStart => exact ⟨0, 1, Nat.zero_le _, rfl, rfl, rfl, Mod.refl _ _⟩
  case round =>
    obtain ⟨k, p, hk, hp, rfl, rfl, hm⟩ := hrel
    have hb := pow_bd (n := k) (by omega)
    rw [hp] at hb
    have HP := Hold.mk hp
    clear hp
    by_cases hlt : k < n
    · go_wp2
      go_roundw
      case rel => exact ⟨k + 1, 2 * p, by omega, by rw [← HP.out, Nat.pow_succ]; omega, by go_num, by go_num, hm⟩
      case measure => simp [intOf]; omega
    · obtain rfl : k = n := by omega
      go_wp2
      go_ret
      exact ⟨by rw [HP.out]; rfl, hm⟩

theorem has_bit (s k : Nat) : s / 2 ^ k % 2 = (if s.testBit k then 1 else 0) := by
  rw [Nat.testBit_eq_decide_div_mod_eq]
  have : s / 2 ^ k % 2 < 2 := Nat.mod_lt _ (by decide)
  by_cases h : s / 2 ^ k % 2 = 1 <;> simp [h]
  omega
set_option maxHeartbeats 1000000 in
theorem has_any (s k : Nat) (w : World) (hk : k ≤ 5) (hs : s ≤ 1000000) : Calls Tryd.prog 33 #[.int .i64 s, .int .i64 k] w fun e w' => e = .returned (.bool (s.testBit k)) ∧ Mod noB w w' := by
  have H1 := Hold.mk (power_any k w hk)
  have hb := pow_bd hk
  have hq : (s : Int) / ((2 ^ k : Nat) : Int) % 2 = if s.testBit k then 1 else 0 := by
    have := has_bit s k
    have e : (s : Int) / ((2 ^ k : Nat) : Int) % 2 = ((s / 2 ^ k % 2 : Nat) : Int) := by rw [Int.natCast_emod, Int.natCast_ediv]; rfl
    rw [e, this]; split <;> rfl
  have hqb : 0 ≤ (s : Int) / ((2 ^ k : Nat) : Int) ∧ (s : Int) / ((2 ^ k : Nat) : Int) ≤ 1000000 := by
    have e : (s : Int) / ((2 ^ k : Nat) : Int) = ((s / 2 ^ k : Nat) : Int) := (Int.natCast_ediv _ _).symm
    have := Nat.div_le_self s (2 ^ k)
    rw [e]; exact ⟨Int.natCast_nonneg _, Int.ofNat_le.2 (Nat.le_trans this hs)⟩
  generalize hp : (2 ^ k : Nat) = p at *
  cases ht : s.testBit k
  all_goals
    rw [ht] at hq
    go_enter Tryd.func33, Tryd.ntmps33
    go_wp2_with (go_at_call 58; refine H1.out.mono ?_; rintro e w1 ⟨rfl, hM⟩; have HM := Hold.mk hM; clear hM)
    go_ret
    exact ⟨rfl, HM.out⟩

set_option maxRecDepth 100000 in
set_option maxHeartbeats 2000000 in
theorem refStints_any (B : Nat) (lo : Option Addr) (lcap : Nat) (l : List (Int × Int)) (w : World) (hB : B ≤ w.heap.size) (hs : StintsAt B w lo l) :
    Calls Tryd.prog 28 #[.slice lo l.length lcap] w fun e w' => e = .returned (.bool (stintsB l)) ∧ Mod noB w w' := by
  have hsm := hs.small
  have HS := Hold.mk (And.intro hs hB)
  clear hs hB
  go_enter Tryd.func28, Tryd.ntmps28
  go_wp2
  go_loopw [3] (fun i wr => ∃ k : Nat, k ≤ l.length ∧ i = .int .i64 k ∧ (∀ j x, j < k → l[j]? = some x → stintB x = true) ∧ Mod noB w wr) (fun i _ => l.length - (intOf i).toNat)
  case atStart => exact ⟨0, Nat.zero_le _, rfl, fun j x hj => absurd hj (Nat.not_lt_zero _), Mod.refl _ _⟩
  case round =>
    obtain ⟨k, hk, rfl, hall, hm⟩ := hrel
    have HA := Hold.mk hall
    have HM := Hold.mk hm
    clear hall
    by_cases hlt : k < l.length
    · obtain ⟨x, hx⟩ : ∃ x, l[k]? = some x := ⟨_, List.getElem?_eq_getElem hlt⟩
      obtain ⟨b, off, rfl, hb, q0, q1⟩ := (HS.out.1.low (Low.ofN hm HS.out.2)).stint hx
      have HX := Hold.mk hx
      have HBAD : Hold (stintB x = false → stintsB l = false) := ⟨fun h => by
        have : l.all stintB = false := by
          rw [List.all_eq_false]
          exact ⟨_, List.mem_of_getElem? HX.out, by simp [h]⟩
        simp [stintsB, this]⟩
      obtain ⟨s, m⟩ := x
      clear hx hm hb
      cases h1 : fromB 1 1000 s with
      | false =>
        have HD : Hold (stintsB l = false) := ⟨HBAD.out (by simp [stintB, h1])⟩
        go_wp2_with (go_at_call 43; refine (refIn_any _ _ _ _).mono ?_; rintro e w1 ⟨rfl, rfl⟩)
        go_ret
        exact ⟨by rw [HD.out]; rfl, HM.out⟩
      | true =>
        cases h2 : fromB 0 100000 m with
        | false =>
          have HD : Hold (stintsB l = false) := ⟨HBAD.out (by simp [stintB, h2])⟩
          go_wp2_with (go_at_call 43; refine (refIn_any _ _ _ _).mono ?_; rintro e w1 ⟨rfl, rfl⟩)
          go_ret
          exact ⟨by rw [HD.out]; rfl, HM.out⟩
        | true =>
          have HD : Hold (stintB (s, m) = true) := ⟨by simp [stintB, h1, h2]⟩
          go_wp2_with (go_at_call 43; refine (refIn_any _ _ _ _).mono ?_; rintro e w1 ⟨rfl, rfl⟩)
          go_roundw
          case rel => exact ⟨k + 1, by omega, by go_num, fun j y hj hy => by
            rcases Nat.lt_succ_iff_lt_or_eq.1 hj with h | rfl
            · exact HA.out j y h hy
            · rw [HX.out] at hy; cases hy; exact HD.out, HM.out⟩
          case measure => simp [intOf]; omega
    · obtain rfl : k = l.length := by omega
      have HD : Hold (stintsB l = decide ((l.length : Int) ≤ 7)) := ⟨by
        have : l.all stintB = true := List.all_eq_true.2 fun x hx => by
          obtain ⟨j, hj, he⟩ := List.getElem_of_mem hx
          exact HA.out j x hj (by rw [List.getElem?_eq_getElem hj, he])
        simp [stintsB, this]⟩
      go_wp2
      go_ret
      exact ⟨by rw [HD.out]; rfl, HM.out⟩

def checkE (d : Dye) (l : List (Int × Int)) : Int := if dieB d = false then 1 else if stintsB l = false then 2 else 0
set_option maxRecDepth 100000 in
set_option maxHeartbeats 2000000 in
theorem check_any (B : Nat) (ao : Option Addr) (cap : Nat) (d : Dye) (lo : Option Addr) (lcap : Nat) (l : List (Int × Int)) (w : World) (hI : InB B w ao d lo l) :
    Calls Tryd.prog 53 #[dyV ao d.bl.length cap d, .slice lo l.length lcap] w fun e w' => e = .returned (.int .i64 (checkE d l)) ∧ Mod noB w w' := by
  have hsm := hI.bl.small
  have hsm2 := hI.st.small
  have HF := Hold.mk (show Kept (w.alloc (.cells (dyC ao d.bl.length cap d) 24)) (fun W => (W.heap[w.heap.size]? = some (.cells (dyC ao d.bl.length cap d) 24) ∧ B ≤ W.heap.size ∧ BladesAt B W ao d.bl ∧ StintsAt B W lo l) ∧ Mod noB w W) from fun W h => by
    have hm := ((Mod.refl noB w).alloc _).trans h
    exact ⟨⟨h.at (World.alloc_heap_new w _) id, Nat.le_trans hI.le hm.size, hI.bl.low (Low.ofN hm hI.le), hI.st.low (Low.ofN hm hI.le)⟩, hm⟩)
  have H27 : Hold (∀ W, B ≤ W.heap.size → BladesAt B W ao d.bl → Calls Tryd.prog 27 #[dyV ao d.bl.length cap d] W fun e w' => e = .returned (.bool (dieB d)) ∧ Mod noB W w') := ⟨fun W h1 h2 => refDie_any B ao cap d W h1 h2⟩
  have H28 : Hold (∀ W, B ≤ W.heap.size → StintsAt B W lo l → Calls Tryd.prog 28 #[.slice lo l.length lcap] W fun e w' => e = .returned (.bool (stintsB l)) ∧ Mod noB W w') := ⟨fun W h1 h2 => refStints_any B lo lcap l W h1 h2⟩
  have HC : Hold (checkE d l = if dieB d = false then 1 else if stintsB l = false then 2 else 0) := ⟨rfl⟩
  clear hI
  generalize dieB d = x at *
  generalize stintsB l = y at *
  generalize checkE d l = z at *
  cases x <;> cases y
  all_goals
    go_enter Tryd.func53, Tryd.ntmps53
    go_wp2_with (first
      | (refine wpList_load_row rfl 24 (.tmp 2) rfl w.heap.size rfl 24 _ (0, 0) _ HF.out.now.1.1 Tryd.underlying24 rfl info24 ?_)
      | (go_at_call 27; have hh := HF.out.now.1.2; refine (H27.out _ hh.1 hh.2.1).mono ?_; clear hh; rintro e w1 ⟨rfl, hM⟩; have HF1 := Hold.mk (HF.out.later hM); clear hM)
      | (go_at_call 28; have hh := HF1.out.now.1.2; refine (H28.out _ hh.1 hh.2.2).mono ?_; clear hh; rintro e w2 ⟨rfl, hM⟩; have HF1 := Hold.mk (HF1.out.later hM); clear hM))
    go_ret
    exact ⟨by rw [HC.out]; rfl, HF1.out.now.2⟩
end Go.Proofs.YtdncppempgpooaaDoor

/- The document's side: At, Cells, Greatest. -/
import Derived.Test.YtogalmkeipigeaaCheck
set_option linter.unusedSimpArgs false
set_option linter.unusedVariables false
namespace Go.Proofs.Ytogalmkeipigeaa
open Go.RowKit

theorem in_is (n lo hi : Int) (b : Bool) (h : (decide (lo ≤ n) && decide (n ≤ hi)) = b) (w : World) :
    Calls Try.prog 59 #[.int .i64 n, .int .i64 lo, .int .i64 hi] w fun e w' => e = .returned (.bool b) ∧ w = w' := by rw [← h]; exact in_any n lo hi w

set_option maxRecDepth 100000 in
set_option maxHeartbeats 1000000 in
theorem refCells_any (W H : Int) (ao : Option Addr) (zs : List Int) (cap : Nat) (n : Int) (w : World) (hs : IntsAt w ao zs) :
    Calls Try.prog 31 #[cutV W H ao zs.length cap, .int .i64 n] w fun e w' => e = .returned (.int .i64 ((zs.count n : Nat) : Int)) ∧ Mod noB w w' := by
  have hsm := hs.small
  have HI := Hold.mk (hs.alloc (.cells #[.int .i64 W, .int .i64 H, .slice ao zs.length cap] 24))
  clear hs
  go_enter Try.func31, Try.ntmps31
  go_wp2
  go_loop [5, 6] (fun c i => ∃ k : Nat, k ≤ zs.length ∧ i = .int .i64 k ∧ c = .int .i64 (((zs.take k).count n : Nat) : Int)) (fun _ i => zs.length - (intOf i).toNat)
  case atStart => exact ⟨0, Nat.zero_le _, rfl, by simp⟩
  case round =>
    obtain ⟨k, hk, rfl, rfl⟩ := hrel
    by_cases hlt : k < zs.length
    · obtain ⟨b, off, rfl, _, hc⟩ := HI.out.lies (fun e => by simp [e] at hlt)
      obtain ⟨z, hz⟩ : ∃ z, z = zs[k]?.getD 0 := ⟨_, rfl⟩
      have hcell := hc k hlt
      rw [← hz] at hcell
      have HT : Hold (((zs.take (k + 1)).count n : Nat) = (zs.take k).count n + if z = n then 1 else 0) := ⟨by
        rw [take_snoc hlt, List.count_append, ← hz]
        by_cases e : z = n
        · subst e; simp
        · simp [e]⟩
      have hle : (((zs.take k).count n : Nat) : Int) ≤ 1000000 := by
        have h1 : (zs.take k).count n ≤ (zs.take k).length := List.count_le_length
        have h2 : (zs.take k).length ≤ k := List.length_take_le _ _
        omega
      have hge : (0 : Int) ≤ (((zs.take k).count n : Nat) : Int) := Int.natCast_nonneg _
      clear hc hz
      generalize (zs.take k).count n = c at *
      by_cases hx : z = n
      · have hb : (z == n) = true := by simpa using hx
        have HX := Hold.mk hx
        clear hx
        go_wp2
        go_round
        case rel => exact ⟨k + 1, by omega, by go_num, by rw [HT.out, if_pos HX.out]; go_num⟩
        case measure => simp [intOf]; omega
      · have hb : (z == n) = false := by simpa using hx
        have HX := Hold.mk hx
        clear hx
        go_wp2
        go_round
        case rel => exact ⟨k + 1, by omega, by go_num, by rw [HT.out, if_neg HX.out]; rfl⟩
        case measure => simp [intOf]; omega
    · obtain rfl : k = zs.length := by omega
      go_wp2
      go_ret
      exact ⟨ret_i64 (by simp), (Mod.refl _ _).alloc _⟩

set_option maxRecDepth 100000 in
set_option maxHeartbeats 1000000 in
theorem refGreatest_any (W H : Int) (ao : Option Addr) (zs : List Int) (cap : Nat) (w : World) (hs : IntsAt w ao zs) :
    Calls Try.prog 44 #[cutV W H ao zs.length cap] w fun e w' => e = .returned (.int .i64 (greatest zs)) ∧ Mod noB w w' := by
  have hsm := hs.small
  have HI := Hold.mk (hs.alloc (.cells #[.int .i64 W, .int .i64 H, .slice ao zs.length cap] 24))
  clear hs
  go_enter Try.func44, Try.ntmps44
  go_wp2
  go_loop [3, 4] (fun c i => ∃ k : Nat, k ≤ zs.length ∧ i = .int .i64 k ∧ c = .int .i64 (greatest (zs.take k))) (fun _ i => zs.length - (intOf i).toNat)
  case atStart => exact ⟨0, Nat.zero_le _, rfl, by simp [greatest]⟩
  case round =>
    obtain ⟨k, hk, rfl, rfl⟩ := hrel
    by_cases hlt : k < zs.length
    · obtain ⟨b, off, rfl, _, hc⟩ := HI.out.lies (fun e => by simp [e] at hlt)
      obtain ⟨z, hz⟩ : ∃ z, z = zs[k]?.getD 0 := ⟨_, rfl⟩
      have hcell := hc k hlt
      rw [← hz] at hcell
      have HT : Hold (greatest (zs.take (k + 1)) = max (greatest (zs.take k)) z) := ⟨by rw [take_snoc hlt, greatest_snoc, hz]⟩
      clear hc hz
      generalize greatest (zs.take k) = c at *
      go_wp2
      go_round
      case rel =>
        refine ⟨k + 1, by omega, by go_num, ?_⟩
        rw [HT.out]
        congr 1
        split <;> omega
      case measure => simp [intOf]; omega
    · obtain rfl : k = zs.length := by omega
      go_wp2
      go_ret
      exact ⟨ret_i64 (by simp), (Mod.refl _ _).alloc _⟩

set_option maxRecDepth 100000 in
set_option maxHeartbeats 1000000 in
theorem refAt_any {W H : Nat} {zs : List Int} (C : CutN W H zs) (ao : Option Addr) (cap : Nat) (x y : Int) (hx : -1000 ≤ x ∧ x ≤ 1000) (hy : -1000 ≤ y ∧ y ≤ 1000) (w : World) (hs : IntsAt w ao zs) :
    Calls Try.prog 34 #[cutV W H ao zs.length cap, .int .i64 x, .int .i64 y] w fun e w' => e = .returned (.int .i64 (atG (laidG W zs zs.length) (x, y))) ∧ Mod noB w w' := by
  have HI := Hold.mk (hs.alloc (.cells #[.int .i64 W, .int .i64 H, .slice ao zs.length cap] 24))
  have HC := Hold.mk C
  have w1 := C.w1
  have w2 := C.w2
  have h1 := C.h1
  have h2 := C.h2
  obtain ⟨hx1, hx2⟩ := hx
  obtain ⟨hy1, hy2⟩ := hy
  clear hs C
  by_cases c1 : 0 ≤ x ∧ x < W
  · obtain ⟨a1, a2⟩ := c1
    have Hin := Hold.mk (in_is x 0 ((W : Int) - 1) true (by simp; omega))
    by_cases c2 : 0 ≤ y ∧ y < H
    · obtain ⟨a3, a4⟩ := c2
      have Hin2 := Hold.mk (in_is y 0 ((H : Int) - 1) true (by simp; omega))
      obtain ⟨x, rfl⟩ := Int.eq_ofNat_of_zero_le a1
      obtain ⟨y, rfl⟩ := Int.eq_ofNat_of_zero_le a3
      have hlt : y * W + x < zs.length := by
        have : (y + 1) * W ≤ H * W := Nat.mul_le_mul_right _ (by omega)
        rw [Nat.succ_mul, Nat.mul_comm H W] at this
        rw [HC.out.len]
        omega
      have hsm := HI.out.small
      obtain ⟨b, off, rfl, _, hc⟩ := HI.out.lies (fun e => by simp [e] at hlt)
      have hcell := hc (y * W + x) hlt
      have HG : Hold (atG (laidG W zs zs.length) ((x : Int), (y : Int)) = zs[y * W + x]?.getD 0) := ⟨by
        unfold atG laidG
        simp only [Int.toNat_natCast]
        rw [if_pos ⟨by omega, a2, by omega, hlt⟩]; rfl⟩
      rw [HG.out]
      generalize zs[y * W + x]?.getD 0 = z at hcell
      have m1 : (0 : Int) ≤ (y : Int) * (W : Int) := Int.mul_nonneg (by omega) (by omega)
      have m2 : (y : Int) * (W : Int) + (x : Int) < (zs.length : Int) := by exact_mod_cast hlt
      clear hc a1 a3
      go_enter Try.func34, Try.ntmps34
      go_wp2_with (first
        | (go_at_call 59; refine (Hin.out _).mono ?_; rintro e w' ⟨rfl, rfl⟩; clear Hin)
        | (go_at_call 59; refine (Hin2.out _).mono ?_; rintro e w' ⟨rfl, rfl⟩))
      go_ret
      exact ⟨rfl, (Mod.refl _ _).alloc _⟩
    · have Hin2 := Hold.mk (in_is y 0 ((H : Int) - 1) false (by simp; omega))
      have HG : Hold (atG (laidG W zs zs.length) (x, y) = -1) := ⟨by unfold atG; rw [HC.out.grid.out (x, y) (fun h => c2 ⟨h.2.2.1, h.2.2.2⟩)]; rfl⟩
      rw [HG.out]
      clear c2
      go_enter Try.func34, Try.ntmps34
      go_wp2_with (first
        | (go_at_call 59; refine (Hin.out _).mono ?_; rintro e w' ⟨rfl, rfl⟩; clear Hin)
        | (go_at_call 59; refine (Hin2.out _).mono ?_; rintro e w' ⟨rfl, rfl⟩))
      go_ret
      exact ⟨rfl, (Mod.refl _ _).alloc _⟩
  · have Hin := Hold.mk (in_is x 0 ((W : Int) - 1) false (by simp; omega))
    have HG : Hold (atG (laidG W zs zs.length) (x, y) = -1) := ⟨by unfold atG; rw [HC.out.grid.out (x, y) (fun h => c1 ⟨h.1, h.2.1⟩)]; rfl⟩
    rw [HG.out]
    clear c1
    go_enter Try.func34, Try.ntmps34
    go_wp2_with (go_at_call 59; refine (Hin.out _).mono ?_; rintro e w' ⟨rfl, rfl⟩; clear Hin)
    go_ret
    exact ⟨rfl, (Mod.refl _ _).alloc _⟩
end Go.Proofs.Ytogalmkeipigeaa

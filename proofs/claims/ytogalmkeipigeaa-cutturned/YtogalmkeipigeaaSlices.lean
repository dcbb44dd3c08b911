/- The functions of package slices that cut calls, over slices of integers that are only read: Max, Index, IndexFunc, ContainsFunc. -/
import Derived.Test.YtogalmkeipigeaaLoop
import Derived.Test.YtogalmkeipigeaaMap
import Derived.Test.YtogalmkeipigeaaSmall
set_option linter.unusedSimpArgs false
set_option linter.unusedVariables false
namespace Go.Proofs.Ytogalmkeipigeaa
open Go.RowKit

/-- A slice's value reads as the integers zs, in memory. -/
structure IntsAt (w : World) (ao : Option Addr) (zs : List Int) : Prop where
  lies : zs ≠ [] → ∃ b off, ao = some ⟨b, off, none⟩ ∧ b < w.heap.size ∧ ∀ j, j < zs.length → w.cell? ⟨b, off + j, none⟩ = some (.int .i64 (zs[j]?.getD 0))
  small : zs.length ≤ 1000000

theorem IntsAt.mono {w w' : World} {ao : Option Addr} {zs : List Int} (h : IntsAt w ao zs) (hb : Below w.heap.size w w') : IntsAt w' ao zs :=
  ⟨fun hne => by obtain ⟨b, off, h1, h2, h3⟩ := h.lies hne; exact ⟨b, off, h1, Nat.lt_of_lt_of_le h2 hb.size, fun j hj => (hb.cell (p := ⟨b, off + j, none⟩) h2).trans (h3 j hj)⟩, h.small⟩

/-- The first index of an element that is p, or -1. -/
def idxOf (p : Int → Bool) (zs : List Int) : Int := match zs.findIdx? p with | some i => i | none => -1

theorem idxOf_at {p : Int → Bool} {zs : List Int} {k : Nat} (hk : k < zs.length) (h1 : p (zs[k]?.getD 0) = true) (h0 : ∀ j, j < k → p (zs[j]?.getD 0) = false) : idxOf p zs = k := by
  have : zs.findIdx? p = some k := by
    rw [List.findIdx?_eq_some_iff_getElem]
    refine ⟨hk, by simpa [hk] using h1, fun j hj => ?_⟩
    have := h0 j hj
    simp [show j < zs.length by omega] at this
    simp [this]
  simp [idxOf, this]
theorem idxOf_none {p : Int → Bool} {zs : List Int} (h0 : ∀ j, j < zs.length → p (zs[j]?.getD 0) = false) : idxOf p zs = -1 := by
  have : zs.findIdx? p = none := by
    rw [List.findIdx?_eq_none_iff]
    intro x hx
    obtain ⟨j, hj⟩ := List.mem_iff_getElem?.1 hx
    have hlt := (List.getElem?_eq_some_iff.1 hj).1
    have := h0 j hlt
    rw [hj] at this
    exact this
  simp [idxOf, this]

theorem ret_i64 {a b : Int} (h : a = b) : Ending.returned (.int .i64 a) = .returned (.int .i64 b) := by rw [h]

set_option maxHeartbeats 1000000 in
theorem index_any (ao : Option Addr) (zs : List Int) (cap : Nat) (x : Int) (w : World) (hs : IntsAt w ao zs) :
    Calls Try.prog 65 #[.slice ao zs.length cap, .int .i64 x] w fun e w' => e = .returned (.int .i64 (idxOf (fun z => x == z) zs)) ∧ w = w' := by
  have hsm := hs.small
  go_enter Try.func65, Try.ntmps65
  go_wp2
  go_loop [8] (fun i => ∃ k : Nat, k ≤ zs.length ∧ i = .int .i64 k ∧ ∀ j, j < k → (x == zs[j]?.getD 0) = false) (fun i => zs.length - (intOf i).toNat)
  case atStart => exact ⟨0, Nat.zero_le _, rfl, fun j hj => absurd hj (Nat.not_lt_zero _)⟩
  case round =>
    obtain ⟨k, hk, rfl, h0⟩ := hrel
    have H0 := Hold.mk h0
    clear h0
    by_cases hlt : k < zs.length
    · obtain ⟨b, off, rfl, _, hc⟩ := hs.lies (fun e => by simp [e] at hlt)
      obtain ⟨z, hz⟩ : ∃ z, z = zs[k]?.getD 0 := ⟨_, rfl⟩
      have hcell := hc k hlt
      rw [← hz] at hcell
      have Hz := Hold.mk hz
      clear hc hz
      by_cases hx : (x == z) = true
      · go_wp2
        go_ret
        exact ⟨ret_i64 (idxOf_at hlt (by rw [← Hz.out]; exact hx) H0.out).symm, rfl⟩
      · have hx' : (x == z) = false := by simpa using hx
        clear hx
        go_wp2
        go_round
        case rel => exact ⟨k + 1, by omega, by go_num, fun j hj => by
          rcases Nat.lt_succ_iff_lt_or_eq.1 hj with h | rfl
          · exact H0.out j h
          · rw [← Hz.out]; exact hx'⟩
        case measure => simp [intOf]; omega
    · obtain rfl : k = zs.length := by omega
      go_wp2
      go_ret
      exact ⟨ret_i64 (idxOf_none H0.out).symm, rfl⟩

set_option maxHeartbeats 1000000 in
theorem indexFunc_any (ao : Option Addr) (zs : List Int) (cap : Nat) (fn : Nat) (f : Int → Bool) (w : World) (hs : IntsAt w ao zs)
    (eg : ∀ args w, (callFunc fn args).run Try.prog w = .ok (.enter fn args) w)
    (hf : ∀ n : Int, Calls Try.prog fn #[.int .i64 n] w fun e w' => e = .returned (.bool (f n)) ∧ w = w') :
    Calls Try.prog 66 #[.slice ao zs.length cap, .func (.func fn) #[] #[]] w fun e w' => e = .returned (.int .i64 (idxOf f zs)) ∧ w = w' := by
  have hsm := hs.small
  have HF := Hold.mk hf
  clear hf
  go_enter Try.func66, Try.ntmps66
  go_wp2
  go_loop [8] (fun i => ∃ k : Nat, k ≤ zs.length ∧ i = .int .i64 k ∧ ∀ j, j < k → f (zs[j]?.getD 0) = false) (fun i => zs.length - (intOf i).toNat)
  case atStart => exact ⟨0, Nat.zero_le _, rfl, fun j hj => absurd hj (Nat.not_lt_zero _)⟩
  case round =>
    obtain ⟨k, hk, rfl, h0⟩ := hrel
    have H0 := Hold.mk h0
    clear h0
    by_cases hlt : k < zs.length
    · obtain ⟨b, off, rfl, _, hc⟩ := hs.lies (fun e => by simp [e] at hlt)
      obtain ⟨z, hz⟩ : ∃ z, z = zs[k]?.getD 0 := ⟨_, rfl⟩
      have hcell := hc k hlt
      rw [← hz] at hcell
      have Hz := Hold.mk hz
      clear hc hz
      cases hx : f z with
      | true =>
        have Hx := Hold.mk hx
        go_wp2_with (refine (HF.out _).mono ?_; rintro e w' ⟨rfl, rfl⟩)
        go_ret
        exact ⟨ret_i64 (idxOf_at hlt (by rw [← Hz.out]; exact Hx.out) H0.out).symm, rfl⟩
      | false =>
        have Hx := Hold.mk hx
        go_wp2_with (refine (HF.out _).mono ?_; rintro e w' ⟨rfl, rfl⟩)
        go_round
        case rel => exact ⟨k + 1, by omega, by go_num, fun j hj => by
          rcases Nat.lt_succ_iff_lt_or_eq.1 hj with h | rfl
          · exact H0.out j h
          · rw [← Hz.out]; exact Hx.out⟩
        case measure => simp [intOf]; omega
    · obtain rfl : k = zs.length := by omega
      go_wp2
      go_ret
      exact ⟨ret_i64 (idxOf_none H0.out).symm, rfl⟩

theorem enter61 : ∀ args w, (callFunc 61 args).run Try.prog w = .ok (.enter 61 args) w := enters_of Try.func61 (by kernel_rfl) rfl
theorem enter67 : ∀ args w, (callFunc 67 args).run Try.prog w = .ok (.enter 67 args) w := enters_of Try.func67 (by kernel_rfl) rfl

set_option maxHeartbeats 1000000 in
theorem containsFunc_any (ao : Option Addr) (zs : List Int) (cap : Nat) (fn : Nat) (f : Int → Bool) (w : World) (hs : IntsAt w ao zs)
    (eg : ∀ args w, (callFunc fn args).run Try.prog w = .ok (.enter fn args) w)
    (hf : ∀ n : Int, Calls Try.prog fn #[.int .i64 n] w fun e w' => e = .returned (.bool (f n)) ∧ w = w') :
    Calls Try.prog 62 #[.slice ao zs.length cap, .func (.func fn) #[] #[]] w fun e w' => e = .returned (.bool (zs.any f)) ∧ w = w' := by
  have HI := Hold.mk (indexFunc_any ao zs cap fn f w hs eg hf)
  clear hf
  have hany : decide (0 ≤ idxOf f zs) = zs.any f := by
    cases h : zs.findIdx? f with
    | none =>
      rw [List.findIdx?_eq_none_iff] at h
      have : zs.any f = false := by simpa using h
      simp [idxOf, List.findIdx?_eq_none_iff.2 h, this]
    | some i =>
      have h2 := (List.findIdx?_eq_some_iff_getElem.1 h)
      obtain ⟨hi, hp, _⟩ := h2
      have : zs.any f = true := by simp only [List.any_eq_true]; exact ⟨_, List.getElem_mem hi, hp⟩
      simp [idxOf, h, this]
  have HA := Hold.mk hany
  clear hany
  obtain ⟨i, hi⟩ : ∃ i, idxOf f zs = i := ⟨_, rfl⟩
  have Hi := Hold.mk hi
  rw [hi] at HI HA
  clear hi
  go_enter Try.func62, Try.ntmps62
  go_wp2_with (go_at_call 66; refine HI.out.mono ?_; rintro e w' ⟨rfl, rfl⟩)
  go_ret
  exact ⟨by rw [← HA.out]; rfl, rfl⟩

/-- The greatest of numbers none of which is less than 0. -/
def greatest (zs : List Int) : Int := zs.foldl max 0

theorem greatest_snoc (zs : List Int) (z : Int) : greatest (zs ++ [z]) = max (greatest zs) z := by simp [greatest]
theorem greatest_nonneg (zs : List Int) : 0 ≤ greatest zs := by
  unfold greatest
  suffices h : ∀ (l : List Int) (a : Int), 0 ≤ a → 0 ≤ l.foldl max a from h zs 0 (by omega)
  intro l
  induction l with
  | nil => exact fun a h => h
  | cons x l ih => exact fun a h => ih _ (by omega)
theorem take_snoc {zs : List Int} {k : Nat} (h : k < zs.length) : zs.take (k + 1) = zs.take k ++ [zs[k]?.getD 0] := by
  rw [List.take_succ_eq_append_getElem h]; simp [h]

set_option maxHeartbeats 1000000 in
theorem max_any (ao : Option Addr) (zs : List Int) (cap : Nat) (w : World) (hs : IntsAt w ao zs) (h0 : ∀ z ∈ zs, 0 ≤ z) (hne : zs ≠ []) :
    Calls Try.prog 63 #[.slice ao zs.length cap] w fun e w' => e = .returned (.int .i64 (greatest zs)) ∧ w = w' := by
  have hsm := hs.small
  have hpos : 1 ≤ zs.length := by cases zs with | nil => exact absurd rfl hne | cons a l => simp
  obtain ⟨b, off, rfl, _, hc⟩ := hs.lies hne
  have hc0 := hc 0 hpos
  obtain ⟨z0, hz0⟩ : ∃ z, z = zs[0]?.getD 0 := ⟨_, rfl⟩
  rw [← hz0, Nat.add_zero] at hc0
  have Hz0 := Hold.mk hz0
  have hz0m : z0 ∈ zs := by rw [hz0, List.getElem?_eq_getElem hpos]; exact List.getElem_mem hpos
  have hz0pos : 0 ≤ z0 := h0 _ hz0m
  have HC := Hold.mk hc
  have HP := Hold.mk h0
  have hg1 : greatest (zs.take 1) = z0 := by
    rw [take_snoc hpos, ← hz0]
    simp only [greatest, List.take_zero, List.nil_append, List.foldl_cons, List.foldl_nil]
    omega
  have HG := Hold.mk hg1
  clear hc hz0 h0 hs hg1 hz0m
  go_enter Try.func63, Try.ntmps63
  go_wp2
  go_loop [3, 4] (fun m i => ∃ k : Nat, 1 ≤ k ∧ k ≤ zs.length ∧ i = .int .i64 k ∧ m = .int .i64 (greatest (zs.take k))) (fun _ i => zs.length - (intOf i).toNat)
  case atStart => exact ⟨1, by omega, hpos, rfl, by rw [HG.out]⟩
  case round =>
    obtain ⟨k, hk1, hk, rfl, rfl⟩ := hrel
    by_cases hlt : k < zs.length
    · obtain ⟨z, hz⟩ : ∃ z, z = zs[k]?.getD 0 := ⟨_, rfl⟩
      have hcell := HC.out k hlt
      rw [← hz] at hcell
      have Hg : Hold (greatest (zs.take (k + 1)) = max (greatest (zs.take k)) z) := ⟨by rw [take_snoc hlt, greatest_snoc, hz]⟩
      clear hz
      generalize greatest (zs.take k) = m at *
      go_wp2
      go_round
      case rel =>
        refine ⟨k + 1, by omega, by omega, by go_num, ?_⟩
        rw [Hg.out]
        congr 1
        split <;> omega
      case measure => simp [intOf]; omega
    · obtain rfl : k = zs.length := by omega
      go_wp2
      go_ret
      exact ⟨ret_i64 (by simp), rfl⟩

theorem index_n (n : Nat) (ao : Option Addr) (zs : List Int) (cap : Nat) (x : Int) (w : World) (hs : IntsAt w ao zs) (hn : zs.length = n) :
    Calls Try.prog 65 #[.slice ao n cap, .int .i64 x] w fun e w' => e = .returned (.int .i64 (idxOf (fun z => x == z) zs)) ∧ w = w' := by
  subst hn; exact index_any ao zs cap x w hs
theorem indexFunc_n (n : Nat) (ao : Option Addr) (zs : List Int) (cap : Nat) (fn : Nat) (f : Int → Bool) (w : World) (hs : IntsAt w ao zs) (hn : zs.length = n)
    (eg : ∀ args w, (callFunc fn args).run Try.prog w = .ok (.enter fn args) w)
    (hf : ∀ n : Int, Calls Try.prog fn #[.int .i64 n] w fun e w' => e = .returned (.bool (f n)) ∧ w = w') :
    Calls Try.prog 66 #[.slice ao n cap, .func (.func fn) #[] #[]] w fun e w' => e = .returned (.int .i64 (idxOf f zs)) ∧ w = w' := by
  subst hn; exact indexFunc_any ao zs cap fn f w hs eg hf
theorem idxOf_bounds (p : Int → Bool) (zs : List Int) : -1 ≤ idxOf p zs ∧ idxOf p zs < zs.length := by
  unfold idxOf
  split
  · rename_i i h
    have := (List.findIdx?_eq_some_iff_getElem.1 h).1
    omega
  · omega

end Go.Proofs.Ytogalmkeipigeaa

/- costOf. -/
import Derived.Test.YtknbcmildpmokaaSdB
set_option linter.unusedSimpArgs false
set_option linter.unusedVariables false
namespace Go.Proofs.Ytknbcmildpmokaa
open Go.RowKit Go.Shelf Go.Maps


theorem inB_bit (s i : Nat) : inB (s : Int) i = s.testBit i := by
  rw [Nat.testBit_eq_decide_div_mod_eq]
  unfold inB
  have e : (s : Int) / 2 ^ i = ((s / 2 ^ i : Nat) : Int) := by simp
  rw [e]
  by_cases h : s / 2 ^ i % 2 = 1
  · rw [decide_eq_true h, beq_iff_eq]; omega
  · rw [decide_eq_false h, beq_eq_false_iff_ne]; omega
theorem costS_snoc (set : Nat) (t : Tst) : ∀ (ts : List Tst) (i : Nat), costS set i (ts ++ [t]) = costS set i ts + (if set.testBit (i + ts.length) then t.cost else 0) := by
  intro ts
  induction ts with
  | nil => intro i; simp [costS]
  | cons s ts ih =>
    intro i
    rw [List.cons_append, costS, costS, ih, List.length_cons]
    have : i + 1 + ts.length = i + (ts.length + 1) := by omega
    rw [this]; omega
theorem costS_bd (set : Nat) : ∀ (ts : List Tst) (i : Nat), (∀ t ∈ ts, 0 ≤ t.cost ∧ t.cost ≤ 10000) → 0 ≤ costS set i ts ∧ costS set i ts ≤ 10000 * ts.length := by
  intro ts
  induction ts with
  | nil => intro i _; simp [costS]
  | cons s ts ih =>
    intro i h
    have h1 := ih (i + 1) (fun t ht => h t (by simp [ht]))
    have h2 := h s (by simp)
    rw [costS, List.length_cons]
    split <;> constructor <;> omega
def costT (set : Nat) (ts : List Tst) (k : Nat) : Int := costS set 0 (ts.take k)
theorem costT_next {set : Nat} {ts : List Tst} {k : Nat} {t : Tst} (h : ts[k]? = some t) : costT set ts (k + 1) = costT set ts k + (if inB (set : Int) k then t.cost else 0) := by
  have hk := (List.getElem?_eq_some_iff.1 h).1
  unfold costT
  rw [take_snoc' h, costS_snoc, List.length_take, Nat.min_eq_left (by omega), Nat.zero_add, inB_bit]
theorem costT_all (set : Nat) (ts : List Tst) : costT set ts ts.length = costS set 0 ts := by rw [costT, List.take_length]
theorem costT_bd (set : Nat) (ts : List Tst) (k : Nat) (h8 : ts.length ≤ 8) (h : ∀ t ∈ ts, 0 ≤ t.cost ∧ t.cost ≤ 10000) : 0 ≤ costT set ts k ∧ costT set ts k ≤ 80000 := by
  have := costS_bd set (ts.take k) 0 (fun t ht => h t (List.mem_of_mem_take ht))
  have hl : (ts.take k).length ≤ 8 := by rw [List.length_take]; omega
  unfold costT; omega

set_option maxRecDepth 100000 in
set_option maxHeartbeats 4000000 in
theorem costOf_any (B : Nat) (to : Option Addr) (tcap : Nat) (ts : List Tst) (set : Nat) (w : World) (hB : B ≤ w.heap.size) (h8 : ts.length ≤ 8) (hc : ∀ t ∈ ts, 0 ≤ t.cost ∧ t.cost ≤ 10000) (hset : set < 256) (hr : TestsAt B w to ts) :
    Calls Try.prog 77 #[.slice to ts.length tcap, .int .i64 (set : Int)] w fun e w' => e = .returned (.int .i64 (costS set 0 ts)) ∧ Mod noB w w' := by
  have HR := Hold.mk (And.intro hr hB)
  have HC := Hold.mk hc
  have hs0 : (0 : Int) ≤ (set : Int) := by omega
  have hs1 : (set : Int) < 1000000 := by omega
  clear hr hc hB
  go_enter Try.func77, Try.ntmps77
  go_wp2
  go_loopw [5, 10] (fun s i wr => ∃ k : Nat, k ≤ ts.length ∧ i = .int .i64 k ∧ s = .int .i64 (costT set ts k) ∧ Mod noB w wr) (fun _ i _ => ts.length - (intOf i).toNat)
  case atStart => exact ⟨0, Nat.zero_le _, rfl, rfl, Mod.refl _ _⟩
  case round =>
    obtain ⟨k, hk, rfl, rfl, hmr⟩ := hrel
    have HMM := Hold.mk hmr
    clear hmr
    by_cases hlt : k < ts.length
    · obtain ⟨t, hz⟩ : ∃ r, ts[k]? = some r := ⟨_, List.getElem?_eq_getElem hlt⟩
      obtain ⟨rb, roff, rfl, _, p0, p1, p2, p3, p4, p5, p6⟩ := (HR.out.1.low (Low.ofN HMM.out HR.out.2)).test hz
      have hcb := HC.out t (List.mem_of_getElem? hz)
      obtain ⟨hc1, hc2⟩ := hcb
      obtain ⟨W4, hW4⟩ : ∃ W4, wr.alloc (.cells #[.int .i64 t.how, .int .i64 t.kinds, .int .i64 t.err.1, .int .i64 t.err.2, .int .i64 t.pass.1, .int .i64 t.pass.2, .int .i64 t.cost] 29) = W4 := ⟨_, rfl⟩
      have hm4 : Mod noB wr W4 := by rw [← hW4]; exact (Mod.refl _ _).alloc _
      have hd4 : W4.heap[wr.heap.size]? = some (.cells (tsC t) 29) := by rw [← hW4]; exact World.alloc_heap_new _ _
      obtain ⟨t0, t1, t2, t3, t4, t5, t6⟩ := ts_cells hd4
      have HM4 := Hold.mk (HMM.out.trans hm4)
      have hbit := bit_and (s := (set : Int)) (y := k) hs0 hs1
      have hnx := costT_next (set := set) hz
      obtain ⟨hb1, hb2⟩ := costT_bd set ts k h8 HC.out
      have hk8 : (k : Int) < 8 := by omega
      obtain ⟨u, hu⟩ : ∃ u, costT set ts k = u := ⟨_, rfl⟩
      rw [hu] at hnx hb1 hb2
      (try rw [hu])
      clear hz hm4 hd4 hu
      cases hx : inB (set : Int) k with
      | true =>
        rw [hx, if_pos rfl] at hnx hbit
        have HNX := Hold.mk hnx
        clear hx hnx
        go_wp2_with (fail)
        (try rw [hW4])
        go_wp2
        go_roundw
        case rel => exact ⟨k + 1, by omega, by go_num, by rw [HNX.out], HM4.out⟩
        case measure => simp [intOf]; omega
      | false =>
        rw [hx, if_neg (by simp)] at hnx hbit
        have HNX := Hold.mk hnx
        clear hx hnx
        go_wp2_with (fail)
        (try rw [hW4])
        go_wp2
        go_roundw
        case rel => exact ⟨k + 1, by omega, by go_num, by rw [HNX.out, Int.add_zero], HM4.out⟩
        case measure => simp [intOf]; omega
    · obtain rfl : k = ts.length := by omega
      rw [costT_all]
      go_wp2
      go_ret
      exact ⟨rfl, HMM.out⟩

end Go.Proofs.Ytknbcmildpmokaa

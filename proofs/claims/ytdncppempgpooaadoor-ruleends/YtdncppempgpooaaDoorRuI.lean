/- The blades of a set: bits.TrailingZeros, the iterator bladesOf. -/
import Derived.Test.YtdncppempgpooaaDoorRuB
import Derived.Shelf.Spec.TrailingZeros
import Derived.Laws.BitsLemmas
set_option linter.unusedSimpArgs false
set_option linter.unusedVariables false
namespace Go.Proofs.YtdncppempgpooaaDoor
open Go.RowKit Go.Shelf
attribute [local go_sem] Oper.semAt_some

/-- The library's table lies in its variable. -/
structure Tab (w : World) : Prop where
  at_ : ∀ j, j < 64 → w.cell? ⟨1, j, none⟩ = some (.int .u8 (Lib.deBruijn64tab.getD j 0))
theorem Tab.same {w w' : World} (h : Tab w) (hm : w'.heap[1]? = w.heap[1]?) : Tab w' := ⟨fun j hj => (cell_same hm _).trans (h.at_ j hj)⟩
theorem Tab.low {B : Nat} {w w' : World} (h : Tab w) (hB : 1 < B) (hm : Low B w w') : Tab w' := h.same (hm.2 1 hB)

set_option maxHeartbeats 1000000 in
theorem tz64_core (x k idx : Nat) (w : World) (hx0 : ((x : Int) == 0) = false)
    (key : IntKind.u64.wrap (bits BinOp.and IntKind.u64 (x : Int) (IntKind.u64.wrap (-(x : Int))) * 285870213051353865) / 288230376151711744 = (idx : Int))
    (hi : idx < 64) (hk : k < 64) (hcell : w.cell? ⟨1, idx, none⟩ = some (.int .u8 k)) :
    Calls Tryd.prog 84 #[.int .u64 x] w fun e w' => e = .returned (.int .i64 k) ∧ w' = w := by
  go_enter Tryd.func84, Tryd.ntmps84
  go_wp2_with (simp only [key])
  go_ret
  exact ⟨rfl, rfl⟩
theorem tz64_any (x : Nat) (h0 : x ≠ 0) (hx : x < 32) (w : World) (hT : Tab w) : Calls Tryd.prog 84 #[.int .u64 x] w fun e w' => e = .returned (.int .i64 (Lib.ctz 64 x)) ∧ w' = w := by
  obtain ⟨hlow, hk⟩ := Lib.lowest_bit 64 x h0 (by omega)
  obtain ⟨hi, htab⟩ := Lib.deBruijn64_at _ hk
  refine tz64_core x _ _ w (by simp; omega) (tz64_key x _ (by omega) h0 hlow) hi hk ?_
  rw [hT.at_ _ hi, htab]

set_option maxHeartbeats 400000 in
theorem tz_any (x : Nat) (h0 : x ≠ 0) (hx : x < 32) (w : World) (hT : Tab w) : Calls Tryd.prog 81 #[.int .u64 x] w fun e w' => e = .returned (.int .i64 (Lib.ctz 64 x)) ∧ w' = w := by
  have H := Hold.mk (tz64_any x h0 hx w hT)
  clear h0 hT
  generalize Lib.ctz 64 x = k at *
  go_enter Tryd.func81, Tryd.ntmps81
  go_wp2_with (go_at_call 84; refine H.out.mono ?_; rintro e w' ⟨rfl, rfl⟩)
  go_ret
  exact ⟨rfl, rfl⟩

/-- What is left of a set when the least blades are taken, one after the other. -/
def restOf (set : Nat) : Nat → Nat
  | 0 => set
  | m + 1 => restOf set m &&& (restOf set m - 1)
theorem rest_all : ∀ set : Fin 32, ∀ m : Fin 6, restOf set m < 32 ∧ (m.val < (bitsL set).length ↔ restOf set m ≠ 0) ∧ (m.val < (bitsL set).length → (bitsL set)[m.val]? = some (Lib.ctz 64 (restOf set m))) := by decide +kernel
theorem bits_len : ∀ set : Fin 32, (bitsL set).length ≤ 5 := by decide +kernel

theorem wraps_small : ∀ n : Int, 0 ≤ n → n < 2 ^ 5 → IntKind.i64.wrap n = n := fun n h0 h1 => IntWalk.i64_in n (by omega)
theorem and_rest (x : Nat) (hx : x < 32) (h0 : x ≠ 0) : bits BinOp.and IntKind.i64 (x : Int) ((x : Int) - 1) = ((x &&& (x - 1) : Nat) : Int) := by
  rw [show ((x : Int) - 1) = ((x - 1 : Nat) : Int) by omega]
  exact (bits_nat .i64 5 (by decide) wraps_small x (x - 1) (by omega) (by omega)).1

set_option maxRecDepth 100000 in
set_option maxHeartbeats 1000000 in
theorem blades_runs (b set : Nat) (w : World) (hset : set < 32) (hb : w.heap[b]? = some (.cells #[.int .i64 set] 3)) (hT : Tab w) :
    Runs Tryd.prog 80 #[.pointer (some ⟨b, 0, none⟩)] (fun k : Nat => .int .i64 k) (fun k => k = b ∨ k = 1) (bitsL set) w := by
  refine runs_of fun n l J Jx W hs hW hJ hJx hY h0 => ?_
  have hb0 : W.heap[b]? = some (.cells #[.int .i64 set] 3) := (hW b (.inl rfl)).trans hb
  have hT0 : Tab W := hT.same (hW 1 (.inr rfl))
  have h1 : (1 : Nat) < W.heap.size := World.block_lt_of_cell? _ _ (hT0.at_ 0 (by omega))
  clear hb hW hT
  refine callsIn_of_wp Tryd.func80 rfl trivial ?_ rfl
  simp only [Tryd.ntmps80, List.size_toArray, List.length_cons, List.length_nil, Nat.reduceAdd, Nat.reduceSub, Array.replicate_succ, Array.replicate_zero, List.push_toArray, List.append_toArray, List.nil_append, List.cons_append]
  have c1 := cellsAt hb0 0
  have HT := Hold.mk hT0
  have HB := Hold.mk hb0
  have HY := Hold.mk hY
  have hlen := bits_len ⟨set, hset⟩
  simp only at hlen
  have HS : Hold (∀ m, m ≤ 5 → restOf set m < 32 ∧ (m < (bitsL set).length ↔ restOf set m ≠ 0) ∧ (m < (bitsL set).length → (bitsL set)[m]? = some (Lib.ctz 64 (restOf set m)))) := ⟨fun m hm => rest_all ⟨set, hset⟩ ⟨m, by omega⟩⟩
  clear hT0 hb0 hY
  gi_wp2
  gi_loopw [3] (fun y wr => ∃ k : Nat, k ≤ (bitsL set).length ∧ y = .int .i64 (restOf set k) ∧ J k wr ∧ W.heap.size ≤ wr.heap.size ∧ wr.heap[1]? = W.heap[1]?)
    (fun y _ => (intOf y).toNat)
  case atStart => exact ⟨0, by omega, rfl, h0, Nat.le_refl _, rfl⟩
  case round =>
    obtain ⟨k, hk, rfl, hj, hz, hw1⟩ := hrel
    obtain ⟨hr1, hr2, hr3⟩ := HS.out k (by omega)
    by_cases hlt : k < (bitsL set).length
    · have hne : restOf set k ≠ 0 := hr2.1 hlt
      have hn1 : ((restOf set k : Int) != 0) = true := by simp [bne]; omega
      have HTZ := Hold.mk (tz_any (restOf set k) hne hr1 wr (HT.out.same hw1))
      have hy0 := HY.out k hlt wr hj hz
      have hat : (bitsL set)[k] = Lib.ctz 64 (restOf set k) := by
        have := hr3 hlt
        rw [List.getElem?_eq_getElem hlt] at this
        exact Option.some.inj this
      rw [hat] at hy0
      have ha := and_rest (restOf set k) hr1 hne
      have hstep : restOf set (k + 1) = restOf set k &&& (restOf set k - 1) := rfl
      have hle : restOf set k &&& (restOf set k - 1) ≤ restOf set k - 1 := Nat.and_le_right
      have HW1 := Hold.mk hw1
      have HST := Hold.mk (And.intro hstep hle)
      have hpos : 0 < restOf set k := by omega
      clear hr2 hr3 hat hj hne hw1 hstep hle
      generalize restOf set k = x at *
      generalize Lib.ctz 64 x = z at *
      obtain ⟨fn, tmps, assign, body, hy, hR⟩ := hy0
      gi_wp2_with (first
        | (refine ⟨trivial, ?_⟩; gi_at_call 81; refine (callsIn_wide.2 HTZ.out).mono ?_; rintro e w' ⟨rfl, rfl⟩))
      refine hR.mono ?_
      rintro e W3 (⟨rfl, hJ3, hM3⟩ | ⟨rfl, hJx3, hM3⟩) <;> have hz3 := hM3.size <;> (have hk3 := hM3.block 1 (by omega) (fun h => h.2 (.inr rfl))) <;> clear hM3
      · have HK3 := Hold.mk (hk3.trans HW1.out)
        clear hk3
        gi_wp2
        go_roundw
        case rel => exact ⟨k + 1, by omega, by rw [HST.out.1], hJ3, by omega, HK3.out⟩
        case measure => have := HST.out.2; simp [intOf]; omega
      · clear hk3
        gi_wp2
        refine bodyPost_ret (results_none rfl _ _ _) rfl ?_
        exact ⟨⟨_, rfl⟩, by omega, .inr ⟨_, hJx3⟩⟩
    · obtain rfl : k = (bitsL set).length := by omega
      have hz0 : restOf set (bitsL set).length = 0 := by
        by_cases e : restOf set (bitsL set).length = 0
        · exact e
        · exact absurd (hr2.2 e) hlt
      rw [hz0]
      clear hr1 hr2 hr3
      gi_wp2
      go_end0
      exact ⟨⟨_, rfl⟩, hz, .inl hj⟩
end Go.Proofs.YtdncppempgpooaaDoor

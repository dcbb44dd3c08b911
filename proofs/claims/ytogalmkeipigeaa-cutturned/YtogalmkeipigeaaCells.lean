/- The iterators over cells: those of a block, and those next to a cell. -/
import Derived.Test.YtogalmkeipigeaaLoop
import Derived.Test.YtogalmkeipigeaaMap
set_option linter.unusedSimpArgs false
set_option linter.unusedVariables false
namespace Go.Proofs.Ytogalmkeipigeaa
open Go.RowKit Go.Shelf
attribute [local go_sem] Oper.semAt_some

/-- The cells of a block, row by row. -/
def cellsL (lt tp rt bt : Nat) : List (Int × Int) := (List.range ((bt - tp) * (rt - lt))).map fun m => (((lt + m % (rt - lt) : Nat) : Int), ((tp + m / (rt - lt) : Nat) : Int))

theorem cellsL_len (lt tp rt bt : Nat) : (cellsL lt tp rt bt).length = (bt - tp) * (rt - lt) := by simp [cellsL]
theorem cellsL_at (lt tp rt bt j i : Nat) (hi : i < rt - lt) (h : j * (rt - lt) + i < (cellsL lt tp rt bt).length) : (cellsL lt tp rt bt)[j * (rt - lt) + i] = ((lt : Int) + (i : Int), (tp : Int) + (j : Int)) := by
  have h1 : (j * (rt - lt) + i) % (rt - lt) = i := by rw [Nat.mul_comm, Nat.mul_add_mod]; exact Nat.mod_eq_of_lt hi
  have h2 : (j * (rt - lt) + i) / (rt - lt) = j := by rw [Nat.mul_comm, Nat.mul_add_div (by omega)]; rw [Nat.div_eq_of_lt hi]; rfl
  simp only [cellsL, List.getElem_map, List.getElem_range, h1, h2, Int.natCast_add]

set_option maxRecDepth 100000 in
set_option maxHeartbeats 1000000 in
theorem cells1_runs (Bn lt tp rt bt : Nat) (w : World) (hb : w.heap[Bn]? = some (.cells #[.int .i64 lt, .int .i64 tp, .int .i64 rt, .int .i64 bt] 97)) (h1 : lt ≤ rt) (h2 : rt ≤ 12) (h3 : tp ≤ bt) (h4 : bt ≤ 12) :
    Runs Try.prog 87 #[.pointer (some ⟨Bn, 0, none⟩)] cellV (fun k => k = Bn) (cellsL lt tp rt bt) w := by
  refine runs_of fun n l J Jx W hs hW hJ hJx hY h0 => ?_
  have hb0 : W.heap[Bn]? = some (.cells #[.int .i64 lt, .int .i64 tp, .int .i64 rt, .int .i64 bt] 97) := (hW Bn rfl).trans hb
  clear hb hW
  refine callsIn_of_wp Try.func87 rfl trivial ?_ rfl
  simp only [Try.ntmps87, List.size_toArray, List.length_cons, List.length_nil, Nat.reduceAdd, Nat.reduceSub, Array.replicate_succ, Array.replicate_zero, List.push_toArray, List.append_toArray, List.nil_append, List.cons_append]
  have c1 : W.cell? ⟨Bn, 1, none⟩ = some (.int .i64 tp) := by simp [World.cell?, hb0]
  gi_wp2
  gi_loopw [3, 4] (fun y _ wr => ∃ k : Nat, k ≤ bt - tp ∧ y = .int .i64 ((tp : Int) + (k : Int)) ∧ J (k * (rt - lt)) wr ∧ W.heap.size ≤ wr.heap.size ∧ wr.heap[Bn]? = some (.cells #[.int .i64 lt, .int .i64 tp, .int .i64 rt, .int .i64 bt] 97))
    (fun y _ _ => bt - (intOf y).toNat)
  case atStart =>
    exact ⟨0, by omega, by simp, by simpa using h0, Nat.le_refl _, hb0⟩
  case round =>
    obtain ⟨k, hk, rfl, hj, hz, hb⟩ := hrel
    have c0 : wr.cell? ⟨Bn, 0, none⟩ = some (.int .i64 lt) := by simp [World.cell?, hb]
    have c3 : wr.cell? ⟨Bn, 3, none⟩ = some (.int .i64 bt) := by simp [World.cell?, hb]
    by_cases hlt : tp + k < bt
    · have hd : decide ((tp : Int) + (k : Int) < (bt : Int)) = true := by simp; omega
      gi_wp2
      obtain ⟨wo, rfl⟩ : ∃ wo : World, wo = wr := ⟨_, rfl⟩
      have hlen := cellsL_len lt tp rt bt
      gi_loopw [4] (fun x wr => ∃ i : Nat, i ≤ rt - lt ∧ x = .int .i64 ((lt : Int) + (i : Int)) ∧ J (k * (rt - lt) + i) wr ∧ W.heap.size ≤ wr.heap.size ∧ wr.heap[Bn]? = some (.cells #[.int .i64 lt, .int .i64 tp, .int .i64 rt, .int .i64 bt] 97))
        (fun x _ => rt - (intOf x).toNat)
      case atStart =>
        exact ⟨0, by omega, by simp, by simpa using hj, hz, hb⟩
      case round =>
        obtain ⟨i, hi, rfl, hj, hz, hb⟩ := hrel
        have c2 : wr.cell? ⟨Bn, 2, none⟩ = some (.int .i64 rt) := by simp [World.cell?, hb]
        by_cases hlt2 : lt + i < rt
        · have hm : k * (rt - lt) + i < (cellsL lt tp rt bt).length := by
            rw [hlen]
            have : (k + 1) * (rt - lt) ≤ (bt - tp) * (rt - lt) := Nat.mul_le_mul_right _ (by omega)
            rw [Nat.succ_mul] at this
            omega
          have hy0 := hY _ hm wr hj hz
          rw [cellsL_at lt tp rt bt k i (by omega) hm] at hy0
          obtain ⟨fn, tmps, assign, body, hy, hR⟩ := hy0
          dsimp only [cellV] at hy
          clear hlen hm hj
          gi_wp2
          refine hR.mono ?_
          rintro e W3 (⟨rfl, hJ3, hM3⟩ | ⟨rfl, hJx3, hM3⟩) <;> have hz3 := hM3.size <;> (try have hk3 := hM3.at hb (fun h => h.2 rfl)) <;> clear hM3
          · have hb3 := hk3
            clear hk3
            gi_wp2
            go_roundw
            case rel => exact ⟨i + 1, by omega, by rw [Int.natCast_add, ← Int.add_assoc]; rfl, hJ3, by omega, hb3⟩
            case measure => simp [intOf]; omega
          · gi_wp2
            refine bodyPost_ret (results_none rfl _ _ _) rfl ?_
            exact ⟨⟨_, rfl⟩, by omega, .inr ⟨_, hJx3⟩⟩
        · obtain rfl : i = rt - lt := by omega
          gi_wp2
          go_roundw
          case rel => exact ⟨k + 1, by omega, by rw [Int.natCast_add, ← Int.add_assoc]; rfl, by rw [Nat.succ_mul]; exact hj, hz, hb⟩
          case measure => simp [intOf]; omega
    · obtain rfl : k = bt - tp := by omega
      gi_wp2
      go_end0
      exact ⟨⟨_, rfl⟩, hz, .inl (by rw [cellsL_len]; exact hj)⟩
end Go.Proofs.Ytogalmkeipigeaa

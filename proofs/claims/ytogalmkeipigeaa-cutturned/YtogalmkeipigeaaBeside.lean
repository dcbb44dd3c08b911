/- The makers of the iterators over cells, and the iterator over the four cells next to a cell. -/
import Derived.Test.YtogalmkeipigeaaLoop
import Derived.Test.YtogalmkeipigeaaMap
import Derived.Test.YtogalmkeipigeaaSmall
set_option linter.unusedSimpArgs false
set_option linter.unusedVariables false
namespace Go.Proofs.Ytogalmkeipigeaa
open Go.RowKit Go.Shelf
attribute [local go_sem] Oper.semAt_some

set_option maxHeartbeats 400000 in
theorem beside_any (p : Int × Int) (w : World) :
    Calls Try.prog 72 #[cellV p] w fun e w' => e = .returned (.func (.func 83) #[] #[.pointer (some ⟨w.heap.size, 0, none⟩)]) ∧ w' = w.alloc (.cells #[.int .i64 p.1, .int .i64 p.2] 106) := by
  go_enter Try.func72, Try.ntmps72
  go_wp2
  go_ret
  exact ⟨rfl, rfl⟩

set_option maxHeartbeats 400000 in
theorem blockCells_any (a b c d : Int) (w : World) :
    Calls Try.prog 82 #[.agg #[.int .i64 a, .int .i64 b, .int .i64 c, .int .i64 d]] w fun e w' => e = .returned (.func (.func 87) #[] #[.pointer (some ⟨w.heap.size, 0, none⟩)]) ∧ w' = w.alloc (.cells #[.int .i64 a, .int .i64 b, .int .i64 c, .int .i64 d] 97) := by
  go_enter Try.func82, Try.ntmps82
  go_wp2
  go_ret
  exact ⟨rfl, rfl⟩

set_option maxHeartbeats 400000 in
theorem picCells_any (W H N : Int) (mb : Nat) (w : World) :
    Calls Try.prog 70 #[picV W H N mb] w fun e w' => e = .returned (.func (.func 87) #[] #[.pointer (some ⟨w.heap.size + 1, 0, none⟩)]) ∧ w' = (w.alloc (.cells #[.int .i64 W, .int .i64 H, .int .i64 N, .map (some mb)] 71)).alloc (.cells #[.int .i64 0, .int .i64 0, .int .i64 W, .int .i64 H] 97) := by
  go_enter Try.func70, Try.ntmps70
  go_wp2_with (go_at_call 82; refine (blockCells_any _ _ _ _ _).mono ?_; rintro e w' ⟨rfl, rfl⟩)
  go_ret
  exact ⟨by simp, rfl⟩

/-- The four cells next to a cell. -/
def besideL (p : Int × Int) : List (Int × Int) := [(p.1, p.2 - 1), (p.1 + 1, p.2), (p.1, p.2 + 1), (p.1 - 1, p.2)]

set_option maxRecDepth 100000 in
set_option maxHeartbeats 1000000 in
theorem beside1_runs (Bn : Nat) (p : Int × Int) (w : World) (hb : w.heap[Bn]? = some (.cells #[.int .i64 p.1, .int .i64 p.2] 106)) (h1 : -1 ≤ p.1) (h2 : p.1 ≤ 12) (h3 : -1 ≤ p.2) (h4 : p.2 ≤ 12) :
    Runs Try.prog 83 #[.pointer (some ⟨Bn, 0, none⟩)] cellV (fun k => k = Bn) (besideL p) w := by
  obtain ⟨x, y⟩ := p
  dsimp only at h1 h2 h3 h4 hb
  refine runs_of fun n l J Jx W hs hW hJ hJx hY h0 => ?_
  have hb0 : W.heap[Bn]? = some (.cells #[.int .i64 x, .int .i64 y] 106) := (hW Bn rfl).trans hb
  clear hb hW
  have c0 : W.cell? ⟨Bn, 0, none⟩ = some (.int .i64 x) := by simp [World.cell?, hb0]
  have c1 : W.cell? ⟨Bn, 1, none⟩ = some (.int .i64 y) := by simp [World.cell?, hb0]
  have i0 : ∀ w, (Instr.index 130 (.agg #[.int .i64 x, .int .i64 (y - 1), .int .i64 (x + 1), .int .i64 y, .int .i64 x, .int .i64 (y + 1), .int .i64 (x - 1), .int .i64 y]) (.int .i64 0)).run Try.prog w = .ok (.agg #[.int .i64 x, .int .i64 (y - 1)]) w := fun _ => by kernel_rfl
  have i1 : ∀ w, (Instr.index 130 (.agg #[.int .i64 x, .int .i64 (y - 1), .int .i64 (x + 1), .int .i64 y, .int .i64 x, .int .i64 (y + 1), .int .i64 (x - 1), .int .i64 y]) (.int .i64 1)).run Try.prog w = .ok (.agg #[.int .i64 (x + 1), .int .i64 y]) w := fun _ => by kernel_rfl
  have i2 : ∀ w, (Instr.index 130 (.agg #[.int .i64 x, .int .i64 (y - 1), .int .i64 (x + 1), .int .i64 y, .int .i64 x, .int .i64 (y + 1), .int .i64 (x - 1), .int .i64 y]) (.int .i64 2)).run Try.prog w = .ok (.agg #[.int .i64 x, .int .i64 (y + 1)]) w := fun _ => by kernel_rfl
  have i3 : ∀ w, (Instr.index 130 (.agg #[.int .i64 x, .int .i64 (y - 1), .int .i64 (x + 1), .int .i64 y, .int .i64 x, .int .i64 (y + 1), .int .i64 (x - 1), .int .i64 y]) (.int .i64 3)).run Try.prog w = .ok (.agg #[.int .i64 (x - 1), .int .i64 y]) w := fun _ => by kernel_rfl
  refine callsIn_of_wp Try.func83 rfl trivial ?_ rfl
  simp only [Try.ntmps83, List.size_toArray, List.length_cons, List.length_nil, Nat.reduceAdd, Nat.reduceSub, Array.replicate_succ, Array.replicate_zero, List.push_toArray, List.append_toArray, List.nil_append, List.cons_append]
  gi_wp2
  gi_loopw [30] (fun i wr => ∃ k : Nat, k ≤ 4 ∧ i = .int .i64 k ∧ J k wr ∧ W.heap.size ≤ wr.heap.size)
    (fun i _ => 4 - (intOf i).toNat)
  case atStart =>
    exact ⟨0, by omega, rfl, by simpa using h0, Nat.le_refl _⟩
  case round =>
    obtain ⟨k, hk, rfl, hj, hz⟩ := hrel
    clear c0 c1
    rcases (by omega : k = 0 ∨ k = 1 ∨ k = 2 ∨ k = 3 ∨ k = 4) with rfl | rfl | rfl | rfl | rfl
    · obtain ⟨fn, tmps, assign, body, hy, hR⟩ := hY 0 (by simp [besideL]) (wr.alloc (.cells #[.int .i64 x, .int .i64 (y - 1)] 106)) (hJ _ _ _ hj ((Mod.refl _ _).alloc _)) (by simp; omega)
      have hy2 : (Instr.yield l #[.agg #[.int .i64 x, .int .i64 (y - 1)]]).run Try.prog (wr.alloc (.cells #[.int .i64 x, .int .i64 (y - 1)] 106)) = .ok (.round l fn tmps assign body) (wr.alloc (.cells #[.int .i64 x, .int .i64 (y - 1)] 106)) := hy
      clear hj hy
      gi_wp2
      refine hR.mono ?_
      rintro e W3 (⟨rfl, hJ3, hM3⟩ | ⟨rfl, hJx3, hM3⟩) <;> have hz3 := hM3.size <;> (try have hk3 := hM3.at hb (fun h => h.2 rfl)) <;> clear hM3 <;> simp only [World.size_alloc] at hz3
      · gi_wp2
        go_roundw
        case rel => exact ⟨1, by omega, rfl, hJ3, by omega⟩
        case measure => simp [intOf]
      · gi_wp2
        refine bodyPost_ret (results_none rfl _ _ _) rfl ?_
        exact ⟨⟨_, rfl⟩, by omega, .inr ⟨_, hJx3⟩⟩
    · obtain ⟨fn, tmps, assign, body, hy, hR⟩ := hY 1 (by simp [besideL]) (wr.alloc (.cells #[.int .i64 (x + 1), .int .i64 y] 106)) (hJ _ _ _ hj ((Mod.refl _ _).alloc _)) (by simp; omega)
      have hy2 : (Instr.yield l #[.agg #[.int .i64 (x + 1), .int .i64 y]]).run Try.prog (wr.alloc (.cells #[.int .i64 (x + 1), .int .i64 y] 106)) = .ok (.round l fn tmps assign body) (wr.alloc (.cells #[.int .i64 (x + 1), .int .i64 y] 106)) := hy
      clear hj hy
      gi_wp2
      refine hR.mono ?_
      rintro e W3 (⟨rfl, hJ3, hM3⟩ | ⟨rfl, hJx3, hM3⟩) <;> have hz3 := hM3.size <;> (try have hk3 := hM3.at hb (fun h => h.2 rfl)) <;> clear hM3 <;> simp only [World.size_alloc] at hz3
      · gi_wp2
        go_roundw
        case rel => exact ⟨2, by omega, rfl, hJ3, by omega⟩
        case measure => simp [intOf]
      · gi_wp2
        refine bodyPost_ret (results_none rfl _ _ _) rfl ?_
        exact ⟨⟨_, rfl⟩, by omega, .inr ⟨_, hJx3⟩⟩
    · obtain ⟨fn, tmps, assign, body, hy, hR⟩ := hY 2 (by simp [besideL]) (wr.alloc (.cells #[.int .i64 x, .int .i64 (y + 1)] 106)) (hJ _ _ _ hj ((Mod.refl _ _).alloc _)) (by simp; omega)
      have hy2 : (Instr.yield l #[.agg #[.int .i64 x, .int .i64 (y + 1)]]).run Try.prog (wr.alloc (.cells #[.int .i64 x, .int .i64 (y + 1)] 106)) = .ok (.round l fn tmps assign body) (wr.alloc (.cells #[.int .i64 x, .int .i64 (y + 1)] 106)) := hy
      clear hj hy
      gi_wp2
      refine hR.mono ?_
      rintro e W3 (⟨rfl, hJ3, hM3⟩ | ⟨rfl, hJx3, hM3⟩) <;> have hz3 := hM3.size <;> (try have hk3 := hM3.at hb (fun h => h.2 rfl)) <;> clear hM3 <;> simp only [World.size_alloc] at hz3
      · gi_wp2
        go_roundw
        case rel => exact ⟨3, by omega, rfl, hJ3, by omega⟩
        case measure => simp [intOf]
      · gi_wp2
        refine bodyPost_ret (results_none rfl _ _ _) rfl ?_
        exact ⟨⟨_, rfl⟩, by omega, .inr ⟨_, hJx3⟩⟩
    · obtain ⟨fn, tmps, assign, body, hy, hR⟩ := hY 3 (by simp [besideL]) (wr.alloc (.cells #[.int .i64 (x - 1), .int .i64 y] 106)) (hJ _ _ _ hj ((Mod.refl _ _).alloc _)) (by simp; omega)
      have hy2 : (Instr.yield l #[.agg #[.int .i64 (x - 1), .int .i64 y]]).run Try.prog (wr.alloc (.cells #[.int .i64 (x - 1), .int .i64 y] 106)) = .ok (.round l fn tmps assign body) (wr.alloc (.cells #[.int .i64 (x - 1), .int .i64 y] 106)) := hy
      clear hj hy
      gi_wp2
      refine hR.mono ?_
      rintro e W3 (⟨rfl, hJ3, hM3⟩ | ⟨rfl, hJx3, hM3⟩) <;> have hz3 := hM3.size <;> (try have hk3 := hM3.at hb (fun h => h.2 rfl)) <;> clear hM3 <;> simp only [World.size_alloc] at hz3
      · gi_wp2
        go_roundw
        case rel => exact ⟨4, by omega, rfl, hJ3, by omega⟩
        case measure => simp [intOf]
      · gi_wp2
        refine bodyPost_ret (results_none rfl _ _ _) rfl ?_
        exact ⟨⟨_, rfl⟩, by omega, .inr ⟨_, hJx3⟩⟩
    · gi_wp2
      go_end0
      exact ⟨⟨_, rfl⟩, hz, .inl hj⟩

end Go.Proofs.Ytogalmkeipigeaa

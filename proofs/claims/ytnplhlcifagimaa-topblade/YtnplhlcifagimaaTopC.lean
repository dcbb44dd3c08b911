/- TopBlade: the law's walk, where it looks no further. (Its cases: written by wip/tools.) -/
import Derived.Test.YtnplhlcifagimaaTopB
set_option linter.unusedSimpArgs false
set_option linter.unusedVariables false
namespace Go.Proofs.Ytnplhlcifagimaa
open Go.RowKit Go.Shelf

/-- The die in its box, and its blades. -/
def KD (w : World) (B : Nat) (ao : Option Addr) (cap : Nat) (d : Dye) (W : World) : Prop := (W.heap[w.heap.size]? = some (.cells (dyC ao d.bl.length cap d) 24) ∧ BladesAt B W ao d.bl ∧ B ≤ W.heap.size) ∧ Mod noB w W
theorem kd0 {w : World} {B : Nat} {ao : Option Addr} {cap : Nat} {d : Dye} (hs : BladesAt B w ao d.bl) (hB : B ≤ w.heap.size) : Kept (w.alloc (.cells (dyC ao d.bl.length cap d) 24)) (KD w B ao cap d) := fun W h => by
  have hm := ((Mod.refl noB w).alloc _).trans h
  exact ⟨⟨h.at (World.alloc_heap_new w _) id, hs.low (Low.ofN hm hB), Nat.le_trans hB hm.size⟩, hm⟩

set_option maxRecDepth 100000 in
set_option maxHeartbeats 16000000 in
theorem law3_far (ao : Option Addr) (n cap : Nat) (x y z : Int) (k m : Int) (sl ls dp gp wd : Nat) (w : World) (hn : 10 < n) (hn2 : n ≤ 9223372036854775807) :
    Calls Try.prog 3 #[.agg #[.slice ao n cap, .int .i64 x, .int .i64 y, .int .i64 z], .int .i64 k, .int .i64 m, .int .u8 sl, .int .u8 ls, .int .u8 dp, .int .u8 gp, .int .u16 wd] w fun e w' => e = .returned (.bool true) ∧ Mod noB w w' := by
  have HM := Hold.mk ((Mod.refl noB w).alloc (.cells #[.slice ao n cap, .int .i64 x, .int .i64 y, .int .i64 z] 24))
  have hI : (10 : Int) < (n : Int) := by omega
  go_enter Try.func3, Try.ntmps3
  go_wp2_with (go_at_call 5; refine (awake04_any _).mono ?_; rintro e wz ⟨rfl, hM⟩; have HZ := Hold.mk (HM.out.trans hM); clear hM)
  go_ret
  exact ⟨rfl, HZ.out⟩

set_option maxRecDepth 100000 in
set_option maxHeartbeats 16000000 in
theorem law3_no (B : Nat) (ao : Option Addr) (cap : Nat) (d : Dye) (k m : Int) (sl ls dp gp wd : Nat) (hsl : sl ≤ 255) (hls : ls ≤ 255) (hdp : dp ≤ 255) (hgp : gp ≤ 255) (hwd : wd ≤ 65535) (w : World) (hs : BladesAt B w ao d.bl) (hB : B ≤ w.heap.size) (hn : d.bl.length ≤ 10) (hno : dieB d = false ∨ k < 0 ∨ (d.bl.length : Int) ≤ k ∨ m < 0 ∨ 7000 < m) :
    Calls Try.prog 3 #[dyV ao d.bl.length cap d, .int .i64 k, .int .i64 m, .int .u8 sl, .int .u8 ls, .int .u8 dp, .int .u8 gp, .int .u16 wd] w fun e w' => e = .returned (.bool true) ∧ Mod noB w w' := by
  have HF := Hold.mk (kd0 (cap := cap) hs hB)
  have H4 : Hold (∀ W, KD w B ao cap d W → Calls Try.prog 4 #[dyV ao d.bl.length cap d] W fun e w' => e = .returned (.bool (dieB d)) ∧ Mod noB W w') := ⟨fun W h => refDie_any B ao cap d W h.1.2.2 h.1.2.1⟩
  have hnI : ¬ (10 : Int) < (d.bl.length : Int) := by omega
  clear hs hB
  obtain ⟨db, hdb⟩ : ∃ b, dieB d = b := ⟨_, rfl⟩
  rw [hdb] at H4 hno
  clear hdb
  rcases (show db = false ∨ (db = true ∧ k < 0) ∨ (db = true ∧ ¬ k < 0 ∧ (d.bl.length : Int) ≤ k) ∨ (db = true ∧ ¬ k < 0 ∧ ¬ (d.bl.length : Int) ≤ k ∧ m < 0) ∨ (db = true ∧ ¬ k < 0 ∧ ¬ (d.bl.length : Int) ≤ k ∧ ¬ m < 0 ∧ 7000 < m) from by
    cases db
    · exact .inl rfl
    · simp only [true_and, reduceCtorEq, false_or] at hno ⊢
      omega) with rfl | ⟨rfl, g1⟩ | ⟨rfl, g1, g2⟩ | ⟨rfl, g1, g2, g3⟩ | ⟨rfl, g1, g2, g3, g4⟩
  all_goals
    clear hno
    have ha := HF.out.now.1.1
    go_enter Try.func3, Try.ntmps3
    go_wp2_with (first
      | (refine wpList_load_row rfl 24 (.tmp 8) rfl w.heap.size rfl 24 _ (0, 0) _ HF.out.now.1.1 Try.underlying24 rfl info24 ?_)
      | (go_at_call 4; refine (H4.out _ HF.out.now).mono ?_; rintro e w1 ⟨rfl, hM⟩; have HF := Hold.mk (HF.out.later hM); have hg := HF.out.now.1.1; have c0 := cellsAt hg 0; have c1 := cellsAt hg 1; have c2 := cellsAt hg 2; have c3 := cellsAt hg 3; clear hM hg)
      | (go_at_call 5; refine (awake04_any _).mono ?_; rintro e wz ⟨rfl, hM⟩; have HF := Hold.mk (HF.out.later hM); clear hM))
    go_ret
    exact ⟨rfl, HF.out.now.2⟩
end Go.Proofs.Ytnplhlcifagimaa

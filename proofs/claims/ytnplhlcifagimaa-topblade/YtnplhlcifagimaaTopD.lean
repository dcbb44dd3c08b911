/- TopBlade: the law's walk, where the sides would be too narrow. (Its cases: written by wip/tools.) -/
import Derived.Test.YtnplhlcifagimaaTopC
set_option linter.unusedSimpArgs false
set_option linter.unusedVariables false
namespace Go.Proofs.Ytnplhlcifagimaa
open Go.RowKit Go.Shelf

set_option maxRecDepth 100000 in
set_option maxHeartbeats 16000000 in
theorem law3_narrow (B : Nat) (ao : Option Addr) (cap : Nat) (d : Dye) (k m : Int) (sl ls dp gp wd : Nat) (hsl : sl ≤ 255) (hls : ls ≤ 255) (hdp : dp ≤ 255) (hgp : gp ≤ 255) (hwd : wd ≤ 65535) (w : World) (hs : BladesAt B w ao d.bl) (hB : B ≤ w.heap.size) (hn : d.bl.length ≤ 10) (hd : dieB d = true) (hk0 : 0 ≤ k) (hk1 : k < d.bl.length) (hm0 : 0 ≤ m) (hm1 : m ≤ 7000) (o1 o2 : Int) (hoff : offE d k m = ((o1, o2), 0)) (ho1 : 0 ≤ o1) (ho2 : o1 ≤ o2) (ho3 : o2 ≤ 80000000) (r1 bt dm : Nat) (hr1 : Int.tmod (wd : Int) 1000 = (r1 : Int)) (hr2 : Int.tmod (gp : Int) 40 = (bt : Int)) (hr3 : Int.tmod (dp : Int) 101 = (dm : Int)) (hr1b : r1 ≤ 999) (hr2b : bt ≤ 39) (hr3b : dm ≤ 100) (hx : 1 + (r1 : Int) - o2 < 1) :
    Calls Try.prog 3 #[dyV ao d.bl.length cap d, .int .i64 k, .int .i64 m, .int .u8 sl, .int .u8 ls, .int .u8 dp, .int .u8 gp, .int .u16 wd] w fun e w' => e = .returned (.bool true) ∧ Mod noB w w' := by
  have HF := Hold.mk (kd0 (cap := cap) hs hB)
  have hnI : ¬ (10 : Int) < (d.bl.length : Int) := by omega
  have g1 : ¬ k < 0 := by omega
  have g2 : ¬ (d.bl.length : Int) ≤ k := by omega
  have g3 : ¬ m < 0 := by omega
  have g4 : ¬ 7000 < m := by omega
  have H4 : Hold (∀ W, KD w B ao cap d W → Calls Try.prog 4 #[dyV ao d.bl.length cap d] W fun e w' => e = .returned (.bool true) ∧ Mod noB W w') := ⟨fun W h => by rw [← hd]; exact refDie_any B ao cap d W h.1.2.2 h.1.2.1⟩
  have H6 : Hold (∀ W, KD w B ao cap d W → Calls Try.prog 6 #[dyV ao d.bl.length cap d, .int .i64 k, .int .i64 m] W fun e w' => e = .returned (.tuple #[.agg #[.int .i64 o1, .int .i64 o2], .int .i64 0]) ∧ Mod noB W w') := ⟨fun W h => by
    have := off_anyQ B ao cap d k m W h.1.2.2 h.1.2.1
    rw [hoff] at this
    exact this⟩
  have g5 : ¬ o1 < 0 := by omega
  have g6 : ¬ o2 < o1 := by omega
  clear hs hB hd hoff
  have ha := HF.out.now.1.1
  have c0 := cellsAt ha 0
  have c1 := cellsAt ha 1
  have c2 := cellsAt ha 2
  have c3 := cellsAt ha 3
  go_enter Try.func3, Try.ntmps3
  go_wp2_with (first
    | (refine wpList_load_row rfl 24 (.tmp 8) rfl w.heap.size rfl 24 _ (0, 0) _ HF.out.now.1.1 Try.underlying24 rfl info24 ?_)
    | (go_at_call 4; refine (H4.out _ HF.out.now).mono ?_; rintro e w1 ⟨rfl, hM⟩; have HF := Hold.mk (HF.out.later hM); have hg := HF.out.now.1.1; have c0 := cellsAt hg 0; have c1 := cellsAt hg 1; have c2 := cellsAt hg 2; have c3 := cellsAt hg 3; clear hM hg)
    | (go_at_call 6; refine (H6.out _ HF.out.now).mono ?_; rintro e w2 ⟨rfl, hM⟩; have HF := Hold.mk (HF.out.later hM); clear hM c0 c1 c2 c3)
    | (go_at_call 5; refine (awake04_any _).mono ?_; rintro e wz ⟨rfl, hM⟩; have HF := Hold.mk (HF.out.later (((Mod.refl noB _).alloc _).alloc _ |>.trans hM)); clear hM))
  go_ret
  exact ⟨rfl, HF.out.now.2⟩
end Go.Proofs.Ytnplhlcifagimaa

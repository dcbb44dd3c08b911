/- TopBlade: the law's walk, where more lies between them than may. (Its cases: written by wip/tools.) -/
import Derived.Test.YtnplhlcifagimaaTopD
set_option linter.unusedSimpArgs false
set_option linter.unusedVariables false
namespace Go.Proofs.Ytnplhlcifagimaa
open Go.RowKit Go.Shelf

set_option maxRecDepth 100000 in
set_option maxHeartbeats 16000000 in
theorem law3_wide (B : Nat) (ao : Option Addr) (cap : Nat) (d : Dye) (k m : Int) (sl ls dp gp wd : Nat) (hsl : sl ≤ 255) (hls : ls ≤ 255) (hdp : dp ≤ 255) (hgp : gp ≤ 255) (hwd : wd ≤ 65535) (w : World) (hs : BladesAt B w ao d.bl) (hB : B ≤ w.heap.size) (hn : d.bl.length ≤ 10) (hd : dieB d = true) (hk0 : 0 ≤ k) (hk1 : k < d.bl.length) (hm0 : 0 ≤ m) (hm1 : m ≤ 7000) (o1 o2 : Int) (hoff : offE d k m = ((o1, o2), 0)) (ho1 : 0 ≤ o1) (ho2 : o1 ≤ o2) (ho3 : o2 ≤ 80000000) (r1 bt dm : Nat) (hr1 : Int.tmod (wd : Int) 1000 = (r1 : Int)) (hr2 : Int.tmod (gp : Int) 40 = (bt : Int)) (hr3 : Int.tmod (dp : Int) 101 = (dm : Int)) (hr1b : r1 ≤ 999) (hr2b : bt ≤ 39) (hr3b : dm ≤ 100) (hx : o2 ≤ r1) (ms : Nat) (hms : Int.tdiv (1000 * (ls : Int)) (1000 + (dm : Int)) = (ms : Int)) (hmsb : ms ≤ 255) (nf : Int) (hfit : fitE ⟨2000, (sl : Int), (ls : Int), (0, (dm : Int))⟩ ⟨1, (1000, 1000), (1 + (r1 : Int) - o2, 1 + (r1 : Int) - o1), (400, 400)⟩ ⟨2, (1000, 1000), (1 + (r1 : Int) + bt + o1, 1 + (r1 : Int) + bt + o2), (400, 400)⟩ = (nf, 0)) (hb : (ms : Int) < bt) (hnf : (nf == 2) = false) (hhi : ¬ (bt : Int) + 2 * o2 ≤ ms) :
    Calls Try.prog 3 #[dyV ao d.bl.length cap d, .int .i64 k, .int .i64 m, .int .u8 sl, .int .u8 ls, .int .u8 dp, .int .u8 gp, .int .u16 wd] w fun e w' => e = .returned (.bool true) ∧ Mod noB w w' := by
  have HF := Hold.mk (kd0 (cap := cap) hs hB)
  have hnI : ¬ (10 : Int) < (d.bl.length : Int) := by omega
  have g1 : ¬ k < 0 := by omega
  have g2 : ¬ (d.bl.length : Int) ≤ k := by omega
  have g3 : ¬ m < 0 := by omega
  have g4 : ¬ 7000 < m := by omega
  have H4 : Hold (∀ W, KD w B ao cap d W → Calls Try.prog 4 #[dyV ao d.bl.length cap d] W fun e w' => e = .returned (.bool true) ∧ Mod noB W w') := ⟨fun W h => by rw [← hd]; exact refDie_any B ao cap d W h.1.2.2 h.1.2.1⟩
  have H6 : Hold (∀ W, KD w B ao cap d W → Calls Try.prog 6 #[dyV ao d.bl.length cap d, .int .i64 k, .int .i64 m] W fun e w' => e = .returned (.tuple #[.agg #[.int .i64 o1, .int .i64 o2], .int .i64 0]) ∧ Mod noB W w') := ⟨fun W h => by
    have := off_anyQ B ao cap d k m W h.1.2.2 h.1.2.1
    rw [hoff] at this
    exact this⟩
  have g5 : ¬ o1 < 0 := by omega
  have g6 : ¬ o2 < o1 := by omega
  have H7 : Hold (∀ W, Calls Try.prog 7 #[plV ⟨2000, (sl : Int), (ls : Int), (0, (dm : Int))⟩, edV ⟨1, (1000, 1000), (1 + (r1 : Int) - o2, 1 + (r1 : Int) - o1), (400, 400)⟩, edV ⟨2, (1000, 1000), (1 + (r1 : Int) + bt + o1, 1 + (r1 : Int) + bt + o2), (400, 400)⟩] W fun e w' => e = .returned (.tuple #[.int .i64 nf, .int .i64 0]) ∧ Mod noB W w') := ⟨fun W => by
    have := fit_any ⟨2000, (sl : Int), (ls : Int), (0, (dm : Int))⟩ ⟨1, (1000, 1000), (1 + (r1 : Int) - o2, 1 + (r1 : Int) - o1), (400, 400)⟩ ⟨2, (1000, 1000), (1 + (r1 : Int) + bt + o1, 1 + (r1 : Int) + bt + o2), (400, 400)⟩ W
    rw [hfit] at this
    exact this⟩
  have g7 : ¬ 1 + (r1 : Int) - o2 < 1 := by omega
  have g8 : ¬ 3000 < 1 + (r1 : Int) + bt + o2 := by omega
  have hnf2 : ¬ nf = 2 := by simpa using hnf
  clear hs hB hd hoff hfit
  have ha := HF.out.now.1.1
  have c0 := cellsAt ha 0
  have c1 := cellsAt ha 1
  have c2 := cellsAt ha 2
  have c3 := cellsAt ha 3
  go_enter Try.func3, Try.ntmps3
  go_wp2_with (first
    | (refine wpList_load_row rfl 24 (.tmp 8) rfl w.heap.size rfl 24 _ (0, 0) _ HF.out.now.1.1 Try.underlying24 rfl info24 ?_)
    | (go_at_call 4; refine (H4.out _ HF.out.now).mono ?_; rintro e w1 ⟨rfl, hM⟩; have HF := Hold.mk (HF.out.later hM); have hg := HF.out.now.1.1; have c0 := cellsAt hg 0; have c1 := cellsAt hg 1; have c2 := cellsAt hg 2; have c3 := cellsAt hg 3; clear hM hg)
    | (go_at_call 6; refine (H6.out _ HF.out.now).mono ?_; rintro e w2 ⟨rfl, hM⟩; have HF := Hold.mk (HF.out.later hM); have HO2 := Hold.mk (And.intro (at_allocL [.cells #[.int .i64 o1, .int .i64 o2] 29, .cells #[.int .i64 2000, .int .i64 sl, .int .i64 ls, .int .i64 0, .int .i64 dm] 34] (Mod.refl noB (allocL w2 _)) 0 _ rfl) (at_allocL [.cells #[.int .i64 o1, .int .i64 o2] 29, .cells #[.int .i64 2000, .int .i64 sl, .int .i64 ls, .int .i64 0, .int .i64 dm] 34] (Mod.refl noB (allocL w2 _)) 1 _ rfl)); clear hM c0 c1 c2 c3)
    | (go_at_call 7; refine (H7.out _).mono ?_; rintro e w3 ⟨rfl, hM⟩; have hmm := ((((Mod.refl noB ((w2.alloc (.cells #[.int .i64 o1, .int .i64 o2] 29)).alloc (.cells #[.int .i64 2000, .int .i64 sl, .int .i64 ls, .int .i64 0, .int .i64 dm] 34))).alloc _).alloc _).alloc _).alloc _ |>.trans hM; have ho := hmm.at HO2.out.1 id; rw [Nat.add_zero] at ho; have hp := hmm.at HO2.out.2 id; have s0 := cellsAt ho 0; have s1 := cellsAt ho 1; have p2 := cellsAt hp 2; have p4 := cellsAt hp 4; have HF := Hold.mk (HF.out.later ((((Mod.refl noB w2).alloc (.cells #[.int .i64 o1, .int .i64 o2] 29)).alloc (.cells #[.int .i64 2000, .int .i64 sl, .int .i64 ls, .int .i64 0, .int .i64 dm] 34)).trans hmm)); clear hM hmm ho hp)
    | (go_at_call 5; refine (awake04_any _).mono ?_; rintro e wz ⟨rfl, hM⟩; have HF := Hold.mk (HF.out.later hM); clear hM))
  all_goals
    go_ret
    first
      | exact ⟨rfl, HF.out.now.2⟩
      | exact ⟨(show Ending.returned (.bool (nf != 2)) = Ending.returned (.bool true) by rw [show (nf != 2) = true by simpa using hnf2]), HF.out.now.2⟩
      | exact ⟨(show Ending.returned (.bool (!decide (m ≤ l1))) = Ending.returned (.bool true) by rw [decide_eq_false (by omega)]; rfl), HF.out.now.2⟩
end Go.Proofs.Ytnplhlcifagimaa

/- RuleBest: the law's walk. -/
import Derived.Test.YtdncppempgpooaaDoorRwS
import Derived.Test.YtdncppempgpooaaDoorRwP
import Derived.Test.YtdncppempgpooaaDoorRwQ
import Derived.Test.YtdncppempgpooaaDoorRvT
set_option linter.unusedSimpArgs false
set_option linter.unusedVariables false
namespace Go.Proofs.YtdncppempgpooaaDoor
open Go.RowKit Go.Shelf

set_option maxRecDepth 100000 in
set_option maxHeartbeats 4000000 in
theorem law8_far (ao lo bo : Option Addr) (cap n lcap ln bcap bn : Nat) (x y z : Int) (w : World) (hn : n ≤ 9223372036854775807) (hl : ln ≤ 9223372036854775807) (hf : (10 < (n : Int)) ∨ (12 < (ln : Int))) (hT : Tab w) :
    Calls Tryd.prog 8 #[.agg #[.slice ao n cap, .int .i64 x, .int .i64 y, .int .i64 z], .slice lo ln lcap, .slice bo bn bcap] w fun e w' => e = .returned (.bool true) ∧ Mod noB w w' := by
  have hw1 : 1 < w.heap.size := World.block_lt_of_cell? _ _ (hT.at_ 0 (by omega))
  have HF := Hold.mk (show Kept (w.alloc (.cells #[.slice ao n cap, .int .i64 x, .int .i64 y, .int .i64 z] 24)) (fun W => Tab W ∧ Mod noB w W) from fun W h => by
    have hm := ((Mod.refl noB w).alloc _).trans h
    exact ⟨hT.same (hm.block 1 hw1 id), hm⟩)
  have H12 : Hold (∀ W, Calls Tryd.prog 12 #[.agg #[.slice ao n cap, .int .i64 x, .int .i64 y, .int .i64 z], .slice lo ln lcap, .slice none 0 0] W fun e w' => e = .returned (.bool true) ∧ Mod noB W w') := ⟨fun W => (far_more ao lo none cap n ln 0 lcap 0 x y z W hn hl (by omega)).mono fun e w' h => ⟨by rw [h.1]; congr 2; simp; omega, h.2⟩⟩
  clear hT hw1 hf
  go_enter Tryd.func8, Tryd.ntmps8
  go_wp2_with (first
    | (go_at_call 12; refine (H12.out _).mono ?_; rintro e w1 ⟨rfl, hM⟩; have HF1 := Hold.mk (HF.out.later hM); clear hM)
    | (go_at_call 13; refine (awake_any _ HF1.out.now.1).mono ?_; rintro e w2 ⟨rfl, hM⟩; have HF2 := Hold.mk (HF1.out.later hM); clear hM))
  go_ret
  exact ⟨rfl, HF2.out.now.2⟩

/-- What the laws hold on to, of a die and stints. -/
def Lawd (w : World) (B : Nat) (ao : Option Addr) (cap : Nat) (d : Dye) (lo : Option Addr) (l : List (Int × Int)) (W : World) : Prop :=
  W.heap[w.heap.size]? = some (.cells (dyC ao d.bl.length cap d) 24) ∧ InB B W ao d lo l ∧ Mod noB w W
theorem lawd0 {w : World} {B : Nat} {ao : Option Addr} {cap : Nat} {d : Dye} {lo : Option Addr} {l : List (Int × Int)} (hI : InB B w ao d lo l) : Kept (w.alloc (.cells (dyC ao d.bl.length cap d) 24)) (Lawd w B ao cap d lo l) := fun W h => by
  have hm := ((Mod.refl noB w).alloc _).trans h
  exact ⟨h.at (World.alloc_heap_new w _) id, hI.mod hm, hm⟩

set_option maxRecDepth 100000 in
set_option maxHeartbeats 4000000 in
/-- Where the law looks no further: too many plans, no raw numbers, a die or stints that are not valid. -/
theorem law8_no (B : Nat) (ao : Option Addr) (cap : Nat) (d : Dye) (lo : Option Addr) (lcap : Nat) (l : List (Int × Int)) (bo : Option Addr) (bn bcap : Nat) (w : World) (hI : InB B w ao d lo l) (h1 : ¬ 10 < (d.bl.length : Int)) (h2 : ¬ 12 < (l.length : Int)) (hno : bn = 0 ∨ dieB d = false ∨ stintsB l = false) :
    Calls Tryd.prog 8 #[dyV ao d.bl.length cap d, .slice lo l.length lcap, .slice bo bn bcap] w fun e w' => e = .returned (.bool true) ∧ Mod noB w w' := by
  have hsm := hI.bl.small
  have HF := Hold.mk (lawd0 (cap := cap) hI)
  have H12 : Hold (∀ W, Calls Tryd.prog 12 #[dyV ao d.bl.length cap d, .slice lo l.length lcap, .slice none 0 0] W fun e w' => e = .returned (.bool false) ∧ Mod noB W w') := ⟨fun W => (far_more ao lo none cap d.bl.length l.length 0 lcap 0 d.bound d.stop d.bend W (by omega) (by omega) (by omega)).mono fun e w' h => ⟨by rw [h.1]; congr 2; simp; omega, h.2⟩⟩
  have H24 : Hold (∀ W, Calls Tryd.prog 24 #[dyV ao d.bl.length cap d, .slice lo l.length lcap, .int .i64 32768] W fun e w' => SomeB e ∧ Mod noB W w') := ⟨fun W => heavy_any ao cap d.bl.length d.bound d.stop d.bend lo l.length lcap 32768 W (by omega) (by omega)⟩
  have H27 : Hold (∀ W, InB B W ao d lo l → Calls Tryd.prog 27 #[dyV ao d.bl.length cap d] W fun e w' => e = .returned (.bool (dieB d)) ∧ Mod noB W w') := ⟨fun W h => refDie_any B ao cap d W h.le h.bl⟩
  have H28 : Hold (∀ W, InB B W ao d lo l → Calls Tryd.prog 28 #[.slice lo l.length lcap] W fun e w' => e = .returned (.bool (stintsB l)) ∧ Mod noB W w') := ⟨fun W h => refStints_any B lo lcap l W h.le h.st⟩
  have HN := Hold.mk hno
  clear hI h1 h2
  have body : ∀ (db sb : Bool), dieB d = db → stintsB l = sb → (bn = 0 ∨ db = false ∨ sb = false) → Calls Tryd.prog 8 #[dyV ao d.bl.length cap d, .slice lo l.length lcap, .slice bo bn bcap] w fun e w' => e = .returned (.bool true) ∧ Mod noB w w' := by
    intro db sb hdb hsb hh
    rw [hdb] at H27
    rw [hsb] at H28
    clear hdb hsb HN hno
    rcases (show bn = 0 ∨ (0 < bn ∧ db = false) ∨ (0 < bn ∧ db = true ∧ sb = false) from by
      rcases (by omega : bn = 0 ∨ 0 < bn) with h0 | h0
      · exact .inl h0
      · cases db
        · exact .inr (.inl ⟨h0, rfl⟩)
        · refine .inr (.inr ⟨h0, rfl, ?_⟩)
          rcases hh with h | h | h
          · omega
          · cases h
          · exact h) with rfl | ⟨h0, rfl⟩ | ⟨h0, rfl, rfl⟩
    all_goals
      clear hh
      go_enter Tryd.func8, Tryd.ntmps8
      go_wp2_with (first
        | (refine wpList_load_row rfl 24 (.tmp 3) rfl w.heap.size rfl 24 _ (0, 0) _ HF.out.now.1 Tryd.underlying24 rfl info24 ?_)
        | (go_at_call 12; refine (H12.out _).mono ?_; rintro e w1 ⟨rfl, hM⟩; have HF := Hold.mk (HF.out.later hM); have hg := HF.out.now.1; have g0 := cellsAt hg 0; have g1 := cellsAt hg 1; have g2 := cellsAt hg 2; have g3 := cellsAt hg 3; clear hM hg)
        | (go_at_call 24; refine (H24.out _).mono ?_; rintro e w2 ⟨⟨b, rfl⟩, hM⟩; have HF := Hold.mk (HF.out.later hM); have hg := HF.out.now.1; have g0 := cellsAt hg 0; have g1 := cellsAt hg 1; have g2 := cellsAt hg 2; have g3 := cellsAt hg 3; clear hM hg; cases b)
        | (go_at_call 27; refine (H27.out _ HF.out.now.2.1).mono ?_; rintro e w3 ⟨rfl, hM⟩; have HF := Hold.mk (HF.out.later hM); clear hM)
        | (go_at_call 28; refine (H28.out _ HF.out.now.2.1).mono ?_; rintro e w4 ⟨rfl, hM⟩; have HF := Hold.mk (HF.out.later hM); clear hM)
        | (go_at_call 13; refine (awake_any _ HF.out.now.2.1.tab).mono ?_; rintro e w5 ⟨rfl, hM⟩; have HF := Hold.mk (HF.out.later hM); clear hM))
      all_goals
        go_ret
        exact ⟨rfl, HF.out.now.2.2⟩
  exact body _ _ rfl rfl HN.out
end Go.Proofs.YtdncppempgpooaaDoor

/- The document's example in memory; what is far. -/
import Derived.Test.YtdncppempgpooaaDoorRvI
set_option linter.unusedSimpArgs false
set_option linter.unusedVariables false
namespace Go.Proofs.YtdncppempgpooaaDoor
open Go.RowKit Go.Shelf

theorem info24 : (Tryd.prog.info? 24).map (·.size) = some 4 := by kernel_rfl
@[reducible] def bladesX : Array Value := #[.int .i64 0, .int .i64 5, .int .i64 2, .int .i64 3, .int .i64 2, .int .i64 4, .int .i64 0, .int .i64 1]
@[reducible] def stintsC : Array Value := #[.int .i64 8, .int .i64 0, .int .i64 6, .int .i64 0, .int .i64 9, .int .i64 5, .int .i64 10, .int .i64 0]

theorem results_sample {tmps : Array Value} {w : World} {g : Nat} {cs : Array Value} {v : Value} (hp : tmps.getD 0 undef = .pointer (some ⟨g, 0, none⟩)) (hv : tmps.getD 1 undef = v) (hg : w.heap[g]? = some (.cells cs 24)) (hi : (Tryd.prog.info? 24).map (·.size) = some cs.size) :
    (results Tryd.f37 tmps).run Tryd.prog w = .ok (.tuple #[.agg cs, v]) w := by
  have hp' : tmps[0]?.getD undef = .pointer (some ⟨g, 0, none⟩) := by simpa using hp
  have hv' : tmps[1]?.getD undef = v := by simpa using hv
  simp [results, Tryd.results37, hp', hv', asAddr, run_loadVar_row w g 24 24 cs (0, 0) _ hg Tryd.underlying24 rfl hi, Result.andThen, Sem.run_bind, Sem.run_pure]

set_option maxRecDepth 100000 in
set_option maxHeartbeats 2000000 in
theorem sample_any (w : World) : Calls Tryd.prog 37 #[] w fun e w' => ∃ ab sb, e = .returned (.tuple #[.agg #[.slice (some ⟨ab, 0, none⟩) 2 2, .int .i64 40, .int .i64 10, .int .i64 3], .slice (some ⟨sb, 0, none⟩) 4 4]) ∧ w'.heap[ab]? = some (.cells bladesX 53) ∧ w'.heap[sb]? = some (.cells stintsC 58) ∧ Mod noB w w' := by
  have HF := Hold.mk ((kept_mod w).later ((Mod.refl noB w).alloc (.cells #[.slice none 0 0, .int .i64 0, .int .i64 0, .int .i64 0] 24)))
  have HB := Hold.mk (kept_block (World.alloc_heap_new w (.cells #[.slice none 0 0, .int .i64 0, .int .i64 0, .int .i64 0] 24)))
  go_enter Tryd.func37, Tryd.ntmps37
  go_wp2_with (first
    | (go_at_call 38; refine (span_any _ _ _).mono ?_; rintro e w1 ⟨rfl, hM⟩; have HF := Hold.mk (HF.out.later hM); have HB := Hold.mk (HB.out.later hM); clear hM)
    | (refine wpList_store_row rfl 24 (.tmp 0) (.tmp 9) rfl w.heap.size _ rfl rfl 24 _ (HB.out _ (((Mod.refl noB w1).alloc _).alloc _)) info24 rfl (by simp [Value.oneCell']) ?_; rw [setRow_put (HB.out _ (((Mod.refl noB w1).alloc _).alloc _))]))
  have hlt := at_ltS (HB.out _ (Mod.refl noB w1))
  have hL := allocL_at [.cells bladesX 53, .cells stintsC 58] w1
  have hm : Mod noB w ((w1.alloc (.cells bladesX 53)).alloc (.cells stintsC 58)) := HF.out _ (((Mod.refl noB w1).alloc _).alloc _)
  have h0 : ((w1.alloc (.cells bladesX 53)).alloc (.cells stintsC 58)).heap[w1.heap.size]? = some (.cells bladesX 53) := hL 0 _ rfl
  have h1 : ((w1.alloc (.cells bladesX 53)).alloc (.cells stintsC 58)).heap[w1.heap.size + 1]? = some (.cells stintsC 58) := hL 1 _ rfl
  have hz := HB.out _ (((Mod.refl noB w1).alloc (.cells bladesX 53)).alloc (.cells stintsC 58))
  generalize (w1.alloc (.cells bladesX 53)).alloc (.cells stintsC 58) = W at *
  exact bodyPost_ret (results_sample rfl rfl (World.putObj_heap_same (at_ltS hz)) info24) rfl
    ⟨w1.heap.size, w1.heap.size + 1, rfl, (World.putObj_heap_other (by omega)).trans h0, (World.putObj_heap_other (by omega)).trans h1, hm.putObj (fun h => by omega) _⟩

theorem blades_sample {B : Nat} {w : World} {ab : Nat} (h : w.heap[ab]? = some (.cells bladesX 53)) (hB : ab < B) : BladesAt B w (some ⟨ab, 0, none⟩) dyeX.bl :=
  ⟨fun _ => ⟨ab, 0, rfl, hB, fun k x hx j hj => by
    rw [cellsAt h]
    rcases (by have := (List.getElem?_eq_some_iff.1 hx).1; simp [dyeX] at this; omega : k = 0 ∨ k = 1) with rfl | rfl
    all_goals
      simp only [dyeX, List.getElem?_cons_zero, List.getElem?_cons_succ, Option.some.injEq] at hx
      subst hx
      rcases (by omega : j = 0 ∨ j = 1 ∨ j = 2 ∨ j = 3) with rfl | rfl | rfl | rfl <;> rfl⟩, by decide⟩
theorem stints_sample {B : Nat} {w : World} {sb : Nat} (h : w.heap[sb]? = some (.cells stintsC 58)) (hB : sb < B) : StintsAt B w (some ⟨sb, 0, none⟩) stintsX :=
  ⟨fun _ => ⟨sb, 0, rfl, hB, fun k x hx j hj => by
    rw [cellsAt h]
    rcases (by have := (List.getElem?_eq_some_iff.1 hx).1; simp [stintsX] at this; omega : k = 0 ∨ k = 1 ∨ k = 2 ∨ k = 3) with rfl | rfl | rfl | rfl
    all_goals
      simp only [stintsX, List.getElem?_cons_zero, List.getElem?_cons_succ, Option.some.injEq] at hx
      subst hx
      rcases (by omega : j = 0 ∨ j = 1) with rfl | rfl <;> rfl⟩, by decide⟩

/-- What the laws leave out. -/
def farB (d : Dye) (l : List (Int × Int)) (p : List Int) : Bool := decide (10 < (d.bl.length : Int)) || decide (12 < (l.length : Int)) || decide (12 < (p.length : Int))
set_option maxRecDepth 100000 in
set_option maxHeartbeats 2000000 in
theorem far_any (ao : Option Addr) (cap : Nat) (d : Dye) (so po : Option Addr) (n m k scap pcap : Nat) (w : World) (hn : d.bl.length = n) (hn2 : n ≤ 1000000000000) (hm2 : m ≤ 1000000000000) (hk2 : k ≤ 1000000000000) :
    Calls Tryd.prog 12 #[.agg #[.slice ao n cap, .int .i64 d.bound, .int .i64 d.stop, .int .i64 d.bend], .slice so m scap, .slice po k pcap] w fun e w' => e = .returned (.bool (decide (10 < (n : Int)) || decide (12 < (m : Int)) || decide (12 < (k : Int)))) ∧ Mod noB w w' := by
  by_cases h1 : 10 < (n : Int) <;> by_cases h2 : 12 < (m : Int) <;> by_cases h3 : 12 < (k : Int)
  all_goals
    have e1 : ¬ (n : Int) ≤ 10 ∨ (n : Int) ≤ 10 := by omega
    go_enter Tryd.func12, Tryd.ntmps12
    go_wp2
    go_ret
    exact ⟨by simp [h1, h2, h3], (Mod.refl _ _).alloc _⟩
end Go.Proofs.YtdncppempgpooaaDoor

/- TopBlade: its awake: results that the document fixes. -/
import Derived.Test.YtnplhlcifagimaaTopA
set_option linter.unusedSimpArgs false
set_option linter.unusedVariables false
namespace Go.Proofs.Ytnplhlcifagimaa
open Go.RowKit Go.Shelf

@[reducible] def edA : Edg := ⟨1, (995, 1005), (500, 510), (400, 405)⟩
@[reducible] def edB : Edg := ⟨2, (990, 1000), (515, 520), (410, 420)⟩
@[reducible] def plA : Ply := ⟨2000, 20, 30, (0, 10)⟩
def AwK (w : World) (W : World) : Prop := (W.heap[w.heap.size]? = some (.cells #[.int .i64 0, .int .i64 5, .int .i64 2, .int .i64 3] 42) ∧ W.heap[w.heap.size + 1]? = some (.cells (dyC (some ⟨w.heap.size, 0, none⟩) 1 1 dieA) 24)) ∧ Mod noB w W
theorem awK_blades {w W : World} (h : AwK w W) : BladesAt (w.heap.size + 1) W (some ⟨w.heap.size, 0, none⟩) dieA.bl ∧ w.heap.size + 1 ≤ W.heap.size := by
  refine ⟨⟨fun _ => ⟨w.heap.size, 0, rfl, by omega, fun k x hx j hj => ?_⟩, by decide⟩, Nat.le_of_lt (at_ltS h.1.2)⟩
  have hk : k = 0 := by
    have := (List.getElem?_eq_some_iff.1 hx).1
    have e : dieA.bl.length = 1 := rfl
    omega
  subst hk
  obtain rfl : (⟨(0, 5), (2, 3)⟩ : Bld) = x := Option.some.inj hx
  rw [cellsAt h.1.1]
  rcases (by omega : j = 0 ∨ j = 1 ∨ j = 2 ∨ j = 3) with rfl | rfl | rfl | rfl <;> rfl

set_option maxRecDepth 100000 in
set_option maxHeartbeats 8000000 in
theorem awake04_any (w : World) : Calls Try.prog 5 #[] w fun e w' => e = .returned (.bool true) ∧ Mod noB w w' := by
  have HA := Hold.mk (show Kept ((w.alloc (.cells #[.int .i64 0, .int .i64 5, .int .i64 2, .int .i64 3] 42)).alloc (.cells (dyC (some ⟨w.heap.size, 0, none⟩) 1 1 dieA) 24)) (AwK w) from fun W h => ⟨⟨at_allocL [_, _] h 0 _ rfl, at_allocL [_, _] h 1 _ rfl⟩, (allocL_mod noB [_, _] w).trans h⟩)
  have H6 : Hold (∀ W, AwK w W → Calls Try.prog 6 #[dyV (some ⟨w.heap.size, 0, none⟩) 1 1 dieA, .int .i64 0, .int .i64 10] W fun e w' => e = .returned (.tuple #[.agg #[.int .i64 20, .int .i64 35], .int .i64 0]) ∧ Mod noB W w') := ⟨fun W h => by
    obtain ⟨h1, h2⟩ := awK_blades h
    have := off_anyQ (w.heap.size + 1) (some ⟨w.heap.size, 0, none⟩) 1 dieA 0 10 W h2 h1
    rw [awOff] at this
    exact this⟩
  have H8 : Hold (∀ W, AwK w W → Calls Try.prog 8 #[dyV (some ⟨w.heap.size, 0, none⟩) 1 1 dieA, .int .i64 0, .int .i64 40] W fun e w' => e = .returned (.tuple #[.agg #[.int .i64 11, .int .i64 20], .int .i64 0]) ∧ Mod noB W w') := ⟨fun W h => by
    obtain ⟨h1, h2⟩ := awK_blades h
    have := lasts_all (w.heap.size + 1) (some ⟨w.heap.size, 0, none⟩) 1 dieA 0 40 W h2 h1
    rw [awLasts] at this
    exact this⟩
  have H7 : Hold (∀ W, Calls Try.prog 7 #[plV plA, edV edA, edV edB] W fun e w' => e = .returned (.tuple #[.int .i64 2, .int .i64 0]) ∧ Mod noB W w') := ⟨fun W => by
    have := fit_any plA edA edB W
    rw [awFit] at this
    exact this⟩
  go_enter Try.func5, Try.ntmps5
  go_wp2_with (first
    | (refine wpList_load_row rfl 24 (.tmp 1) rfl (w.heap.size + 1) rfl 24 _ (0, 0) _ HA.out.now.1.2 Try.underlying24 rfl info24 ?_)
    | (go_at_call 6; refine (H6.out _ HA.out.now).mono ?_; rintro e w1 ⟨rfl, hM⟩; have HA := Hold.mk (HA.out.later (hM.alloc (.cells #[.int .i64 20, .int .i64 35] 29))); have HS := Hold.mk (kept_block (World.alloc_heap_new w1 (.cells #[.int .i64 20, .int .i64 35] 29))); clear hM)
    | (go_at_call 8; refine (H8.out _ HA.out.now).mono ?_; rintro e w2 ⟨rfl, hM⟩; have HA := Hold.mk (HA.out.later (hM.alloc (.cells #[.int .i64 11, .int .i64 20] 29))); have HS := Hold.mk (HS.out.later (hM.alloc (.cells #[.int .i64 11, .int .i64 20] 29))); have HT := Hold.mk (kept_block (World.alloc_heap_new w2 (.cells #[.int .i64 11, .int .i64 20] 29))); clear hM)
    | (go_at_call 7; refine (H7.out _).mono ?_; rintro e w3 ⟨rfl, hM⟩; have HA := Hold.mk (HA.out.later ((((Mod.refl noB _).alloc _).alloc _).trans hM)); have gs := (HS.out.later ((((Mod.refl noB _).alloc _).alloc _).trans hM)).now; have gt := (HT.out.later ((((Mod.refl noB _).alloc _).alloc _).trans hM)).now; have s0 := cellsAt gs 0; have s1 := cellsAt gs 1; have t0 := cellsAt gt 0; have t1 := cellsAt gt 1; clear hM gs gt))
  go_ret
  exact ⟨rfl, HA.out.now.2⟩
end Go.Proofs.Ytnplhlcifagimaa

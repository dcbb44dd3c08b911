/- RuleEnds: how long blades last, with each other; what the law holds on to; its closure; its walks where a result is an error. -/
import Derived.Test.YtdncppempgpooaaDoorRvR
import Derived.Test.YtdncppempgpooaaDoorRvT
set_option linter.unusedSimpArgs false
set_option linter.unusedVariables false
namespace Go.Proofs.YtdncppempgpooaaDoor
open Go.RowKit Go.Shelf

theorem lastR_mono {a c a' c' m : Int} (hc : 0 ≤ c) (hcc : c ≤ c') (haa : a ≤ a') (h : a' ≤ m) : lastR a' c' m ≤ lastR a c m := by
  obtain ⟨p0, p1, p2, p3⟩ := lastR_is (a := a') (c := c') (bound := m) (by omega) h
  obtain ⟨q0, q1, q2, q3⟩ := lastR_is (a := a) (c := c) (bound := m) hc (by omega)
  generalize lastR a' c' m = lo at *
  generalize lastR a c m = hi at *
  rcases (by omega : hi < lo ∨ lo ≤ hi) with hlt | hle
  case inr => exact hle
  · exfalso
    rcases q3 with q3 | q3
    · omega
    · have h1 : (hi + 1) * c ≤ lo * c := Int.mul_le_mul_of_nonneg_right (by omega) hc
      have h2 : lo * c ≤ lo * c' := Int.mul_le_mul_of_nonneg_left hcc p0
      omega

/-- What the law holds on to. -/
def Ends (w : World) (B : Nat) (ao : Option Addr) (cap : Nat) (d : Dye) (k : Int) (W : World) : Prop :=
  W.heap[w.heap.size]? = some (.cells (dyC ao d.bl.length cap d) 24) ∧ W.heap[w.heap.size + 1]? = some (.cells #[.int .i64 k] 3) ∧ (B ≤ W.heap.size ∧ BladesAt B W ao d.bl ∧ Tab W) ∧ Mod noB w W
theorem ends0 (w : World) (B : Nat) (ao : Option Addr) (cap : Nat) (d : Dye) (k : Int) (hB : B ≤ w.heap.size) (hs : BladesAt B w ao d.bl) (hT : Tab w) :
    Kept ((w.alloc (.cells (dyC ao d.bl.length cap d) 24)).alloc (.cells #[.int .i64 k] 3)) (Ends w B ao cap d k) := fun W' h => by
  have hw1 : 1 < w.heap.size := World.block_lt_of_cell? _ _ (hT.at_ 0 (by omega))
  have hm := (allocL_mod noB [.cells (dyC ao d.bl.length cap d) 24, .cells #[.int .i64 k] 3] w).trans h
  exact ⟨at_allocL [_, _] h 0 _ rfl, at_allocL [_, _] h 1 _ rfl, ⟨Nat.le_trans hB hm.size, hs.low (Low.ofN hm hB), hT.same (hm.block 1 hw1 id)⟩, hm⟩

set_option maxRecDepth 100000 in
set_option maxHeartbeats 2000000 in
/-- The law's closure: Off, at the same blade. -/
theorem ends_off {w : World} {B : Nat} {ao : Option Addr} {cap : Nat} {d : Dye} {k : Int} (q : Int) (W : World) (h : Kept W (Ends w B ao cap d k)) {s : Int × Int} (hs : offE d k q = (s, 0)) :
    Calls Tryd.prog 34 #[.int .i64 q, .pointer (some ⟨w.heap.size, 0, none⟩), .pointer (some ⟨w.heap.size + 1, 0, none⟩)] W fun e w' => e = .returned (spV s) ∧ Mod noB W w' := by
  have HE := Hold.mk h
  have H14 : Hold (∀ W, B ≤ W.heap.size → BladesAt B W ao d.bl → Calls Tryd.prog 14 #[dyV ao d.bl.length cap d, .int .i64 k, .int .i64 q] W fun e w' => e = .returned (.tuple #[spV s, .int .i64 0]) ∧ Mod noB W w') := ⟨fun W h1 h2 => (off_any B ao cap d k q W h1 h2).mono fun e w' h => by rw [hs] at h; exact h⟩
  have e6 : (W.alloc (.cells #[.int .i64 0, .int .i64 0] 28)).cell? ⟨w.heap.size + 1, 0, none⟩ = some (.int .i64 k) := cellsAt (HE.out _ ((Mod.refl noB W).alloc _)).2.1 0
  have HX := Hold.mk (kept_block (World.alloc_heap_new W (.cells #[.int .i64 0, .int .i64 0] 28)))
  obtain ⟨s1, s2⟩ := s
  clear hs h
  go_enter Tryd.func34, Tryd.ntmps34
  go_wp2_with (first
    | (refine wpList_load_row rfl 24 (.tmp 1) rfl w.heap.size rfl 24 _ (0, 0) _ (HE.out _ ((Mod.refl _ _).alloc _)).1 Tryd.underlying24 rfl info24 ?_)
    | (go_at_call 14; have hh := (HE.out _ ((Mod.refl noB W).alloc (.cells #[.int .i64 0, .int .i64 0] 28))).2.2.1; refine (H14.out _ hh.1 hh.2.1).mono ?_; clear hh; rintro e w1 ⟨rfl, hM⟩; have hX := ((Mod.refl noB W).alloc (.cells #[.int .i64 0, .int .i64 0] 28)).trans hM; have HY := Hold.mk (HX.out.later (hM.alloc (.cells #[.int .i64 s1, .int .i64 s2] 28))); have HM := Hold.mk (hX.alloc (.cells #[.int .i64 s1, .int .i64 s2] 28)); clear hM hX)
    | (refine wpList_store_row rfl 28 (.tmp 4) (.tmp 17) rfl W.heap.size (spC (s1, s2)) rfl rfl 28 _ HY.out.now (by kernel_rfl) rfl (by simp [Value.oneCell']) ?_; rw [setRow_put HY.out.now]))
  have hb := HY.out.now
  have hm := HM.out
  generalize w1.alloc (.cells #[.int .i64 s1, .int .i64 s2] 28) = W4 at *
  have hlt := at_ltS hb
  have hg : (W4.putObj W.heap.size (.cells (spC (s1, s2)) 28)).heap[W.heap.size]? = some (.cells (spC (s1, s2)) 28) := World.putObj_heap_same hlt
  have c0 := cellsAt hg 0; have c1 := cellsAt hg 1
  exact bodyPost_ret (v := spV (s1, s2)) (by simp [results, Tryd.results34, go_sem, *]) rfl ⟨rfl, hm.putObj (fun h => by omega) _⟩
end Go.Proofs.YtdncppempgpooaaDoor

/- A plan, by remainders (sets). -/
import Derived.Test.YtdncppempgpooaaDoorRwR
set_option linter.unusedSimpArgs false
set_option linter.unusedVariables false
namespace Go.Proofs.YtdncppempgpooaaDoor
open Go.RowKit Go.Shelf Go.Maps Go.WideMaps

/-- Raw bytes, at least one. -/
def BytesAt (w : World) (bo : Option Addr) (n : Nat) : Prop := ∃ bb boff, bo = some ⟨bb, boff, none⟩ ∧ bb < w.heap.size ∧ ∀ j, j < n → ∃ u : Nat, u ≤ 255 ∧ w.cell? ⟨bb, boff + j, none⟩ = some (.int .u8 u)
theorem BytesAt.mod {w w' : World} {bo : Option Addr} {n : Nat} (h : BytesAt w bo n) (hm : Mod noB w w') : BytesAt w' bo n := by
  obtain ⟨bb, boff, h1, h2, h3⟩ := h
  exact ⟨bb, boff, h1, Nat.lt_of_lt_of_le h2 hm.size, fun j hj => by obtain ⟨u, hu, hc⟩ := h3 j hj; exact ⟨u, hu, (cell_same (hm.block bb h2 id) _).trans hc⟩⟩

/-- Between two rounds. -/
structure SetI (w : World) (ds : Array Value) (n k : Nat) (v : Value) (W : World) : Prop where
  ex : ∃ q : List Int, q.length = k - 1 ∧ (∀ x ∈ q, 0 ≤ x ∧ x < (2 ^ n : Nat)) ∧ W.ownsRow (w.heap.size + 1) 3 1 v (k - 1) (q.map (Value.int .i64))
  a : W.heap[w.heap.size]? = some (.cells ds 24)
  m : Mod noB w W

set_option maxRecDepth 100000 in
set_option maxHeartbeats 4000000 in
theorem sets_any (ao : Option Addr) (cap n : Nat) (x y z : Int) (lo : Option Addr) (ln lcap : Nat) (bo : Option Addr) (bn bcap : Nat) (w : World) (hn : n ≤ 5) (hl : ln ≤ 7) (hbn : 0 < bn) (hbn2 : bn ≤ 9223372036854775807) (hb : BytesAt w bo bn) :
    Calls Tryd.prog 35 #[.agg #[.slice ao n cap, .int .i64 x, .int .i64 y, .int .i64 z], .slice lo ln lcap, .slice bo bn bcap] w fun e w' => ∃ (so : Option Addr) (sc : Nat) (q : List Int), e = .returned (.slice so q.length sc) ∧ q.length = ln - 1 ∧ (∀ x ∈ q, 0 ≤ x ∧ x < (2 ^ n : Nat)) ∧ IntsAt w' so q ∧ Mod noB w w' := by
  have HS : Hold (SetI w #[.slice ao n cap, .int .i64 x, .int .i64 y, .int .i64 z] n 1 (.slice none 0 0) (w.alloc (.cells #[.slice ao n cap, .int .i64 x, .int .i64 y, .int .i64 z] 24))) :=
    ⟨⟨[], rfl, fun _ h => (by cases h), ⟨rfl, .inl ⟨rfl, rfl⟩⟩⟩, World.alloc_heap_new w _, (Mod.refl _ _).alloc _⟩
  have HB := Hold.mk hb
  clear hb
  go_enter Tryd.func35, Tryd.ntmps35
  go_wp2
  generalize w.alloc (.cells #[.slice ao n cap, .int .i64 x, .int .i64 y, .int .i64 z] 24) = W0 at *
  go_loopw [7, 8] (fun v i wr => ∃ k : Nat, 1 ≤ k ∧ (k ≤ ln ∨ k = 1) ∧ i = .int .i64 k ∧ SetI w #[.slice ao n cap, .int .i64 x, .int .i64 y, .int .i64 z] n k v wr) (fun _ i _ => ln - (intOf i).toNat)
  case atStart => exact ⟨1, Nat.le_refl _, .inr rfl, rfl, HS.out⟩
  case round =>
    obtain ⟨k, hk1, hk2, rfl, hI⟩ := hrel
    have HI := Hold.mk hI
    clear hI
    by_cases hlt : k < ln
    · go_wp2
      obtain ⟨q, q1, q2, q3⟩ := HI.out.ex
      obtain ⟨bb, boff, hbo, hbl, hbc⟩ := HB.out.mod HI.out.m
      obtain ⟨u, hu, hc⟩ := hbc (k % bn) (Nat.mod_lt _ hbn)
      refine region_sets (vA := u7) (bo := bo) (bb := bb) (boff := boff) (bn := bn) (bcap := bcap) (i := k) (u := u) (db := w.heap.size) (ao := ao) (n := n) (cap := cap) (base := w.heap.size + 1) (k := k - 1) (xs := q.map (Value.int .i64)) rfl rfl rfl rfl rfl hbo hbn (by omega) hu hn hc (cellsAt HI.out.a 0) q3 (by omega) (by have := at_ltS HI.out.a; omega) ?_
      intro vs w2 W hM hg hown
      have hmT : Mod (fun j => u7.ownBlock = some j) W w2 := Mod.of_grownBy hg (fun r hr _ => hr)
      have hownW : W.ownsRow (w.heap.size + 1) 3 1 u7 (k - 1) (q.map (Value.int .i64)) := own_same q3 (fun r hr => by obtain ⟨_, cur, hc⟩ := own_block q3 hr; exact hM.block r (at_ltS hc) id)
      have HN : Hold (SetI w #[.slice ao n cap, .int .i64 x, .int .i64 y, .int .i64 z] n (k + 1) (vs 16) w2) := ⟨by
        refine ⟨⟨q ++ [((u % 2 ^ n : Nat) : Int)], by simp [q1]; omega, fun v hv => ?_, ?_⟩, ?_, ?_⟩
        · rcases List.mem_append.1 hv with hv | hv
          · exact q2 v hv
          · rw [List.mem_singleton] at hv
            subst hv
            exact ⟨Int.natCast_nonneg _, Int.ofNat_lt.2 (Nat.mod_lt _ (Nat.two_pow_pos _))⟩
        · rw [List.map_append, show k + 1 - 1 = k - 1 + 1 by omega]; exact hown
        · exact hmT.at (hM.at HI.out.a id) (fun he => by have := (own_block hownW he).1; omega)
        · exact (HI.out.m.trans hM).then hmT (fun i h1 h2 => by have := (own_block hownW h2).1; omega)⟩
      clear hM hg hown hmT hownW q1 q2 q3 hbl hbc hc
      generalize hv : vs 16 = v16 at *
      simp only [stDs, List.foldl_cons, List.foldl_nil, Act.put, List.setIfInBounds_toArray, List.set_cons_succ, List.set_cons_zero, hv]
      clear hv
      go_wp2
      go_roundw
      case rel => exact ⟨k + 1, by omega, by omega, by go_num, HN.out⟩
      case measure => simp [intOf]; omega
    · have hnl : ¬ (k : Int) < (ln : Int) := by omega
      obtain ⟨q, q1, q2, q3⟩ := HI.out.ex
      obtain ⟨so, sc, rfl, i1, _⟩ := ints_of_owns q3 q1 (by omega)
      have HR : Hold (∃ (so' : Option Addr) (sc' : Nat) (q : List Int), Ending.returned (.slice so (k - 1) sc) = .returned (.slice so' q.length sc') ∧ q.length = ln - 1 ∧ (∀ x ∈ q, 0 ≤ x ∧ x < (2 ^ n : Nat)) ∧ IntsAt wr so' q ∧ Mod noB w wr) := ⟨so, sc, q, by rw [q1], by omega, q2, i1, HI.out.m⟩
      clear q1 q2 q3 i1
      go_wp2
      go_ret
      exact HR.out
end Go.Proofs.YtdncppempgpooaaDoor

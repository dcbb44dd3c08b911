/- count: how many pieces a picture has, or the number that is to blame. -/
import Derived.Test.YtogalmkeipigeaaParts
import Derived.Test.YtogalmkeipigeaaSlices
set_option linter.unusedSimpArgs false
set_option linter.unusedVariables false
namespace Go.Proofs.Ytogalmkeipigeaa
open Go.RowKit

theorem arr50 : Try.prog.arrayLen 50 = 40 := by kernel_rfl
theorem und50 : Try.prog.underlying 50 = some (.array (Try.prog.arrayLen 50) (Try.prog.elem 50)) := by kernel_rfl
theorem elem50 : Try.prog.elem 50 = 3 := by kernel_rfl
theorem sizeOf3 (W : World) : (sizeOf 3).run Try.prog W = .ok 1 W := by kernel_rfl
theorem slice_array (b : Nat) (N : Nat) (h : N ≤ 40) (W : World) : (Instr.sliceAt 50 (.pointer (some ⟨b, 0, none⟩)) none (some (.int .i64 (N : Int))) none).run Try.prog W = .ok (.slice (some ⟨b, 0, none⟩) N 40) W := by
  rw [run_sliceAt_array_h W 50 ⟨b, 0, none⟩ und50 .i64 (N : Int) (by omega) (by rw [arr50]; omega), elem50, sizeOf3, arr50]
  simp [Result.andThen, slicedAt, Addr.add]

/-- The first N numbers of parts. -/
def firsts (f : Nat → Int) (N : Nat) : List Int := (List.range N).map f
theorem firsts_len (f : Nat → Int) (N : Nat) : (firsts f N).length = N := by simp [firsts]
theorem firsts_at {f : Nat → Int} {N j : Nat} (h : j < N) : (firsts f N)[j]?.getD 0 = f j := by simp [firsts, h]

/-- What count returns: with the error 4 the first number that has no cell, with the error 6 the first one whose cells are in more than one part. -/
def countR (f : Nat → Int) (N : Nat) : Int × Int :=
  if 0 ≤ idxOf (fun z => (0 : Int) == z) (firsts f N) then (idxOf (fun z => (0 : Int) == z) (firsts f N), 4)
  else if 0 ≤ idxOf (fun z => decide (1 < z)) (firsts f N) then (idxOf (fun z => decide (1 < z)) (firsts f N), 6)
  else (N, 0)

theorem ret_pair {a b c d : Int} (h1 : a = c) (h2 : b = d) : Ending.returned (.tuple #[.int .i64 a, .int .i64 b]) = .returned (.tuple #[.int .i64 c, .int .i64 d]) := by rw [h1, h2]
theorem countR_a {f : Nat → Int} {N : Nat} {i0 : Int} (e : idxOf (fun z => (0 : Int) == z) (firsts f N) = i0) (h : 0 ≤ i0) : countR f N = (i0, 4) := by
  unfold countR; rw [e, if_pos h]
theorem countR_b {f : Nat → Int} {N : Nat} {i0 i1 : Int} (e : idxOf (fun z => (0 : Int) == z) (firsts f N) = i0) (h : i0 < 0) (e1 : idxOf (fun z => decide (1 < z)) (firsts f N) = i1) (h1 : 0 ≤ i1) : countR f N = (i1, 6) := by
  unfold countR; rw [e, e1, if_neg (by omega), if_pos h1]
theorem countR_c {f : Nat → Int} {N : Nat} {i0 i1 : Int} (e : idxOf (fun z => (0 : Int) == z) (firsts f N) = i0) (h : i0 < 0) (e1 : idxOf (fun z => decide (1 < z)) (firsts f N) = i1) (h1 : i1 < 0) : countR f N = ((N : Int), 0) := by
  unfold countR; rw [e, e1, if_neg (by omega), if_neg (by omega)]

set_option maxRecDepth 100000 in
set_option maxHeartbeats 2000000 in
theorem count_any (g : Int × Int → Option Int) (W H N : Nat) (G : Grid g W H) (hN : 1 ≤ N) (hN2 : N ≤ 40) (mb : Nat) (w : World) (hm : MapIs Try.prog 106 cellV w mb g) :
    Calls Try.prog 43 #[picV W H N mb] w fun e w' => ∃ f : Nat → Int, PartsOf g W H f ∧ e = .returned (.tuple #[.int .i64 (countR f N).1, .int .i64 (countR f N).2]) ∧ Mod noB w w' := by
  have HP := Hold.mk (parts_any g W H G N mb)
  have HM := Hold.mk hm
  clear hm G
  go_enter Try.func43, Try.ntmps43
  have FACT : ∀ (f : Nat → Int) (w' : World), (Try.prog.info? 50).map (·.size) = some (fcells 40 (fun k => .int .i64 (f k))).size ∧ (fcells 40 (fun k => .int .i64 (f k))).all (·.oneCell') = true ∧
      IntsAt (w'.alloc (.cells (fcells 40 (fun k => .int .i64 (f k))) 50)) (some ⟨w'.heap.size, 0, none⟩) (firsts f N) := fun f w' =>
    ⟨by rw [fcells_size]; kernel_rfl, by simp [fcells, Value.oneCell'], ⟨fun _ => ⟨_, _, rfl, by simp, fun j hj => by
      rw [firsts_len] at hj
      rw [firsts_at hj, Nat.zero_add]
      exact fcells_cell (World.alloc_heap_new _ _) (by omega)⟩, by rw [firsts_len]; omega⟩⟩
  have E := Hold.mk FACT
  clear FACT
  have tok : True := trivial
  have hsl := fun (b : Nat) (W : World) => slice_array b N hN2 W
  go_wp2_with (first
    | (go_at_call 64; refine (HP.out _ (HM.out.alloc _)).mono ?_; rintro e w' ⟨f, rfl, hMw, hf⟩; have c2 : w'.cell? ⟨w.heap.size, 2, none⟩ = some (.int .i64 N) := (by have e1 := hMw.at (World.alloc_heap_new w _) id; simp [World.cell?, e1]); have hz : w.heap.size < w'.heap.size := (by have := hMw.size; simp at this; omega); have c3 : (w'.alloc (.cells (fcells 40 (fun k => .int .i64 (f k))) 50)).cell? ⟨w.heap.size, 2, none⟩ = some (.int .i64 N) := (by have e1 := (hMw.alloc (.cells (fcells 40 (fun k => .int .i64 (f k))) 50)).at (World.alloc_heap_new w _) id; simp [World.cell?, e1]); have HW := Hold.mk (And.intro hMw hf); clear hMw hf)
    | (have _t := tok; refine wpList_store_row rfl 50 (.tmp 4) (.tmp 8) rfl _ _ rfl rfl 50 _ (World.alloc_heap_new _ _) (E.out f w').1 (by rw [fcells_size]; rfl) (E.out f w').2.1 ?_; clear tok; rw [setRow_put (World.alloc_heap_new _ _), alloc_put])
    | (go_at_call 65; refine (index_n N _ (firsts f N) _ _ _ (E.out f w').2.2 (firsts_len f N)).mono ?_; rintro e w2 ⟨rfl, rfl⟩; obtain ⟨i0, hi0⟩ : ∃ i, idxOf (fun z => (0 : Int) == z) (firsts f N) = i := ⟨_, rfl⟩; rw [hi0]; have H0 := Hold.mk hi0; clear hi0)
    | (go_at_call 66; refine (indexFunc_n N _ (firsts f N) _ 67 (fun z => decide (1 < z)) _ (E.out f w').2.2 (firsts_len f N) enter67 (fun n => count1_any n _)).mono ?_; rintro e w2 ⟨rfl, rfl⟩; obtain ⟨i1, hi1⟩ : ∃ i, idxOf (fun z => decide (1 < z)) (firsts f N) = i := ⟨_, rfl⟩; rw [hi1]; have H1 := Hold.mk hi1; clear hi1))
  all_goals
    go_ret2
    first
      | exact ⟨f, HW.out.2, ret_pair (by rw [countR_a H0.out (by omega)]) (by rw [countR_a H0.out (by omega)]), (((Mod.refl noB w).alloc _).trans HW.out.1).alloc _⟩
      | exact ⟨f, HW.out.2, ret_pair (by rw [countR_b H0.out (by omega) H1.out (by omega)]) (by rw [countR_b H0.out (by omega) H1.out (by omega)]), (((Mod.refl noB w).alloc _).trans HW.out.1).alloc _⟩
      | exact ⟨f, HW.out.2, ret_pair (by rw [countR_c H0.out (by omega) H1.out (by omega)]) (by rw [countR_c H0.out (by omega) H1.out (by omega)]), (((Mod.refl noB w).alloc _).trans HW.out.1).alloc _⟩
end Go.Proofs.Ytogalmkeipigeaa

/- the iterator over all lists, as its callers want it. -/
import Derived.Test.YtknbcmildpmokaaScN
set_option linter.unusedSimpArgs false
set_option linter.unusedVariables false
namespace Go.Proofs.Ytknbcmildpmokaa
open Go.RowKit Go.Shelf


attribute [local go_sem] Oper.semAt_some

theorem liC_zero (n : Nat) : liC (List.replicate n 0) = liC [] := by
  have g : ∀ j : Nat, (List.replicate n (0 : Int))[j]?.getD 0 = 0 := fun j => by
    rw [List.getElem?_replicate]; split <;> rfl
  simp only [liC, g]
  rfl
set_option maxRecDepth 100000 in
set_option maxHeartbeats 4000000 in
theorem lists_runs (B bb : Nat) (ao : Option Addr) (cap : Nat) (b : Bx) (w : World) (hb : boxB b = true) (hB : B ≤ bb) (hx : BoxAt B w bb ao cap b) :
    RunsB Try.prog 81 #[.pointer (some ⟨bb, 0, none⟩)] liV (fun k => k < B ∨ k = bb) 3 (allL b) w := by
  intro n l J Jx W hs hW hJ hJx hY h0
  have hbb := at_ltS hx.c
  have hxW : BoxAt B W bb ao cap b := ⟨(hW bb (.inr rfl)).trans hx.c, hx.k.low ⟨hs, fun k hk => hW k (.inl hk)⟩⟩
  let q : FB := { bb := bb, yb := W.heap.size, hb := W.heap.size + 1, fb := W.heap.size + 1 + 1, l := l, B := B, B0 := W.heap.size, h1 := hB, h2 := by omega, h3 := Nat.le_refl _, h4 := by omega, h5 := by omega, h6 := by omega }
  have hY' : YieldL n q (allL b) J Jx := fun pre x rest W1 h1 h2 h3 => hY pre x rest W1 h1 h2 h3
  have hbx := boxB_ks hb
  obtain ⟨b0, b1, b2, b3, b4⟩ := hxW.cells
  have hM : Mod (fun k => W.heap.size ≤ k) W (allocL W [.cells #[.func (.yield l) #[] #[]] 128, .cells (liC []) 77, .cells #[.func (.func 82) #[] q.lb] 102]) := allocL_mod _ _ _
  have hC : Hold (CallsIn Fence.wide n Try.prog 82 (#[.int .i64 0, .int .i64 b.lost, .int .i64 b.extra] ++ q.lb) (allocL W [.cells #[.func (.yield l) #[] #[]] 128, .cells (liC []) 77, .cells #[.func (.func 82) #[] q.lb] 102]) (FPost q ao cap b J Jx [] (allL b) [] (allocL W [.cells #[.func (.yield l) #[] #[]] 128, .cells (liC []) 77, .cells #[.func (.func 82) #[] q.lb] 102]))) := ⟨by
    have := fill_any q ao cap b hb J Jx hJ (allL b) n hY' b.ks.length [] (List.replicate b.ks.length 0) 0 b.lost b.extra [] (allocL W [.cells #[.func (.yield l) #[] #[]] 128, .cells (liC []) 77, .cells #[.func (.func 82) #[] q.lb] 102]) n (by omega) (by simp) (by simp) (by omega) (by omega) (by omega) (by omega) (by rw [allocL_size]; exact Nat.le_refl _)
      ⟨⟨hM.at hxW.c (by show ¬ W.heap.size ≤ bb; omega), hxW.k.low ⟨hM.size, fun k hk => hM.block k (by have : k < B := hk; omega) (by have : k < B := hk; omega)⟩⟩, allocL_at _ W 0 _ rfl, by rw [liC_zero]; exact allocL_at _ W 1 _ rfl, allocL_at _ W 2 _ rfl⟩ (hJ _ _ _ h0 (allocL_mod _ _ _)) ⟨[], by simp [allL]⟩
    simp only [List.drop_zero, List.nil_append, List.map_id'] at this
    exact this⟩
  have hbW : bb < W.heap.size := by omega
  obtain ⟨WZ, hWZ⟩ : ∃ WZ, ((W.alloc (.cells #[.func (.yield l) #[] #[]] 128)).alloc (.cells #[.int .i64 0, .int .i64 0, .int .i64 0, .int .i64 0] 77)).alloc (.cells #[.func (.func 82) #[] #[.pointer (some ⟨bb, 0, none⟩), .pointer (some ⟨W.heap.size, 0, none⟩), .pointer (some ⟨W.heap.size + 1, 0, none⟩), .pointer (some ⟨W.heap.size + 1 + 1, 0, none⟩)]] 102) = WZ := ⟨_, rfl⟩
  have hWZ2 : allocL W [.cells #[.func (.yield l) #[] #[]] 128, .cells (liC []) 77, .cells #[.func (.func 82) #[] q.lb] 102] = WZ := hWZ
  rw [hWZ2] at hC hM
  have hxZ : BoxAt B WZ bb ao cap b := ⟨hM.at hxW.c (by omega), hxW.k.low ⟨hM.size, fun k hk => hM.block k (by omega) (by omega)⟩⟩
  obtain ⟨z0, z1, z2, z3, z4⟩ := hxZ.cells
  have hf : WZ.heap[W.heap.size + 1 + 1]? = some (.cells #[.func (.func 82) #[] #[.pointer (some ⟨bb, 0, none⟩), .pointer (some ⟨W.heap.size, 0, none⟩), .pointer (some ⟨W.heap.size + 1, 0, none⟩), .pointer (some ⟨W.heap.size + 1 + 1, 0, none⟩)]] 102) := by rw [← hWZ2]; exact allocL_at _ W 2 _ rfl
  have f0 := cellsAt hf 0
  have hzs := Hold.mk hM.size
  clear hY hY' h0 hJ hJx hx hW hxW hM hWZ2 hxZ hf
  refine callsIn_of_wp Try.func81 rfl trivial ?_ rfl
  simp only [Try.ntmps81, List.size_toArray, List.length_cons, List.length_nil, Nat.reduceAdd, Nat.reduceSub, Array.replicate_succ, Array.replicate_zero, List.push_toArray, List.append_toArray, List.nil_append, List.cons_append]
  gi_wp2_with (refine ⟨trivial, ?_⟩; gi_at_call 82; refine hC.out.mono ?_; rintro e5 w5 ⟨hz6, ⟨rfl, hA⟩ | ⟨rfl, hA⟩⟩ <;> have HA := Hold.mk hA <;> have HZ6 := Hold.mk hz6 <;> clear hA hz6)
  · go_end0
    exact ⟨⟨_, rfl⟩, by have := hzs.out; have := HZ6.out; omega, .inl (by have := HA.out.2; rw [List.nil_append] at this; exact this)⟩
  · go_end0
    obtain ⟨vs, hv, hj⟩ := HA.out
    rw [List.nil_append] at hj
    exact ⟨⟨_, rfl⟩, by have := hzs.out; have := HZ6.out; omega, .inr ⟨vs, hv, hj⟩⟩

end Go.Proofs.Ytknbcmildpmokaa

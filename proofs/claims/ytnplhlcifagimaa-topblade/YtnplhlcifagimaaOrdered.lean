/- ordered: two sides as a tab and a hole. -/
import Derived.Test.YtnplhlcifagimaaAreSides
import Derived.RegionTactic
import Derived.BigRegion
set_option linter.unusedSimpArgs false
set_option linter.unusedVariables false
namespace Go.Proofs.Ytnplhlcifagimaa
open Go.RowKit

structure MatchAt (w : World) (b : Nat) (t h : Edg) : Prop where
  c0 : w.cell? ⟨b, 0, none⟩ = some (.int .i64 t.k)
  c1 : w.cell? ⟨b, 1, none⟩ = some (.int .i64 t.a.1)
  c2 : w.cell? ⟨b, 2, none⟩ = some (.int .i64 t.a.2)
  c3 : w.cell? ⟨b, 3, none⟩ = some (.int .i64 t.w.1)
  c4 : w.cell? ⟨b, 4, none⟩ = some (.int .i64 t.w.2)
  c5 : w.cell? ⟨b, 5, none⟩ = some (.int .i64 t.d.1)
  c6 : w.cell? ⟨b, 6, none⟩ = some (.int .i64 t.d.2)
  c7 : w.cell? ⟨b, 7, none⟩ = some (.int .i64 h.k)
  c8 : w.cell? ⟨b, 8, none⟩ = some (.int .i64 h.a.1)
  c9 : w.cell? ⟨b, 9, none⟩ = some (.int .i64 h.a.2)
  c10 : w.cell? ⟨b, 10, none⟩ = some (.int .i64 h.w.1)
  c11 : w.cell? ⟨b, 11, none⟩ = some (.int .i64 h.w.2)
  c12 : w.cell? ⟨b, 12, none⟩ = some (.int .i64 h.d.1)
  c13 : w.cell? ⟨b, 13, none⟩ = some (.int .i64 h.d.2)
theorem MatchAt.of {w : World} {b : Nat} {t h : Edg} {T : TypeId} (hb : w.heap[b]? = some (.cells (mtC t h) T)) : MatchAt w b t h := by
  constructor <;> simp [World.cell?, hb]

/-- n cells that hold 0 and may be written. -/
def FreeAt (w : World) (b n : Nat) : Prop := (∀ o, o < n → w.cell? ⟨b, o, none⟩ = some (.int .i64 0)) ∧ (∀ o, o < n → w.frozen? ⟨b, o, none⟩ = false)
theorem FreeAt.of {w : World} {b n : Nat} {T : TypeId} (hb : w.heap[b]? = some (.cells (Array.replicate n (.int .i64 0)) T)) : FreeAt w b n :=
  ⟨fun o ho => by simp [World.cell?, hb, ho], fun o _ => cells_frozen hb o⟩

def orderedR (a b : Edg) : (Edg × Edg) × Bool := if a.k = 2 then ((b, a), b.k == 1) else ((a, b), a.k == 1 && b.k == 2)

@[reducible] def z14 : Array Value := #[.int .i64 0, .int .i64 0, .int .i64 0, .int .i64 0, .int .i64 0, .int .i64 0, .int .i64 0, .int .i64 0, .int .i64 0, .int .i64 0, .int .i64 0, .int .i64 0, .int .i64 0, .int .i64 0]

set_option maxRecDepth 100000 in
set_option maxHeartbeats 4000000 in
theorem ordered_21 (aa aw ad ba bw bd : Int × Int) (w : World) :
    Calls Try.prog 28 #[edV ⟨2, aa, aw, ad⟩, edV ⟨1, ba, bw, bd⟩] w fun e w' => e = .returned (.tuple #[mtV ⟨1, ba, bw, bd⟩ ⟨2, aa, aw, ad⟩, .bool true]) ∧ Mod noB w w' := by
  obtain ⟨W1, hW1⟩ : ∃ W1, (((w.alloc (.cells (edC ⟨2, aa, aw, ad⟩) 36)).alloc (.cells (edC ⟨1, ba, bw, bd⟩) 36)).alloc (.cells z14 64)).alloc (.cells (mtC ⟨1, ba, bw, bd⟩ ⟨2, aa, aw, ad⟩) 64) = W1 := ⟨_, rfl⟩
  have HM0 : Hold (Mod noB w W1) := ⟨by rw [← hW1]; exact ((((Mod.refl _ _).alloc _).alloc _).alloc _).alloc _⟩
  have hb0 : W1.heap[w.heap.size + 2]? = some (.cells z14 64) := by rw [← hW1, Below.heap_alloc _ _ _ (by simp)]; have := World.alloc_heap_new ((w.alloc (.cells (edC ⟨2, aa, aw, ad⟩) 36)).alloc (.cells (edC ⟨1, ba, bw, bd⟩) 36)) (.cells z14 64); simpa using this
  have hb1 : W1.heap[w.heap.size + 3]? = some (.cells (mtC ⟨1, ba, bw, bd⟩ ⟨2, aa, aw, ad⟩) 64) := by rw [← hW1]; have := World.alloc_heap_new (((w.alloc (.cells (edC ⟨2, aa, aw, ad⟩) 36)).alloc (.cells (edC ⟨1, ba, bw, bd⟩) 36)).alloc (.cells z14 64)) (.cells (mtC ⟨1, ba, bw, bd⟩ ⟨2, aa, aw, ad⟩) 64); simpa using this
  have FIN : Hold (∀ W', Mod noB W1 W' → MatchAt W' (w.heap.size + 1 + 1 + 1) ⟨1, ba, bw, bd⟩ ⟨2, aa, aw, ad⟩ ∧ FreeAt W' (w.heap.size + 1 + 1) 14) := ⟨fun W' h => ⟨MatchAt.of (h.at hb1 id), FreeAt.of (h.at hb0 id)⟩⟩
  clear hb0 hb1
  go_enter Try.func28, Try.ntmps28
  go_wp2
  obtain ⟨⟨q0, q1, q2, q3, q4, q5, q6, q7, q8, q9, q10, q11, q12, q13⟩, z, f⟩ := FIN.out W1 (Mod.refl _ _)
  clear hW1
  go_region
  go_wp2
  refine bodyPost_ret (v := .tuple #[mtV ⟨1, ba, bw, bd⟩ ⟨2, aa, aw, ad⟩, .bool true]) ?_ rfl ⟨rfl, ?_⟩
  · simp [results, Try.results28, go_sem, *]
  · exact Mod.drew (Mod.setNew (Mod.setNew (Mod.setNew (Mod.setNew (Mod.setNew (Mod.setNew (Mod.setNew (Mod.setNew (Mod.setNew (Mod.setNew (Mod.setNew (Mod.setNew (Mod.setNew (Mod.setNew (HM0.out) (by omega) _) (by omega) _) (by omega) _) (by omega) _) (by omega) _) (by omega) _) (by omega) _) (by omega) _) (by omega) _) (by omega) _) (by omega) _) (by omega) _) (by omega) _) (by omega) _)

set_option maxRecDepth 100000 in
set_option maxHeartbeats 4000000 in
theorem ordered_2x (bk : Int) (aa aw ad ba bw bd : Int × Int) (w : World) (k1 : (bk == 1) = false) :
    Calls Try.prog 28 #[edV ⟨2, aa, aw, ad⟩, edV ⟨bk, ba, bw, bd⟩] w fun e w' => e = .returned (.tuple #[mtV ⟨bk, ba, bw, bd⟩ ⟨2, aa, aw, ad⟩, .bool false]) ∧ Mod noB w w' := by
  obtain ⟨W1, hW1⟩ : ∃ W1, (((w.alloc (.cells (edC ⟨2, aa, aw, ad⟩) 36)).alloc (.cells (edC ⟨bk, ba, bw, bd⟩) 36)).alloc (.cells z14 64)).alloc (.cells (mtC ⟨bk, ba, bw, bd⟩ ⟨2, aa, aw, ad⟩) 64) = W1 := ⟨_, rfl⟩
  have HM0 : Hold (Mod noB w W1) := ⟨by rw [← hW1]; exact ((((Mod.refl _ _).alloc _).alloc _).alloc _).alloc _⟩
  have hb0 : W1.heap[w.heap.size + 2]? = some (.cells z14 64) := by rw [← hW1, Below.heap_alloc _ _ _ (by simp)]; have := World.alloc_heap_new ((w.alloc (.cells (edC ⟨2, aa, aw, ad⟩) 36)).alloc (.cells (edC ⟨bk, ba, bw, bd⟩) 36)) (.cells z14 64); simpa using this
  have hb1 : W1.heap[w.heap.size + 3]? = some (.cells (mtC ⟨bk, ba, bw, bd⟩ ⟨2, aa, aw, ad⟩) 64) := by rw [← hW1]; have := World.alloc_heap_new (((w.alloc (.cells (edC ⟨2, aa, aw, ad⟩) 36)).alloc (.cells (edC ⟨bk, ba, bw, bd⟩) 36)).alloc (.cells z14 64)) (.cells (mtC ⟨bk, ba, bw, bd⟩ ⟨2, aa, aw, ad⟩) 64); simpa using this
  have FIN : Hold (∀ W', Mod noB W1 W' → MatchAt W' (w.heap.size + 1 + 1 + 1) ⟨bk, ba, bw, bd⟩ ⟨2, aa, aw, ad⟩ ∧ FreeAt W' (w.heap.size + 1 + 1) 14) := ⟨fun W' h => ⟨MatchAt.of (h.at hb1 id), FreeAt.of (h.at hb0 id)⟩⟩
  clear hb0 hb1
  go_enter Try.func28, Try.ntmps28
  go_wp2
  obtain ⟨⟨q0, q1, q2, q3, q4, q5, q6, q7, q8, q9, q10, q11, q12, q13⟩, z, f⟩ := FIN.out W1 (Mod.refl _ _)
  clear hW1
  go_region
  go_wp2
  refine bodyPost_ret (v := .tuple #[mtV ⟨bk, ba, bw, bd⟩ ⟨2, aa, aw, ad⟩, .bool false]) ?_ rfl ⟨rfl, ?_⟩
  · simp [results, Try.results28, go_sem, *]
  · exact Mod.drew (Mod.setNew (Mod.setNew (Mod.setNew (Mod.setNew (Mod.setNew (Mod.setNew (Mod.setNew (Mod.setNew (Mod.setNew (Mod.setNew (Mod.setNew (Mod.setNew (Mod.setNew (Mod.setNew (HM0.out) (by omega) _) (by omega) _) (by omega) _) (by omega) _) (by omega) _) (by omega) _) (by omega) _) (by omega) _) (by omega) _) (by omega) _) (by omega) _) (by omega) _) (by omega) _) (by omega) _)

set_option maxRecDepth 100000 in
set_option maxHeartbeats 4000000 in
theorem ordered_12 (aa aw ad ba bw bd : Int × Int) (w : World) :
    Calls Try.prog 28 #[edV ⟨1, aa, aw, ad⟩, edV ⟨2, ba, bw, bd⟩] w fun e w' => e = .returned (.tuple #[mtV ⟨1, aa, aw, ad⟩ ⟨2, ba, bw, bd⟩, .bool true]) ∧ Mod noB w w' := by
  obtain ⟨W1, hW1⟩ : ∃ W1, (((w.alloc (.cells (edC ⟨1, aa, aw, ad⟩) 36)).alloc (.cells (edC ⟨2, ba, bw, bd⟩) 36)).alloc (.cells z14 64)).alloc (.cells (mtC ⟨1, aa, aw, ad⟩ ⟨2, ba, bw, bd⟩) 64) = W1 := ⟨_, rfl⟩
  have HM0 : Hold (Mod noB w W1) := ⟨by rw [← hW1]; exact ((((Mod.refl _ _).alloc _).alloc _).alloc _).alloc _⟩
  have hb0 : W1.heap[w.heap.size + 2]? = some (.cells z14 64) := by rw [← hW1, Below.heap_alloc _ _ _ (by simp)]; have := World.alloc_heap_new ((w.alloc (.cells (edC ⟨1, aa, aw, ad⟩) 36)).alloc (.cells (edC ⟨2, ba, bw, bd⟩) 36)) (.cells z14 64); simpa using this
  have hb1 : W1.heap[w.heap.size + 3]? = some (.cells (mtC ⟨1, aa, aw, ad⟩ ⟨2, ba, bw, bd⟩) 64) := by rw [← hW1]; have := World.alloc_heap_new (((w.alloc (.cells (edC ⟨1, aa, aw, ad⟩) 36)).alloc (.cells (edC ⟨2, ba, bw, bd⟩) 36)).alloc (.cells z14 64)) (.cells (mtC ⟨1, aa, aw, ad⟩ ⟨2, ba, bw, bd⟩) 64); simpa using this
  have FIN : Hold (∀ W', Mod noB W1 W' → MatchAt W' (w.heap.size + 1 + 1 + 1) ⟨1, aa, aw, ad⟩ ⟨2, ba, bw, bd⟩ ∧ FreeAt W' (w.heap.size + 1 + 1) 14) := ⟨fun W' h => ⟨MatchAt.of (h.at hb1 id), FreeAt.of (h.at hb0 id)⟩⟩
  clear hb0 hb1
  obtain ⟨⟨q0, q1, q2, q3, q4, q5, q6, q7, q8, q9, q10, q11, q12, q13⟩, z, f⟩ := FIN.out W1 (Mod.refl _ _)
  go_enter Try.func28, Try.ntmps28
  go_wp2
  clear hW1
  go_region
  go_wp2
  refine bodyPost_ret (v := .tuple #[mtV ⟨1, aa, aw, ad⟩ ⟨2, ba, bw, bd⟩, .bool true]) ?_ rfl ⟨rfl, ?_⟩
  · simp [results, Try.results28, go_sem, *]
  · exact Mod.drew (Mod.setNew (Mod.setNew (Mod.setNew (Mod.setNew (Mod.setNew (Mod.setNew (Mod.setNew (Mod.setNew (Mod.setNew (Mod.setNew (Mod.setNew (Mod.setNew (Mod.setNew (Mod.setNew (HM0.out) (by omega) _) (by omega) _) (by omega) _) (by omega) _) (by omega) _) (by omega) _) (by omega) _) (by omega) _) (by omega) _) (by omega) _) (by omega) _) (by omega) _) (by omega) _) (by omega) _)

set_option maxRecDepth 100000 in
set_option maxHeartbeats 4000000 in
theorem ordered_1x (bk : Int) (aa aw ad ba bw bd : Int × Int) (w : World) (k1 : (bk == 2) = false) :
    Calls Try.prog 28 #[edV ⟨1, aa, aw, ad⟩, edV ⟨bk, ba, bw, bd⟩] w fun e w' => e = .returned (.tuple #[mtV ⟨1, aa, aw, ad⟩ ⟨bk, ba, bw, bd⟩, .bool false]) ∧ Mod noB w w' := by
  obtain ⟨W1, hW1⟩ : ∃ W1, (((w.alloc (.cells (edC ⟨1, aa, aw, ad⟩) 36)).alloc (.cells (edC ⟨bk, ba, bw, bd⟩) 36)).alloc (.cells z14 64)).alloc (.cells (mtC ⟨1, aa, aw, ad⟩ ⟨bk, ba, bw, bd⟩) 64) = W1 := ⟨_, rfl⟩
  have HM0 : Hold (Mod noB w W1) := ⟨by rw [← hW1]; exact ((((Mod.refl _ _).alloc _).alloc _).alloc _).alloc _⟩
  have hb0 : W1.heap[w.heap.size + 2]? = some (.cells z14 64) := by rw [← hW1, Below.heap_alloc _ _ _ (by simp)]; have := World.alloc_heap_new ((w.alloc (.cells (edC ⟨1, aa, aw, ad⟩) 36)).alloc (.cells (edC ⟨bk, ba, bw, bd⟩) 36)) (.cells z14 64); simpa using this
  have hb1 : W1.heap[w.heap.size + 3]? = some (.cells (mtC ⟨1, aa, aw, ad⟩ ⟨bk, ba, bw, bd⟩) 64) := by rw [← hW1]; have := World.alloc_heap_new (((w.alloc (.cells (edC ⟨1, aa, aw, ad⟩) 36)).alloc (.cells (edC ⟨bk, ba, bw, bd⟩) 36)).alloc (.cells z14 64)) (.cells (mtC ⟨1, aa, aw, ad⟩ ⟨bk, ba, bw, bd⟩) 64); simpa using this
  have FIN : Hold (∀ W', Mod noB W1 W' → MatchAt W' (w.heap.size + 1 + 1 + 1) ⟨1, aa, aw, ad⟩ ⟨bk, ba, bw, bd⟩ ∧ FreeAt W' (w.heap.size + 1 + 1) 14) := ⟨fun W' h => ⟨MatchAt.of (h.at hb1 id), FreeAt.of (h.at hb0 id)⟩⟩
  clear hb0 hb1
  obtain ⟨⟨q0, q1, q2, q3, q4, q5, q6, q7, q8, q9, q10, q11, q12, q13⟩, z, f⟩ := FIN.out W1 (Mod.refl _ _)
  go_enter Try.func28, Try.ntmps28
  go_wp2
  clear hW1
  go_region
  go_wp2
  refine bodyPost_ret (v := .tuple #[mtV ⟨1, aa, aw, ad⟩ ⟨bk, ba, bw, bd⟩, .bool false]) ?_ rfl ⟨rfl, ?_⟩
  · simp [results, Try.results28, go_sem, *]
  · exact Mod.drew (Mod.setNew (Mod.setNew (Mod.setNew (Mod.setNew (Mod.setNew (Mod.setNew (Mod.setNew (Mod.setNew (Mod.setNew (Mod.setNew (Mod.setNew (Mod.setNew (Mod.setNew (Mod.setNew (HM0.out) (by omega) _) (by omega) _) (by omega) _) (by omega) _) (by omega) _) (by omega) _) (by omega) _) (by omega) _) (by omega) _) (by omega) _) (by omega) _) (by omega) _) (by omega) _) (by omega) _)

set_option maxRecDepth 100000 in
set_option maxHeartbeats 4000000 in
theorem ordered_xx (ak bk : Int) (aa aw ad ba bw bd : Int × Int) (w : World) (k1 : (ak == 2) = false) (k2 : (ak == 1) = false) :
    Calls Try.prog 28 #[edV ⟨ak, aa, aw, ad⟩, edV ⟨bk, ba, bw, bd⟩] w fun e w' => e = .returned (.tuple #[mtV ⟨ak, aa, aw, ad⟩ ⟨bk, ba, bw, bd⟩, .bool false]) ∧ Mod noB w w' := by
  obtain ⟨W1, hW1⟩ : ∃ W1, (((w.alloc (.cells (edC ⟨ak, aa, aw, ad⟩) 36)).alloc (.cells (edC ⟨bk, ba, bw, bd⟩) 36)).alloc (.cells z14 64)).alloc (.cells (mtC ⟨ak, aa, aw, ad⟩ ⟨bk, ba, bw, bd⟩) 64) = W1 := ⟨_, rfl⟩
  have HM0 : Hold (Mod noB w W1) := ⟨by rw [← hW1]; exact ((((Mod.refl _ _).alloc _).alloc _).alloc _).alloc _⟩
  have hb0 : W1.heap[w.heap.size + 2]? = some (.cells z14 64) := by rw [← hW1, Below.heap_alloc _ _ _ (by simp)]; have := World.alloc_heap_new ((w.alloc (.cells (edC ⟨ak, aa, aw, ad⟩) 36)).alloc (.cells (edC ⟨bk, ba, bw, bd⟩) 36)) (.cells z14 64); simpa using this
  have hb1 : W1.heap[w.heap.size + 3]? = some (.cells (mtC ⟨ak, aa, aw, ad⟩ ⟨bk, ba, bw, bd⟩) 64) := by rw [← hW1]; have := World.alloc_heap_new (((w.alloc (.cells (edC ⟨ak, aa, aw, ad⟩) 36)).alloc (.cells (edC ⟨bk, ba, bw, bd⟩) 36)).alloc (.cells z14 64)) (.cells (mtC ⟨ak, aa, aw, ad⟩ ⟨bk, ba, bw, bd⟩) 64); simpa using this
  have FIN : Hold (∀ W', Mod noB W1 W' → MatchAt W' (w.heap.size + 1 + 1 + 1) ⟨ak, aa, aw, ad⟩ ⟨bk, ba, bw, bd⟩ ∧ FreeAt W' (w.heap.size + 1 + 1) 14) := ⟨fun W' h => ⟨MatchAt.of (h.at hb1 id), FreeAt.of (h.at hb0 id)⟩⟩
  clear hb0 hb1
  obtain ⟨⟨q0, q1, q2, q3, q4, q5, q6, q7, q8, q9, q10, q11, q12, q13⟩, z, f⟩ := FIN.out W1 (Mod.refl _ _)
  go_enter Try.func28, Try.ntmps28
  go_wp2
  clear hW1
  go_region
  go_wp2
  refine bodyPost_ret (v := .tuple #[mtV ⟨ak, aa, aw, ad⟩ ⟨bk, ba, bw, bd⟩, .bool false]) ?_ rfl ⟨rfl, ?_⟩
  · simp [results, Try.results28, go_sem, *]
  · exact Mod.drew (Mod.setNew (Mod.setNew (Mod.setNew (Mod.setNew (Mod.setNew (Mod.setNew (Mod.setNew (Mod.setNew (Mod.setNew (Mod.setNew (Mod.setNew (Mod.setNew (Mod.setNew (Mod.setNew (HM0.out) (by omega) _) (by omega) _) (by omega) _) (by omega) _) (by omega) _) (by omega) _) (by omega) _) (by omega) _) (by omega) _) (by omega) _) (by omega) _) (by omega) _) (by omega) _) (by omega) _)

theorem ordered_any (a b : Edg) (w : World) :
    Calls Try.prog 28 #[edV a, edV b] w fun e w' => e = .returned (.tuple #[mtV (orderedR a b).1.1 (orderedR a b).1.2, .bool (orderedR a b).2]) ∧ Mod noB w w' := by
  obtain ⟨ak, aa, aw, ad⟩ := a
  obtain ⟨bk, ba, bw, bd⟩ := b
  by_cases k2 : ak = 2
  · subst k2
    have e : orderedR ⟨2, aa, aw, ad⟩ ⟨bk, ba, bw, bd⟩ = ((⟨bk, ba, bw, bd⟩, ⟨2, aa, aw, ad⟩), bk == 1) := by simp [orderedR]
    rw [e]
    by_cases k1 : bk = 1
    · subst k1; exact ordered_21 aa aw ad ba bw bd w
    · have k1' : (bk == 1) = false := by simpa using k1
      rw [k1']; exact ordered_2x bk aa aw ad ba bw bd w k1'
  · have k2' : (ak == 2) = false := by simpa using k2
    have e : orderedR ⟨ak, aa, aw, ad⟩ ⟨bk, ba, bw, bd⟩ = ((⟨ak, aa, aw, ad⟩, ⟨bk, ba, bw, bd⟩), ak == 1 && bk == 2) := by simp [orderedR, k2]
    rw [e]
    by_cases k1 : ak = 1
    · subst k1
      by_cases k3 : bk = 2
      · subst k3; exact ordered_12 aa aw ad ba bw bd w
      · have k3' : (bk == 2) = false := by simpa using k3
        rw [k3']; exact ordered_1x bk aa aw ad ba bw bd w k3'
    · have k1' : (ak == 1) = false := by simpa using k1
      rw [k1']; exact ordered_xx ak bk aa aw ad ba bw bd w k2' k1'
end Go.Proofs.Ytnplhlcifagimaa

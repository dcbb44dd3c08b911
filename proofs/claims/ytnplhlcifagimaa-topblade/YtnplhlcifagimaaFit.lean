/- Fit. -/
import Derived.Test.YtnplhlcifagimaaGev
import Derived.Test.YtnplhlcifagimaaVerdicts
set_option linter.unusedSimpArgs false
set_option linter.unusedVariables false
namespace Go.Proofs.Ytnplhlcifagimaa
open Go.RowKit

def edL (e : Edg) : List Value := [.int .i64 e.k, .int .i64 e.a.1, .int .i64 e.a.2, .int .i64 e.w.1, .int .i64 e.w.2, .int .i64 e.d.1, .int .i64 e.d.2]
theorem edL_at (es : List Edg) : ∀ (k : Nat) (e : Edg) (j : Nat), es[k]? = some e → j < 7 → (es.flatMap edL)[k * 7 + j]? = (edL e)[j]? := by
  induction es with
  | nil => intro k e j h; cases h
  | cons x es ih =>
    intro k e j h hj
    rw [List.flatMap_cons]
    cases k with
    | zero =>
      obtain rfl : x = e := by simpa using h
      rw [List.getElem?_append_left (by simp [edL]; omega), Nat.zero_mul, Nat.zero_add]
    | succ k =>
      rw [List.getElem?_append_right (by simp [edL]; omega)]
      rw [show (k + 1) * 7 + j - (edL x).length = k * 7 + j by simp [edL]; omega]
      exact ih k e j (by simpa using h) hj

/-- A block whose cells are sides. -/
theorem edges_lit {w : World} {b : Nat} {cs : Array Value} {t : TypeId} (es : List Edg) (h : w.heap[b]? = some (.cells cs t)) (hc : cs.toList = es.flatMap edL) (hs : es.length ≤ 1000000) : EdgesAt w (some ⟨b, 0, none⟩) es :=
  ⟨fun _ => ⟨b, 0, rfl, (Array.getElem?_eq_some_iff.1 h).1, fun k e hk => by
    have H : ∀ j, j < 7 → w.cell? ⟨b, 0 + k * 7 + j, none⟩ = (edL e)[j]? := fun j hj => by
      rw [← edL_at es k e j hk hj, ← hc, Array.getElem?_toList, Nat.zero_add]
      exact cellsAt h _
    exact ⟨H 0 (by omega), H 1 (by omega), H 2 (by omega), H 3 (by omega), H 4 (by omega), H 5 (by omega), H 6 (by omega)⟩⟩, by omega⟩

/-- What Fit returns. -/
def fitE (p : Ply) (a b : Edg) : Int × Int := if playB p && (sideB a && sideB b) then (fitR p a b, 0) else (0, 1)

set_option maxRecDepth 100000 in
set_option maxHeartbeats 4000000 in
theorem fit_any (p : Ply) (a b : Edg) (w : World) :
    Calls Try.prog 7 #[plV p, edV a, edV b] w fun e w' => e = .returned (.tuple #[.int .i64 (fitE p a b).1, .int .i64 (fitE p a b).2]) ∧ Mod noB w w' := by
  have HP := Hold.mk (fun w => isPlay_any p w)
  have HAS := Hold.mk (fun ao cap w h => areSides_any ao [a, b] cap w h)
  have HM0 : Hold (Mod noB w (((w.alloc (.cells (plC p) 34)).alloc (.cells (edC a) 36)).alloc (.cells (edC b) 36))) := ⟨allocL_mod noB [_, _, _] w⟩
  have FIN : Hold (∀ W', Mod noB (((w.alloc (.cells (plC p) 34)).alloc (.cells (edC a) 36)).alloc (.cells (edC b) 36)) W' → PlayAt W' w.heap.size p ∧ EdgeAt W' (w.heap.size + 1) 0 a ∧ EdgeAt W' (w.heap.size + 1 + 1) 0 b ∧ w.heap.size + 1 + 1 < W'.heap.size ∧ w.heap.size + 1 < W'.heap.size ∧ w.heap.size < W'.heap.size) := ⟨fun W' h => by
    rw [allocL3] at h
    have hz := lt_allocL _ h
    simp at hz
    exact ⟨PlayAt.of (at_allocL _ h 0 _ rfl), EdgeAt.of (at_allocL _ h 1 _ rfl), EdgeAt.of (at_allocL _ h 2 _ rfl), by omega, by omega, by omega⟩⟩
  cases hp : playB p with
  | false =>
    rw [hp] at HP
    have HE : Hold (fitE p a b = (0, 1)) := ⟨by simp [fitE, hp]⟩
    clear hp
    go_enter Try.func7, Try.ntmps7
    go_wp2_with (go_at_call 15; refine (HP.out _).mono ?_; rintro e w1 ⟨rfl, hM1⟩; have HM1 := Hold.mk (hM1); clear hM1)
    go_ret2
    exact ⟨by rw [HE.out]; rfl, HM0.out.trans HM1.out⟩
  | true =>
    rw [hp] at HP
    cases hs : sidesB [a, b] with
    | false =>
      rw [hs] at HAS
      have HE : Hold (fitE p a b = (0, 1)) := ⟨by simp [sidesB] at hs; simp [fitE, hp]; intro h1; simp [hs h1]⟩
      clear hp hs
      go_enter Try.func7, Try.ntmps7
      go_wp2_with (first
        | (go_at_call 15; refine (HP.out _).mono ?_; rintro e w1 ⟨rfl, hM1⟩; obtain ⟨⟨p0, p1, p2, p3, p4⟩, ⟨a0, a1, a2, a3, a4, a5, a6⟩, ⟨b0, b1, b2, b3, b4, b5, b6⟩, z2, z1, z0⟩ := FIN.out _ hM1; have HM1 := Hold.mk hM1; clear hM1)
        | (go_at_call 16; refine (HAS.out _ _ _ (edges_lit [a, b] (World.alloc_heap_new _ _) rfl (by simp))).mono ?_; rintro e w2 ⟨rfl, hM2⟩; have HM2 := Hold.mk ((HM1.out.alloc _).trans hM2); clear hM2))
      go_ret2
      exact ⟨by rw [HE.out]; rfl, HM0.out.trans HM2.out⟩
    | true =>
      rw [hs] at HAS
      have hs2 : sideB a = true ∧ sideB b = true := by simpa [sidesB] using hs
      have HE : Hold (fitE p a b = (fitR p a b, 0)) := ⟨by simp [fitE, hp, hs2]⟩
      have HV := Hold.mk (fun ao cap w h => verdicts_any p a [b] ao cap w hp hs2.1 (by simp [hs2.2]) h (by simp))
      clear hp hs hs2
      go_enter Try.func7, Try.ntmps7
      go_wp2_with (first
        | (go_at_call 15; refine (HP.out _).mono ?_; rintro e w1 ⟨rfl, hM1⟩; obtain ⟨⟨p0, p1, p2, p3, p4⟩, ⟨a0, a1, a2, a3, a4, a5, a6⟩, ⟨b0, b1, b2, b3, b4, b5, b6⟩, z2, z1, z0⟩ := FIN.out _ hM1; have HM1 := Hold.mk hM1; clear hM1)
        | (go_at_call 16; refine (HAS.out _ _ _ (edges_lit [a, b] (World.alloc_heap_new _ _) rfl (by simp))).mono ?_; rintro e w2 ⟨rfl, hM2⟩
           clear p0 p1 p2 p3 p4 a0 a1 a2 a3 a4 a5 a6 b0 b1 b2 b3 b4 b5 b6 z2 z1 z0
           have hM3 := (HM1.out.alloc _).trans hM2
           obtain ⟨⟨p0, p1, p2, p3, p4⟩, ⟨a0, a1, a2, a3, a4, a5, a6⟩, ⟨b0, b1, b2, b3, b4, b5, b6⟩, z2, z1, z0⟩ := FIN.out _ hM3; have HM2 := Hold.mk hM3; clear hM2 hM3)
        | (go_at_call 17; refine (HV.out _ _ _ (edges_lit [b] (World.alloc_heap_new _ _) rfl (by simp))).mono ?_; rintro e w3 ⟨bv, hbv, rfl, hcv, hM3⟩
           have c0 := fcells_cell hcv (k := 0) (by simp)
           have HM3 := Hold.mk ((HM2.out.alloc _).trans hM3)
           clear hM3 hcv p0 p1 p2 p3 p4 a0 a1 a2 a3 a4 a5 a6 b0 b1 b2 b3 b4 b5 b6 z2 z1 z0))
      go_ret2
      exact ⟨by rw [HE.out]; rfl, HM0.out.trans HM3.out⟩
end Go.Proofs.Ytnplhlcifagimaa

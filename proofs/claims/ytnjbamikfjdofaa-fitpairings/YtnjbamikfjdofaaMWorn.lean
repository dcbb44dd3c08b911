/- A tab and a hole after some strokes. -/
import Derived.Test.YtnjbamikfjdofaaLeast
set_option linter.unusedSimpArgs false
set_option linter.unusedVariables false
namespace Go.Proofs.Ytnjbamikfjdofaa
open Go.RowKit Go.Shelf

structure MwFacts (t h : Edg) (wear : Int × Int) (w W' : World) : Prop where
  m : MatchAt W' w.heap.size t h
  w0 : W'.cell? ⟨w.heap.size + 1, 0, none⟩ = some (.int .i64 wear.1)
  w1 : W'.cell? ⟨w.heap.size + 1, 1, none⟩ = some (.int .i64 wear.2)
  z : FreeAt W' (w.heap.size + 1 + 1) 14
  n : w.heap.size + 1 + 1 < W'.heap.size
theorem mwFacts (t h : Edg) (wear : Int × Int) (w W' : World) (hm : Mod noB (((w.alloc (.cells (mtC t h) 87)).alloc (.cells #[.int .i64 wear.1, .int .i64 wear.2] 90)).alloc (.cells z14 87)) W') : MwFacts t h wear w W' := by
  rw [allocL3] at hm
  have e1 := at_allocL _ hm 1 _ rfl
  exact ⟨MatchAt.of (at_allocL _ hm 0 _ rfl), cellsAt e1 0, cellsAt e1 1, FreeAt.of (T := 87) (at_allocL _ hm 2 _ rfl), by have := lt_allocL _ hm; simp at this; omega⟩

theorem fourteenMod {w W' : World} {b : Nat} {v0 v1 v2 v3 v4 v5 v6 v7 v8 v9 v10 v11 v12 v13 : Value} (h : Mod noB w W') (hb : w.heap.size ≤ b) :
    Mod noB w ((((((((((((((W'.setCell ⟨b, 0, none⟩ v0).setCell ⟨b, 1, none⟩ v1).setCell ⟨b, 2, none⟩ v2).setCell ⟨b, 3, none⟩ v3).setCell ⟨b, 4, none⟩ v4).setCell ⟨b, 5, none⟩ v5).setCell ⟨b, 6, none⟩ v6).setCell ⟨b, 7, none⟩ v7).setCell ⟨b, 8, none⟩ v8).setCell ⟨b, 9, none⟩ v9).setCell ⟨b, 10, none⟩ v10).setCell ⟨b, 11, none⟩ v11).setCell ⟨b, 12, none⟩ v12).setCell ⟨b, 13, none⟩ v13) :=
  Mod.setNew (Mod.setNew (Mod.setNew (Mod.setNew (Mod.setNew (Mod.setNew (Mod.setNew (Mod.setNew (Mod.setNew (Mod.setNew (Mod.setNew (Mod.setNew (Mod.setNew (Mod.setNew h hb _) hb _) hb _) hb _) hb _) hb _) hb _) hb _) hb _) hb _) hb _) hb _) hb _) hb _

set_option maxRecDepth 100000 in
set_option maxHeartbeats 4000000 in
theorem mworn_of (t h t' h' : Edg) (wear : Int × Int) (n : Int) (o1 o2 : Bool) (w : World)
    (K1 : Hold (∀ w, Calls Try.prog 58 #[edV t, spV wear, .int .i64 n] w fun e w' => e = .returned (.tuple #[edV t', .bool o1]) ∧ Mod noB w w'))
    (K2 : Hold (∀ w, Calls Try.prog 58 #[edV h, spV wear, .int .i64 n] w fun e w' => e = .returned (.tuple #[edV h', .bool o2]) ∧ Mod noB w w')) :
    Calls Try.prog 82 #[mtV t h, spV wear, .int .i64 n] w fun e w' => e = .returned (.tuple #[mtV t' h', .bool (o1 && o2)]) ∧ Mod noB w w' := by
  have HM0 : Hold (Mod noB w (((w.alloc (.cells (mtC t h) 87)).alloc (.cells #[.int .i64 wear.1, .int .i64 wear.2] 90)).alloc (.cells z14 87))) := ⟨allocL_mod noB [_, _, _] w⟩
  have FIN := Hold.mk (mwFacts t h wear w)
  obtain ⟨⟨q0, q1, q2, q3, q4, q5, q6, q7, q8, q9, q10, q11, q12, q13⟩, r0, r1, ⟨z, f⟩, hz⟩ := FIN.out _ (Mod.refl _ _)
  clear q0 q1 q2 q3 q4 q5 q6 q7 q8 q9 q10 q11 q12 q13 r0 r1 z f hz
  cases o1 with
  | false =>
    go_enter Try.func82, Try.ntmps82
    go_wp2_with (first
      | (go_at_call 58; (with_reducible refine (K1.out _).mono ?_); rintro e w1 ⟨rfl, hM3⟩
         obtain ⟨⟨q0, q1, q2, q3, q4, q5, q6, q7, q8, q9, q10, q11, q12, q13⟩, r0, r1, ⟨z, f⟩, hz⟩ := FIN.out _ hM3
         have hzc : w.heap.size + 1 < w1.heap.size := (by omega)
         have hzd : w.heap.size < w1.heap.size := (by omega)
         have HM1 := Hold.mk hM3; clear hM3 z f)
      | (go_at_call 58; (with_reducible refine (K2.out _).mono ?_); rintro e w2 ⟨rfl, hM2⟩
         clear q0 q1 q2 q3 q4 q5 q6 q7 q8 q9 q10 q11 q12 q13 r0 r1 hz hzc hzd
         have hM3 := (HM1.out.alloc (.cells (edC t') 27)).trans hM2
         have hbt := hM2.at (World.alloc_heap_new w1 (.cells (edC t') 27)) id
         obtain ⟨t0, t1, t2, t3, t4, t5, t6⟩ := EdgeAt.of hbt
         obtain ⟨_, _, _, ⟨z, f⟩, hz⟩ := FIN.out _ hM3
         have hzt : w1.heap.size < w2.heap.size := (by have := hM2.size; simp at this; omega)
         have hzn : w1.heap.size ≠ w.heap.size + 1 + 1 := (by have := HM1.out.size; simp at this; omega)
         have z0 := z 0 (by omega); have z1 := z 1 (by omega); have z2 := z 2 (by omega); have z3 := z 3 (by omega); have z4 := z 4 (by omega); have z5 := z 5 (by omega); have z6 := z 6 (by omega)
         have z7 := z 7 (by omega); have z8 := z 8 (by omega); have z9 := z 9 (by omega); have z10 := z 10 (by omega); have z11 := z 11 (by omega); have z12 := z 12 (by omega); have z13 := z 13 (by omega)
         have f0 := f 0 (by omega); have f1 := f 1 (by omega); have f2 := f 2 (by omega); have f3 := f 3 (by omega); have f4 := f 4 (by omega); have f5 := f 5 (by omega); have f6 := f 6 (by omega)
         have f7 := f 7 (by omega); have f8 := f 8 (by omega); have f9 := f 9 (by omega); have f10 := f 10 (by omega); have f11 := f 11 (by omega); have f12 := f 12 (by omega); have f13 := f 13 (by omega)
         have HM2 := Hold.mk hM3; clear hM2 hM3 z f hbt))
    refine bodyPost_ret (v := .tuple #[mtV t' h', .bool false]) ?_ rfl ⟨rfl, ?_⟩
    · simp [results, Try.results82, go_sem, *]
    · exact (fourteenMod (HM0.out.trans HM2.out) (by omega)).alloc _
  | true =>
    go_enter Try.func82, Try.ntmps82
    go_wp2_with (first
      | (go_at_call 58; (with_reducible refine (K1.out _).mono ?_); rintro e w1 ⟨rfl, hM3⟩
         obtain ⟨⟨q0, q1, q2, q3, q4, q5, q6, q7, q8, q9, q10, q11, q12, q13⟩, r0, r1, ⟨z, f⟩, hz⟩ := FIN.out _ hM3
         have hzc : w.heap.size + 1 < w1.heap.size := (by omega)
         have hzd : w.heap.size < w1.heap.size := (by omega)
         have HM1 := Hold.mk hM3; clear hM3 z f)
      | (go_at_call 58; (with_reducible refine (K2.out _).mono ?_); rintro e w2 ⟨rfl, hM2⟩
         clear q0 q1 q2 q3 q4 q5 q6 q7 q8 q9 q10 q11 q12 q13 r0 r1 hz hzc hzd
         have hM3 := (HM1.out.alloc (.cells (edC t') 27)).trans hM2
         have hbt := hM2.at (World.alloc_heap_new w1 (.cells (edC t') 27)) id
         obtain ⟨t0, t1, t2, t3, t4, t5, t6⟩ := EdgeAt.of hbt
         obtain ⟨_, _, _, ⟨z, f⟩, hz⟩ := FIN.out _ hM3
         have hzt : w1.heap.size < w2.heap.size := (by have := hM2.size; simp at this; omega)
         have hzn : w1.heap.size ≠ w.heap.size + 1 + 1 := (by have := HM1.out.size; simp at this; omega)
         have z0 := z 0 (by omega); have z1 := z 1 (by omega); have z2 := z 2 (by omega); have z3 := z 3 (by omega); have z4 := z 4 (by omega); have z5 := z 5 (by omega); have z6 := z 6 (by omega)
         have z7 := z 7 (by omega); have z8 := z 8 (by omega); have z9 := z 9 (by omega); have z10 := z 10 (by omega); have z11 := z 11 (by omega); have z12 := z 12 (by omega); have z13 := z 13 (by omega)
         have f0 := f 0 (by omega); have f1 := f 1 (by omega); have f2 := f 2 (by omega); have f3 := f 3 (by omega); have f4 := f 4 (by omega); have f5 := f 5 (by omega); have f6 := f 6 (by omega)
         have f7 := f 7 (by omega); have f8 := f 8 (by omega); have f9 := f 9 (by omega); have f10 := f 10 (by omega); have f11 := f 11 (by omega); have f12 := f 12 (by omega); have f13 := f 13 (by omega)
         have HM2 := Hold.mk hM3; clear hM2 hM3 z f hbt))
    refine bodyPost_ret (v := .tuple #[mtV t' h', .bool o2]) ?_ rfl ⟨rfl, ?_⟩
    · simp [results, Try.results82, go_sem, *]
    · exact (fourteenMod (HM0.out.trans HM2.out) (by omega)).alloc _

/-- A match whose sides can be worn. -/
structure Tight (t h : Edg) : Prop where
  tk : t.k = 1
  hk : h.k = 2
  tw : Small 10000 t.w
  hw : Small 10000 h.w
  te : ESmall 1000000 t
  he : ESmall 1000000 h
theorem mworn_any (t h : Edg) (wear : Int × Int) (n : Int) (w : World) (hT : Tight t h) (hw : Small 100 wear) (hn : 0 ≤ n ∧ n ≤ 20000) :
    Calls Try.prog 82 #[mtV t h, spV wear, .int .i64 n] w fun e w' => e = .returned (.tuple #[mtV (wornR t wear n) (wornR h wear n), .bool (wornB t wear n && wornB h wear n)]) ∧ Mod noB w w' :=
  mworn_of t h _ _ wear n _ _ w ⟨fun w => worn_any t wear n w (.inl hT.tk) hT.tw hw hn⟩ ⟨fun w => worn_any h wear n w (.inr hT.hk) hT.hw hw hn⟩

/-- Whether both cannot be so, or the hole is at least as wide as the tab. -/
def wideB (t h : Edg) (wear : Int × Int) (n : Int) : Bool := !(wornB t wear n && wornB h wear n) || decide (0 ≤ (wideR (wornR t wear n) (wornR h wear n)).1)
/-- Whether both cannot be so, or the hole is too wide. -/
def looseB (t h : Edg) (wear : Int × Int) (p : Ply) (n : Int) : Bool := !(wornB t wear n && wornB h wear n) || decide (1000 * p.loose < (dampedR (wideR (wornR t wear n) (wornR h wear n)) p.damp).2)

theorem within_of {s : Int × Int} {lo hi : Int} (h : withinB s lo hi = true) : lo ≤ s.1 ∧ s.1 ≤ s.2 ∧ s.2 ≤ hi := by
  simp only [withinB, Bool.and_eq_true, decide_eq_true_eq] at h
  exact ⟨h.1.1, h.1.2, h.2⟩

theorem wornR_small {s : Edg} {wear : Int × Int} {n : Int} (hs : ESmall 1000000 s) (hb : wornB s wear n = true) : ESmall 1000000 (wornR s wear n) :=
  ⟨hs.1, within_small hb (by omega) (by omega), hs.2.2⟩

end Go.Proofs.Ytnjbamikfjdofaa

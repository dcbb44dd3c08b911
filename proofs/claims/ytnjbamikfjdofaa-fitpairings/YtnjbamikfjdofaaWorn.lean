/- worn: a tab or a hole after some strokes. -/
import Derived.Test.YtnjbamikfjdofaaFit
set_option linter.unusedSimpArgs false
set_option linter.unusedVariables false
namespace Go.Proofs.Ytnjbamikfjdofaa
open Go.RowKit Go.Shelf

theorem region_makerP {id : Nat} {Q : Exit → Act → World → Prop} {a : Act} {w : World} {l : List Oper} (lb : Nat → List Oper) (ia is : Nat) (oa os : Oper) (ob : Obj) (M : Made Try.prog l.toArray (fun b => (lb b).toArray) ia is oa os ob)
    (hB : ∀ b, Region.lexB .any (lb b).toArray = true) (hlen : ∀ b, (lb b).length = l.length)
    (h : ∀ b X, Sub w.drew X → wpQuiet Try.prog (lb b).toArray X (fun a' => ∀ w', Mod noB w.drew w' → w.heap.size ≤ b → w'.heap[b]? = some ob → wpListIn Fence.wide 3 Try.prog l.toArray Q [os] a' w') (lb b) a) : (Code.region id l.toArray true).wp Try.prog Q a w :=
  (wpIn_wide (n := 3)).1 (region_maker (fun _ => trivial) rfl wide_call mixed lb ia is oa os ob M hB hlen h)

/-- Its width after some strokes, in thousandths, and rounded; the side then. -/
def wornT (s : Edg) (wear : Int × Int) (n : Int) : Int × Int := if s.k = 1 then lessR (timesR s.w 1000) (timesR wear n) else plusR (timesR s.w 1000) (timesR wear n)
def wornR (s : Edg) (wear : Int × Int) (n : Int) : Edg := { s with w := roundedR (wornT s wear n) }
def wornB (s : Edg) (wear : Int × Int) (n : Int) : Bool := withinB (roundedR (wornT s wear n)) 1 3000

theorem wornT_small {s : Edg} {wear : Int × Int} {n : Int} (hs : Small 10000 s.w) (hw : Small 100 wear) (hn : 0 ≤ n ∧ n ≤ 20000) : Small 100000000 (wornT s wear n) := by
  have h1 : Small 10000000 (timesR s.w 1000) := (timesR_small (k := 1000) hs ⟨by omega, by omega⟩).le (by omega)
  have h2 : Small 2000000 (timesR wear n) := (timesR_small (k := 20000) hw ⟨by omega, by omega⟩).le (by omega)
  unfold wornT
  split
  · exact (lessR_small h1 h2).le (by omega)
  · exact (plusR_small h1 h2).le (by omega)

set_option maxRecDepth 100000 in
set_option maxHeartbeats 4000000 in
theorem worn_tab (a wi d wear : Int × Int) (n : Int) (w : World) (hs : Small 10000 wi) (hw : Small 100 wear) (hn : 0 ≤ n ∧ n ≤ 20000) :
    Calls Try.prog 58 #[edV ⟨1, a, wi, d⟩, spV wear, .int .i64 n] w fun e w' => e = .returned (.tuple #[edV (wornR ⟨1, a, wi, d⟩ wear n), .bool (wornB ⟨1, a, wi, d⟩ wear n)]) ∧ Mod noB w w' := by
  have H1 : Hold (∀ w, Calls Try.prog 78 #[spV wi, .int .i64 1000] w fun e w' => e = .returned (spV (timesR wi 1000)) ∧ Mod noB w w') := ⟨fun w => times_any wi 1000 w (hs.le (by omega)) ⟨by omega, by omega⟩⟩
  have H2 : Hold (∀ w, Calls Try.prog 78 #[spV wear, .int .i64 n] w fun e w' => e = .returned (spV (timesR wear n)) ∧ Mod noB w w') := ⟨fun w => times_any wear n w (hw.le (by omega)) ⟨by omega, by omega⟩⟩
  have ht := wornT_small (s := ⟨1, a, wi, d⟩) hs hw hn
  have hsum : wornT ⟨1, a, wi, d⟩ wear n = lessR (timesR wi 1000) (timesR wear n) := rfl
  have h1 : Small 10000000 (timesR wi 1000) := (timesR_small (k := 1000) hs ⟨by omega, by omega⟩).le (by omega)
  have h2 : Small 2000000 (timesR wear n) := (timesR_small (k := 20000) hw ⟨by omega, by omega⟩).le (by omega)
  have H3 : Hold (∀ w, Calls Try.prog 76 #[spV (timesR wi 1000), spV (timesR wear n)] w fun e w' => e = .returned (spV (wornT ⟨1, a, wi, d⟩ wear n)) ∧ Mod noB w w') := ⟨fun w => less_any _ _ w (h1.le (by omega)) (h2.le (by omega))⟩
  have H4 : Hold (∀ w, Calls Try.prog 53 #[spV (wornT ⟨1, a, wi, d⟩ wear n)] w fun e w' => e = .returned (spV (roundedR (wornT ⟨1, a, wi, d⟩ wear n))) ∧ Mod noB w w') := ⟨fun w => rounded_any _ w (ht.le (by omega))⟩
  have H5 : Hold (∀ w, Calls Try.prog 79 #[spV (roundedR (wornT ⟨1, a, wi, d⟩ wear n))] w fun e w' => e = .returned (.bool (wornB ⟨1, a, wi, d⟩ wear n)) ∧ Mod noB w w') := ⟨fun w => isBroad_any _ w⟩
  have HE : Hold (wornR ⟨1, a, wi, d⟩ wear n = ⟨1, a, roundedR (wornT ⟨1, a, wi, d⟩ wear n), d⟩) := ⟨rfl⟩
  generalize wornB ⟨1, a, wi, d⟩ wear n = ok at *
  generalize wornR ⟨1, a, wi, d⟩ wear n = res at *
  generalize hg : roundedR (wornT ⟨1, a, wi, d⟩ wear n) = rr at *
  generalize wornT ⟨1, a, wi, d⟩ wear n = t3 at *
  generalize timesR wi 1000 = t1 at *
  generalize timesR wear n = t2 at *
  clear hs hw hn ht hsum h1 h2 hg
  obtain ⟨r1, r2⟩ := rr
  go_enter Try.func58, Try.ntmps58
  go_wp2
  have HM1 : Hold (Mod noB w ((((w.alloc (.cells (edC ⟨1, a, wi, d⟩) 27)).alloc (.cells #[.int .i64 wear.1, .int .i64 wear.2] 90)).alloc (.cells (edC ⟨0, (0, 0), (0, 0), (0, 0)⟩) 27)).alloc (.cells #[.nilFunc, .func (.func 76) #[] #[], .func (.func 75) #[] #[]] 118))) := ⟨allocL_mod noB [_, _, _, _] w⟩
  have FIN : Hold (∀ W', Mod noB ((((w.alloc (.cells (edC ⟨1, a, wi, d⟩) 27)).alloc (.cells #[.int .i64 wear.1, .int .i64 wear.2] 90)).alloc (.cells (edC ⟨0, (0, 0), (0, 0), (0, 0)⟩) 27)).alloc (.cells #[.nilFunc, .func (.func 76) #[] #[], .func (.func 75) #[] #[]] 118)) W' →
      W'.heap[w.heap.size]? = some (.cells (edC ⟨1, a, wi, d⟩) 27) ∧ W'.heap[w.heap.size + 1]? = some (.cells #[.int .i64 wear.1, .int .i64 wear.2] 90) ∧ W'.heap[w.heap.size + 1 + 1]? = some (.cells (edC ⟨0, (0, 0), (0, 0), (0, 0)⟩) 27) ∧
      W'.heap[w.heap.size + 1 + 1 + 1]? = some (.cells #[.nilFunc, .func (.func 76) #[] #[], .func (.func 75) #[] #[]] 118) ∧ w.heap.size + 4 ≤ W'.heap.size) := ⟨fun W' h => by
    rw [allocL4] at h
    exact ⟨at_allocL _ h 0 _ rfl, at_allocL _ h 1 _ rfl, at_allocL _ h 2 _ rfl, at_allocL _ h 3 _ rfl, lt_allocL _ h⟩⟩
  change Code.wp _ _ _ _ ((((w.alloc (.cells (edC ⟨1, a, wi, d⟩) 27)).alloc (.cells #[.int .i64 wear.1, .int .i64 wear.2] 90)).alloc (.cells (edC ⟨0, (0, 0), (0, 0), (0, 0)⟩) 27)).alloc (.cells #[.nilFunc, .func (.func 76) #[] #[], .func (.func 75) #[] #[]] 118))
  generalize ((((w.alloc (.cells (edC ⟨1, a, wi, d⟩) 27)).alloc (.cells #[.int .i64 wear.1, .int .i64 wear.2] 90)).alloc (.cells (edC ⟨0, (0, 0), (0, 0), (0, 0)⟩) 27)).alloc (.cells #[.nilFunc, .func (.func 76) #[] #[], .func (.func 75) #[] #[]] 118)) = W1 at *
  refine region_makerP (swapL _ 12 13 _ _) 12 13 _ _ (.cells #[.int .i64 0, .int .i64 0] 90) (made_of (by decide) rfl rfl rfl rfl rfl (by kernel_rfl) (by kernel_rfl) (by kernel_rfl) (fun _ _ => rfl)) (fun _ => by kernel_rfl) (swapL_len _ _ _ _ _) ?_
  intro nb X hX
  dsimp only [swapL, List.set]
  have GET : Hold (∀ W', X W' → W'.cell? ⟨w.heap.size, 0, none⟩ = some (.int .i64 1) ∧ W'.cell? ⟨w.heap.size, 3, none⟩ = some (.int .i64 wi.1) ∧ W'.cell? ⟨w.heap.size, 4, none⟩ = some (.int .i64 wi.2) ∧
      W'.cell? ⟨w.heap.size + 1, 0, none⟩ = some (.int .i64 wear.1) ∧ W'.cell? ⟨w.heap.size + 1, 1, none⟩ = some (.int .i64 wear.2) ∧ W'.cell? ⟨w.heap.size + 1 + 1 + 1, 1, none⟩ = some (.func (.func 76) #[] #[])) := ⟨fun W' h => by
    obtain ⟨e0, e1, _, e3, _⟩ := FIN.out W' (((Mod.refl noB W1).drew).trans (hX.mod _ h))
    exact ⟨cellsAt e0 0, cellsAt e0 3, cellsAt e0 4, cellsAt e1 0, cellsAt e1 1, cellsAt e3 1⟩⟩
  repeat
    (first
      | go_big_quiet_skip
      | (go_big_quiet_want
         go_simp
         first
           | go_big_quiet_on
           | (refine ⟨⟨_, fun _ _ => rfl⟩, ?_⟩; go_big_quiet_on)
           | (apply Exists.intro
              refine ⟨fun W' hC => ?_, ?_⟩
              · obtain ⟨q0, q3, q4, r0, r1, f1⟩ := GET.out W' hC
                first
                  | (go_at_call 78; (with_reducible refine (H1.out _).mono ?_); exact fun e w'' he => ⟨he.1, hX.stable _ _ hC he.2⟩)
                  | (go_at_call 78; (with_reducible refine (H2.out _).mono ?_); exact fun e w'' he => ⟨he.1, hX.stable _ _ hC he.2⟩)
                  | (go_at_call 76; (with_reducible refine (H3.out _).mono ?_); exact fun e w'' he => ⟨he.1, hX.stable _ _ hC he.2⟩)
                  | with_reducible rfl
                  | (go_simp; first | rfl | exact ⟨rfl, rfl⟩)
              go_big_quiet_on)))
  refine wpQuiet_nil ?_
  intro Wq hMq hnb hbq
  have hMq1 := ((Mod.refl noB W1).drew).trans hMq
  have hnb0 : w.heap.size + 4 ≤ nb := Nat.le_trans (FIN.out W1 (Mod.refl _ _)).2.2.2.2 hnb
  have HB := Hold.mk hbq
  have HMq := Hold.mk hMq1
  clear hbq hMq hMq1 hX GET
  refine wpListIn_storeRow rfl 90 (.tmp 9) (.tmp 22) rfl nb rfl #[.int .i64 t3.1, .int .i64 t3.2] rfl 90 _ HB.out (by kernel_rfl) rfl (by simp [Value.oneCell']) ?_
  refine wpListIn_nil ?_
  obtain ⟨W3, hW3⟩ : ∃ W3, Wq.putObj nb (.cells #[.int .i64 t3.1, .int .i64 t3.2] 90) = W3 := ⟨_, rfl⟩
  rw [hW3]
  have hb3 : W3.heap[nb]? = some (.cells #[.int .i64 t3.1, .int .i64 t3.2] 90) := by rw [← hW3]; exact World.putObj_heap_same (Array.getElem?_eq_some_iff.1 HB.out).1
  have HM3 : Hold (Mod noB W1 W3) := ⟨by rw [← hW3]; exact HMq.out.putObj (fun h => by omega) _⟩
  clear hW3
  have k0 := cellsAt hb3 0
  have k1 := cellsAt hb3 1
  clear hb3
  go_wp2_with (go_at_call 53; (with_reducible refine (H4.out _).mono ?_); rintro e w5 ⟨rfl, hM5⟩
               have hM6 := HM3.out.trans hM5
               obtain ⟨e0, e1, e2, e3, e4⟩ := FIN.out _ hM6
               have g0 : w.heap.size < w5.heap.size := (by omega)
               have g3 := cellsAt e0 3
               have g4 := cellsAt e0 4
               have g5 := cells_frozen e0 3
               have g6 := cells_frozen e0 4
               have HM5 := Hold.mk hM6
               clear hM5 hM6 e0 e1 e2 e3 e4)
  have F5 := FIN.out _ HM5.out
  have h60 : ((w5.setCell ⟨w.heap.size, 3, none⟩ (.int .i64 r1)).setCell ⟨w.heap.size, 4, none⟩ (.int .i64 r2)).heap[w.heap.size]? = some (.cells (edC ⟨1, a, (r1, r2), d⟩) 27) := by rw [setCell_at (setCell_at F5.1 3 _) 4]; rfl
  have hM6 : Mod (fun b => b = w.heap.size) w5 ((w5.setCell ⟨w.heap.size, 3, none⟩ (.int .i64 r1)).setCell ⟨w.heap.size, 4, none⟩ (.int .i64 r2)) := ((Mod.refl (fun b => b = w.heap.size) w5).setCell (p := ⟨w.heap.size, 3, none⟩) (fun _ => rfl) _).setCell (p := ⟨w.heap.size, 4, none⟩) (fun _ => rfl) _
  have h62 := hM6.at F5.2.2.1 (by omega)
  have HM6 : Hold (Mod noB w ((w5.setCell ⟨w.heap.size, 3, none⟩ (.int .i64 r1)).setCell ⟨w.heap.size, 4, none⟩ (.int .i64 r2))) := ⟨(HM1.out.trans HM5.out).then hM6 (fun i h1 h2 => by omega)⟩
  generalize (w5.setCell ⟨w.heap.size, 3, none⟩ (.int .i64 r1)).setCell ⟨w.heap.size, 4, none⟩ (.int .i64 r2) = W6 at *
  have FIN6 : Hold (∀ W', Mod noB W6 W' → EdgeAt W' w.heap.size 0 ⟨1, a, (r1, r2), d⟩ ∧ FreeAt W' (w.heap.size + 1 + 1) 7) := ⟨fun W' h => ⟨EdgeAt.of (h.at h60 id), FreeAt.of (T := 27) (h.at h62 id)⟩⟩
  clear h60 hM6 h62 F5 g0 g3 g4 g5 g6 k0 k1
  refine region_tailP 4 ⟨by decide, by kernel_rfl, by kernel_rfl, by kernel_rfl, by kernel_rfl, by kernel_rfl⟩ (by kernel_rfl) (fun W' => Mod noB W6 W') ((Mod.refl _ _).drew) ?_
  simp only [strikeL, List.take_succ_cons, List.take_zero, List.drop_succ_cons, List.drop_zero, List.map_cons, List.map_nil, List.cons_append, List.nil_append, bareO]
  repeat
    (first
      | go_big_quiet_skip
      | (go_big_quiet_want
         go_simp
         first
           | go_big_quiet_on
           | (apply Exists.intro
              refine ⟨fun W' hC => ?_, ?_⟩
              · obtain ⟨⟨q0, q1, q2, q3, q4, q5, q6⟩, _⟩ := FIN6.out W' hC
                first
                  | (go_at_call 79; (with_reducible refine (H5.out _).mono ?_); exact fun e w'' he => ⟨he.1, hC.trans he.2⟩)
                  | with_reducible rfl
                  | (go_simp; first | rfl | exact ⟨rfl, rfl⟩)
              go_big_quiet_on)
           | (refine ⟨⟨_, fun _ _ => rfl⟩, ?_⟩; go_big_quiet_on)))
  refine wpQuiet_nil ?_
  intro Wz hz
  obtain ⟨_, z, f⟩ := FIN6.out Wz hz
  have HZ := Hold.mk hz
  clear hz
  have z0 := z 0 (by omega)
  have z1 := z 1 (by omega)
  have z2 := z 2 (by omega)
  have z3 := z 3 (by omega)
  have z4 := z 4 (by omega)
  have z5 := z 5 (by omega)
  have z6 := z 6 (by omega)
  have f0 := f 0 (by omega)
  have f1 := f 1 (by omega)
  have f2 := f 2 (by omega)
  have f3 := f 3 (by omega)
  have f4 := f 4 (by omega)
  have f5 := f 5 (by omega)
  have f6 := f 6 (by omega)
  clear z f
  gi_wp2
  go_wp2
  refine bodyPost_ret (v := .tuple #[edV ⟨1, a, (r1, r2), d⟩, .bool ok]) ?_ rfl ⟨by rw [HE.out], ?_⟩
  · simp [results, Try.results58, go_sem, *]
  · exact Mod.setNew (Mod.setNew (Mod.setNew (Mod.setNew (Mod.setNew (Mod.setNew (Mod.setNew (HM6.out.trans HZ.out) (by omega) _) (by omega) _) (by omega) _) (by omega) _) (by omega) _) (by omega) _) (by omega) _
set_option maxRecDepth 100000 in
set_option maxHeartbeats 4000000 in
theorem worn_hole (a wi d wear : Int × Int) (n : Int) (w : World) (hs : Small 10000 wi) (hw : Small 100 wear) (hn : 0 ≤ n ∧ n ≤ 20000) :
    Calls Try.prog 58 #[edV ⟨2, a, wi, d⟩, spV wear, .int .i64 n] w fun e w' => e = .returned (.tuple #[edV (wornR ⟨2, a, wi, d⟩ wear n), .bool (wornB ⟨2, a, wi, d⟩ wear n)]) ∧ Mod noB w w' := by
  have H1 : Hold (∀ w, Calls Try.prog 78 #[spV wi, .int .i64 1000] w fun e w' => e = .returned (spV (timesR wi 1000)) ∧ Mod noB w w') := ⟨fun w => times_any wi 1000 w (hs.le (by omega)) ⟨by omega, by omega⟩⟩
  have H2 : Hold (∀ w, Calls Try.prog 78 #[spV wear, .int .i64 n] w fun e w' => e = .returned (spV (timesR wear n)) ∧ Mod noB w w') := ⟨fun w => times_any wear n w (hw.le (by omega)) ⟨by omega, by omega⟩⟩
  have ht := wornT_small (s := ⟨2, a, wi, d⟩) hs hw hn
  have hsum : wornT ⟨2, a, wi, d⟩ wear n = plusR (timesR wi 1000) (timesR wear n) := rfl
  have h1 : Small 10000000 (timesR wi 1000) := (timesR_small (k := 1000) hs ⟨by omega, by omega⟩).le (by omega)
  have h2 : Small 2000000 (timesR wear n) := (timesR_small (k := 20000) hw ⟨by omega, by omega⟩).le (by omega)
  have H3 : Hold (∀ w, Calls Try.prog 75 #[spV (timesR wi 1000), spV (timesR wear n)] w fun e w' => e = .returned (spV (wornT ⟨2, a, wi, d⟩ wear n)) ∧ Mod noB w w') := ⟨fun w => plus_any _ _ w (h1.le (by omega)) (h2.le (by omega))⟩
  have H4 : Hold (∀ w, Calls Try.prog 53 #[spV (wornT ⟨2, a, wi, d⟩ wear n)] w fun e w' => e = .returned (spV (roundedR (wornT ⟨2, a, wi, d⟩ wear n))) ∧ Mod noB w w') := ⟨fun w => rounded_any _ w (ht.le (by omega))⟩
  have H5 : Hold (∀ w, Calls Try.prog 79 #[spV (roundedR (wornT ⟨2, a, wi, d⟩ wear n))] w fun e w' => e = .returned (.bool (wornB ⟨2, a, wi, d⟩ wear n)) ∧ Mod noB w w') := ⟨fun w => isBroad_any _ w⟩
  have HE : Hold (wornR ⟨2, a, wi, d⟩ wear n = ⟨2, a, roundedR (wornT ⟨2, a, wi, d⟩ wear n), d⟩) := ⟨rfl⟩
  generalize wornB ⟨2, a, wi, d⟩ wear n = ok at *
  generalize wornR ⟨2, a, wi, d⟩ wear n = res at *
  generalize hg : roundedR (wornT ⟨2, a, wi, d⟩ wear n) = rr at *
  generalize wornT ⟨2, a, wi, d⟩ wear n = t3 at *
  generalize timesR wi 1000 = t1 at *
  generalize timesR wear n = t2 at *
  clear hs hw hn ht hsum h1 h2 hg
  obtain ⟨r1, r2⟩ := rr
  go_enter Try.func58, Try.ntmps58
  go_wp2
  have HM1 : Hold (Mod noB w ((((w.alloc (.cells (edC ⟨2, a, wi, d⟩) 27)).alloc (.cells #[.int .i64 wear.1, .int .i64 wear.2] 90)).alloc (.cells (edC ⟨0, (0, 0), (0, 0), (0, 0)⟩) 27)).alloc (.cells #[.nilFunc, .func (.func 76) #[] #[], .func (.func 75) #[] #[]] 118))) := ⟨allocL_mod noB [_, _, _, _] w⟩
  have FIN : Hold (∀ W', Mod noB ((((w.alloc (.cells (edC ⟨2, a, wi, d⟩) 27)).alloc (.cells #[.int .i64 wear.1, .int .i64 wear.2] 90)).alloc (.cells (edC ⟨0, (0, 0), (0, 0), (0, 0)⟩) 27)).alloc (.cells #[.nilFunc, .func (.func 76) #[] #[], .func (.func 75) #[] #[]] 118)) W' →
      W'.heap[w.heap.size]? = some (.cells (edC ⟨2, a, wi, d⟩) 27) ∧ W'.heap[w.heap.size + 1]? = some (.cells #[.int .i64 wear.1, .int .i64 wear.2] 90) ∧ W'.heap[w.heap.size + 1 + 1]? = some (.cells (edC ⟨0, (0, 0), (0, 0), (0, 0)⟩) 27) ∧
      W'.heap[w.heap.size + 1 + 1 + 1]? = some (.cells #[.nilFunc, .func (.func 76) #[] #[], .func (.func 75) #[] #[]] 118) ∧ w.heap.size + 4 ≤ W'.heap.size) := ⟨fun W' h => by
    rw [allocL4] at h
    exact ⟨at_allocL _ h 0 _ rfl, at_allocL _ h 1 _ rfl, at_allocL _ h 2 _ rfl, at_allocL _ h 3 _ rfl, lt_allocL _ h⟩⟩
  change Code.wp _ _ _ _ ((((w.alloc (.cells (edC ⟨2, a, wi, d⟩) 27)).alloc (.cells #[.int .i64 wear.1, .int .i64 wear.2] 90)).alloc (.cells (edC ⟨0, (0, 0), (0, 0), (0, 0)⟩) 27)).alloc (.cells #[.nilFunc, .func (.func 76) #[] #[], .func (.func 75) #[] #[]] 118))
  generalize ((((w.alloc (.cells (edC ⟨2, a, wi, d⟩) 27)).alloc (.cells #[.int .i64 wear.1, .int .i64 wear.2] 90)).alloc (.cells (edC ⟨0, (0, 0), (0, 0), (0, 0)⟩) 27)).alloc (.cells #[.nilFunc, .func (.func 76) #[] #[], .func (.func 75) #[] #[]] 118)) = W1 at *
  refine region_makerP (swapL _ 12 13 _ _) 12 13 _ _ (.cells #[.int .i64 0, .int .i64 0] 90) (made_of (by decide) rfl rfl rfl rfl rfl (by kernel_rfl) (by kernel_rfl) (by kernel_rfl) (fun _ _ => rfl)) (fun _ => by kernel_rfl) (swapL_len _ _ _ _ _) ?_
  intro nb X hX
  dsimp only [swapL, List.set]
  have GET : Hold (∀ W', X W' → W'.cell? ⟨w.heap.size, 0, none⟩ = some (.int .i64 2) ∧ W'.cell? ⟨w.heap.size, 3, none⟩ = some (.int .i64 wi.1) ∧ W'.cell? ⟨w.heap.size, 4, none⟩ = some (.int .i64 wi.2) ∧
      W'.cell? ⟨w.heap.size + 1, 0, none⟩ = some (.int .i64 wear.1) ∧ W'.cell? ⟨w.heap.size + 1, 1, none⟩ = some (.int .i64 wear.2) ∧ W'.cell? ⟨w.heap.size + 1 + 1 + 1, 2, none⟩ = some (.func (.func 75) #[] #[])) := ⟨fun W' h => by
    obtain ⟨e0, e1, _, e3, _⟩ := FIN.out W' (((Mod.refl noB W1).drew).trans (hX.mod _ h))
    exact ⟨cellsAt e0 0, cellsAt e0 3, cellsAt e0 4, cellsAt e1 0, cellsAt e1 1, cellsAt e3 2⟩⟩
  repeat
    (first
      | go_big_quiet_skip
      | (go_big_quiet_want
         go_simp
         first
           | go_big_quiet_on
           | (refine ⟨⟨_, fun _ _ => rfl⟩, ?_⟩; go_big_quiet_on)
           | (apply Exists.intro
              refine ⟨fun W' hC => ?_, ?_⟩
              · obtain ⟨q0, q3, q4, r0, r1, f1⟩ := GET.out W' hC
                first
                  | (go_at_call 78; (with_reducible refine (H1.out _).mono ?_); exact fun e w'' he => ⟨he.1, hX.stable _ _ hC he.2⟩)
                  | (go_at_call 78; (with_reducible refine (H2.out _).mono ?_); exact fun e w'' he => ⟨he.1, hX.stable _ _ hC he.2⟩)
                  | (go_at_call 75; (with_reducible refine (H3.out _).mono ?_); exact fun e w'' he => ⟨he.1, hX.stable _ _ hC he.2⟩)
                  | with_reducible rfl
                  | (go_simp; first | rfl | exact ⟨rfl, rfl⟩)
              go_big_quiet_on)))
  refine wpQuiet_nil ?_
  intro Wq hMq hnb hbq
  have hMq1 := ((Mod.refl noB W1).drew).trans hMq
  have hnb0 : w.heap.size + 4 ≤ nb := Nat.le_trans (FIN.out W1 (Mod.refl _ _)).2.2.2.2 hnb
  have HB := Hold.mk hbq
  have HMq := Hold.mk hMq1
  clear hbq hMq hMq1 hX GET
  refine wpListIn_storeRow rfl 90 (.tmp 9) (.tmp 22) rfl nb rfl #[.int .i64 t3.1, .int .i64 t3.2] rfl 90 _ HB.out (by kernel_rfl) rfl (by simp [Value.oneCell']) ?_
  refine wpListIn_nil ?_
  obtain ⟨W3, hW3⟩ : ∃ W3, Wq.putObj nb (.cells #[.int .i64 t3.1, .int .i64 t3.2] 90) = W3 := ⟨_, rfl⟩
  rw [hW3]
  have hb3 : W3.heap[nb]? = some (.cells #[.int .i64 t3.1, .int .i64 t3.2] 90) := by rw [← hW3]; exact World.putObj_heap_same (Array.getElem?_eq_some_iff.1 HB.out).1
  have HM3 : Hold (Mod noB W1 W3) := ⟨by rw [← hW3]; exact HMq.out.putObj (fun h => by omega) _⟩
  clear hW3
  have k0 := cellsAt hb3 0
  have k1 := cellsAt hb3 1
  clear hb3
  go_wp2_with (go_at_call 53; (with_reducible refine (H4.out _).mono ?_); rintro e w5 ⟨rfl, hM5⟩
               have hM6 := HM3.out.trans hM5
               obtain ⟨e0, e1, e2, e3, e4⟩ := FIN.out _ hM6
               have g0 : w.heap.size < w5.heap.size := (by omega)
               have g3 := cellsAt e0 3
               have g4 := cellsAt e0 4
               have g5 := cells_frozen e0 3
               have g6 := cells_frozen e0 4
               have HM5 := Hold.mk hM6
               clear hM5 hM6 e0 e1 e2 e3 e4)
  have F5 := FIN.out _ HM5.out
  have h60 : ((w5.setCell ⟨w.heap.size, 3, none⟩ (.int .i64 r1)).setCell ⟨w.heap.size, 4, none⟩ (.int .i64 r2)).heap[w.heap.size]? = some (.cells (edC ⟨2, a, (r1, r2), d⟩) 27) := by rw [setCell_at (setCell_at F5.1 3 _) 4]; rfl
  have hM6 : Mod (fun b => b = w.heap.size) w5 ((w5.setCell ⟨w.heap.size, 3, none⟩ (.int .i64 r1)).setCell ⟨w.heap.size, 4, none⟩ (.int .i64 r2)) := ((Mod.refl (fun b => b = w.heap.size) w5).setCell (p := ⟨w.heap.size, 3, none⟩) (fun _ => rfl) _).setCell (p := ⟨w.heap.size, 4, none⟩) (fun _ => rfl) _
  have h62 := hM6.at F5.2.2.1 (by omega)
  have HM6 : Hold (Mod noB w ((w5.setCell ⟨w.heap.size, 3, none⟩ (.int .i64 r1)).setCell ⟨w.heap.size, 4, none⟩ (.int .i64 r2))) := ⟨(HM1.out.trans HM5.out).then hM6 (fun i h1 h2 => by omega)⟩
  generalize (w5.setCell ⟨w.heap.size, 3, none⟩ (.int .i64 r1)).setCell ⟨w.heap.size, 4, none⟩ (.int .i64 r2) = W6 at *
  have FIN6 : Hold (∀ W', Mod noB W6 W' → EdgeAt W' w.heap.size 0 ⟨2, a, (r1, r2), d⟩ ∧ FreeAt W' (w.heap.size + 1 + 1) 7) := ⟨fun W' h => ⟨EdgeAt.of (h.at h60 id), FreeAt.of (T := 27) (h.at h62 id)⟩⟩
  clear h60 hM6 h62 F5 g0 g3 g4 g5 g6 k0 k1
  refine region_tailP 4 ⟨by decide, by kernel_rfl, by kernel_rfl, by kernel_rfl, by kernel_rfl, by kernel_rfl⟩ (by kernel_rfl) (fun W' => Mod noB W6 W') ((Mod.refl _ _).drew) ?_
  simp only [strikeL, List.take_succ_cons, List.take_zero, List.drop_succ_cons, List.drop_zero, List.map_cons, List.map_nil, List.cons_append, List.nil_append, bareO]
  repeat
    (first
      | go_big_quiet_skip
      | (go_big_quiet_want
         go_simp
         first
           | go_big_quiet_on
           | (apply Exists.intro
              refine ⟨fun W' hC => ?_, ?_⟩
              · obtain ⟨⟨q0, q1, q2, q3, q4, q5, q6⟩, _⟩ := FIN6.out W' hC
                first
                  | (go_at_call 79; (with_reducible refine (H5.out _).mono ?_); exact fun e w'' he => ⟨he.1, hC.trans he.2⟩)
                  | with_reducible rfl
                  | (go_simp; first | rfl | exact ⟨rfl, rfl⟩)
              go_big_quiet_on)
           | (refine ⟨⟨_, fun _ _ => rfl⟩, ?_⟩; go_big_quiet_on)))
  refine wpQuiet_nil ?_
  intro Wz hz
  obtain ⟨_, z, f⟩ := FIN6.out Wz hz
  have HZ := Hold.mk hz
  clear hz
  have z0 := z 0 (by omega)
  have z1 := z 1 (by omega)
  have z2 := z 2 (by omega)
  have z3 := z 3 (by omega)
  have z4 := z 4 (by omega)
  have z5 := z 5 (by omega)
  have z6 := z 6 (by omega)
  have f0 := f 0 (by omega)
  have f1 := f 1 (by omega)
  have f2 := f 2 (by omega)
  have f3 := f 3 (by omega)
  have f4 := f 4 (by omega)
  have f5 := f 5 (by omega)
  have f6 := f 6 (by omega)
  clear z f
  gi_wp2
  go_wp2
  refine bodyPost_ret (v := .tuple #[edV ⟨2, a, (r1, r2), d⟩, .bool ok]) ?_ rfl ⟨by rw [HE.out], ?_⟩
  · simp [results, Try.results58, go_sem, *]
  · exact Mod.setNew (Mod.setNew (Mod.setNew (Mod.setNew (Mod.setNew (Mod.setNew (Mod.setNew (HM6.out.trans HZ.out) (by omega) _) (by omega) _) (by omega) _) (by omega) _) (by omega) _) (by omega) _) (by omega) _

theorem worn_any (s : Edg) (wear : Int × Int) (n : Int) (w : World) (hk : s.k = 1 ∨ s.k = 2) (hs : Small 10000 s.w) (hw : Small 100 wear) (hn : 0 ≤ n ∧ n ≤ 20000) :
    Calls Try.prog 58 #[edV s, spV wear, .int .i64 n] w fun e w' => e = .returned (.tuple #[edV (wornR s wear n), .bool (wornB s wear n)]) ∧ Mod noB w w' := by
  obtain ⟨k, a, wi, d⟩ := s
  rcases hk with h | h
  · obtain rfl : k = 1 := h
    exact worn_tab a wi d wear n w hs hw hn
  · obtain rfl : k = 2 := h
    exact worn_hole a wi d wear n w hs hw hn
end Go.Proofs.Ytnjbamikfjdofaa

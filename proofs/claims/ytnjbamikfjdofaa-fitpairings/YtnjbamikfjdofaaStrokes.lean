/- strokes: after which numbers of strokes a tab and a hole fit always. -/
import Derived.Test.YtnjbamikfjdofaaMWorn
set_option linter.unusedSimpArgs false
set_option linter.unusedVariables false
namespace Go.Proofs.Ytnjbamikfjdofaa
open Go.RowKit Go.Shelf

theorem field90_0 (s : Int × Int) (w : World) : Sem.run Try.prog (Instr.field 90 (.agg #[.int .i64 s.1, .int .i64 s.2]) 0) w = .ok (.int .i64 s.1) w := by kernel_rfl
theorem field90_1 (s : Int × Int) (w : World) : Sem.run Try.prog (Instr.field 90 (.agg #[.int .i64 s.1, .int .i64 s.2]) 1) w = .ok (.int .i64 s.2) w := by kernel_rfl

set_option maxRecDepth 100000 in
set_option maxHeartbeats 2000000 in
theorem strokes1_any (t h : Edg) (wear : Int × Int) (n : Int) (mb wb : Nat) (w : World) (hT : Tight t h) (hw : Small 100 wear) (hn : 0 ≤ n ∧ n ≤ 20000)
    (hm : w.heap[mb]? = some (.cells (mtC t h) 87)) (hwb : w.heap[wb]? = some (.cells #[.int .i64 wear.1, .int .i64 wear.2] 90)) :
    Calls Try.prog 81 #[.int .i64 n, .pointer (some ⟨mb, 0, none⟩), .pointer (some ⟨wb, 0, none⟩)] w fun e w' => e = .returned (.bool (wideB t h wear n)) ∧ Mod noB w w' := by
  have HK := Hold.mk (fun w => mworn_any t h wear n w hT hw hn)
  obtain ⟨q0, q1, q2, q3, q4, q5, q6, q7, q8, q9, q10, q11, q12, q13⟩ := MatchAt.of hm
  have r0 := cellsAt hwb 0
  have r1 := cellsAt hwb 1
  cases hc : wornB t wear n && wornB h wear n with
  | false =>
    rw [hc] at HK
    have HE : Hold (wideB t h wear n = true) := ⟨by simp [wideB, hc]⟩
    generalize wornR t wear n = t' at *
    generalize wornR h wear n = h' at *
    clear hc hm hwb
    go_enter Try.func81, Try.ntmps81
    go_wp2_with (go_at_call 82; (with_reducible refine (HK.out _).mono ?_); rintro e w1 ⟨rfl, hM⟩; have HM := Hold.mk hM; clear hM)
    go_ret
    exact ⟨by rw [HE.out]; rfl, HM.out.alloc _⟩
  | true =>
    rw [hc] at HK
    have hcc : wornB t wear n = true ∧ wornB h wear n = true := by simpa using hc
    have HE : Hold (wideB t h wear n = decide (0 ≤ (wideR (wornR t wear n) (wornR h wear n)).1)) := ⟨by simp [wideB, hcc]⟩
    have e1 := wornR_small hT.te hcc.1
    have e2 := wornR_small hT.he hcc.2
    have HW := Hold.mk (fun w => wide_any (wornR t wear n) (wornR h wear n) w ⟨e1.1.le (by omega), e1.2.1.le (by omega), e1.2.2.le (by omega)⟩ ⟨e2.1.le (by omega), e2.2.1.le (by omega), e2.2.2.le (by omega)⟩)
    generalize wornR t wear n = t' at *
    generalize wornR h wear n = h' at *
    generalize wideR t' h' = wd at *
    have fd0 := fun w => field90_0 wd w
    clear hc hcc e1 e2 hm hwb
    go_enter Try.func81, Try.ntmps81
    go_wp2_with (first
      | (go_at_call 82; (with_reducible refine (HK.out _).mono ?_); rintro e w1 ⟨rfl, hM⟩; have HM := Hold.mk hM; clear hM)
      | (go_at_call 54; (with_reducible refine (HW.out _).mono ?_); rintro e w2 ⟨rfl, hM⟩; have HM2 := Hold.mk hM; clear hM))
    go_ret
    exact ⟨by rw [HE.out]; rfl, (HM.out.alloc _).trans HM2.out⟩

set_option maxRecDepth 100000 in
set_option maxHeartbeats 2000000 in
theorem strokes2_any (t h : Edg) (wear : Int × Int) (p : Ply) (n : Int) (mb wb pb : Nat) (w : World) (hT : Tight t h) (hp : PSmall p) (hw : Small 100 wear) (hn : 0 ≤ n ∧ n ≤ 20000)
    (hm : w.heap[mb]? = some (.cells (mtC t h) 87)) (hwb : w.heap[wb]? = some (.cells #[.int .i64 wear.1, .int .i64 wear.2] 90)) (hpb : w.heap[pb]? = some (.cells (plC p) 25)) :
    Calls Try.prog 83 #[.int .i64 n, .pointer (some ⟨mb, 0, none⟩), .pointer (some ⟨wb, 0, none⟩), .pointer (some ⟨pb, 0, none⟩)] w fun e w' => e = .returned (.bool (looseB t h wear p n)) ∧ Mod noB w w' := by
  have HK := Hold.mk (fun w => mworn_any t h wear n w hT hw hn)
  obtain ⟨q0, q1, q2, q3, q4, q5, q6, q7, q8, q9, q10, q11, q12, q13⟩ := MatchAt.of hm
  have r0 := cellsAt hwb 0
  have r1 := cellsAt hwb 1
  have HPB := Hold.mk hpb
  obtain ⟨o1, o2⟩ : -10000000 ≤ p.loose ∧ p.loose ≤ 10000000 := ⟨hp.o1, hp.o2⟩
  have HD := hp.d
  have ho : IntKind.i64.wrap (1000 * p.loose) = 1000 * p.loose := IntWalk.i64_in _ (by omega)
  have HOV := Hold.mk ho
  clear ho
  cases hc : wornB t wear n && wornB h wear n with
  | false =>
    rw [hc] at HK
    have HE : Hold (looseB t h wear p n = true) := ⟨by simp [looseB, hc]⟩
    generalize wornR t wear n = t' at *
    generalize wornR h wear n = h' at *
    clear hc hm hwb hpb
    go_enter Try.func83, Try.ntmps83
    go_wp2_with (go_at_call 82; (with_reducible refine (HK.out _).mono ?_); rintro e w1 ⟨rfl, hM⟩; have HM := Hold.mk hM; clear hM)
    clear q0 q1 q2 q3 q4 q5 q6 q7 q8 q9 q10 q11 q12 q13 r0 r1
    refine region_quietP (by kernel_rfl) (by kernel_rfl) (fun W' => Mod noB _ W') ((Mod.refl _ _).drew) ?_
    repeat
      (first
        | go_big_quiet_skip
        | (go_big_quiet_want
           go_simp
           first
             | go_big_quiet_on
             | (apply Exists.intro
                refine ⟨fun W' hC => ?_, ?_⟩
                · first
                    | with_reducible rfl
                    | (go_simp; first | rfl | exact ⟨rfl, rfl⟩)
                go_big_quiet_on)
             | (refine ⟨⟨_, fun _ _ => rfl⟩, ?_⟩; go_big_quiet_on)))
    refine wpQuiet_nil ?_
    intro Wq hq
    have HQ := Hold.mk hq
    clear hq
    go_wp2
    go_ret
    exact ⟨by rw [HE.out]; rfl, (HM.out.alloc _).trans HQ.out⟩
  | true =>
    rw [hc] at HK
    have hcc : wornB t wear n = true ∧ wornB h wear n = true := by simpa using hc
    have HE : Hold (looseB t h wear p n = decide (1000 * p.loose < (dampedR (wideR (wornR t wear n) (wornR h wear n)) p.damp).2)) := ⟨by simp [looseB, hcc]⟩
    have e1 := wornR_small hT.te hcc.1
    have e2 := wornR_small hT.he hcc.2
    have sw : Small 10000000 (wideR (wornR t wear n) (wornR h wear n)) := (lessR_small e2.2.1 e1.2.1).le (by omega)
    have HW := Hold.mk (fun w => wide_any (wornR t wear n) (wornR h wear n) w ⟨e1.1.le (by omega), e1.2.1.le (by omega), e1.2.2.le (by omega)⟩ ⟨e2.1.le (by omega), e2.2.1.le (by omega), e2.2.2.le (by omega)⟩)
    have HDM := Hold.mk (fun w => damped_any (wideR (wornR t wear n) (wornR h wear n)) p.damp w sw hp.d)
    generalize wornR t wear n = t' at *
    generalize wornR h wear n = h' at *
    generalize wideR t' h' = wd at *
    generalize dampedR wd p.damp = dd at *
    have fd1 := fun w => field90_1 dd w
    clear hc hcc e1 e2 hm hwb hpb sw hp
    go_enter Try.func83, Try.ntmps83
    go_wp2_with (go_at_call 82; (with_reducible refine (HK.out _).mono ?_); rintro e w1 ⟨rfl, hM⟩; have HM := Hold.mk hM; clear hM)
    clear q0 q1 q2 q3 q4 q5 q6 q7 q8 q9 q10 q11 q12 q13 r0 r1
    have hb6 := World.alloc_heap_new w1 (.cells (mtC t' h') 87)
    have HM6 := Hold.mk (HM.out.alloc (.cells (mtC t' h') 87))
    change Code.wp _ _ _ _ (w1.alloc (.cells (mtC t' h') 87))
    generalize w1.alloc (.cells (mtC t' h') 87) = W6 at *
    have FIN6 : Hold (∀ W', Mod noB W6 W' → MatchAt W' w1.heap.size t' h' ∧ PlayAt W' pb p) := ⟨fun W' h => ⟨MatchAt.of (h.at hb6 id), PlayAt.of ((HM6.out.trans h).at HPB.out id)⟩⟩
    clear hb6
    have ho := HOV.out
    refine region_quietP (by kernel_rfl) (by kernel_rfl) (fun W' => Mod noB W6 W') ((Mod.refl _ _).drew) ?_
    repeat
      (first
        | go_big_quiet_skip
        | (go_big_quiet_want
           go_simp
           first
             | go_big_quiet_on
             | (apply Exists.intro
                refine ⟨fun W' hC => ?_, ?_⟩
                · obtain ⟨⟨q0, q1, q2, q3, q4, q5, q6, q7, q8, q9, q10, q11, q12, q13⟩, ⟨p0, p1, p2, p3, p4⟩⟩ := FIN6.out W' hC
                  first
                    | (go_at_call 54; (with_reducible refine (HW.out _).mono ?_); exact fun e w'' he => ⟨he.1, hC.trans he.2⟩)
                    | (go_at_call 52; (with_reducible refine (HDM.out _).mono ?_); exact fun e w'' he => ⟨he.1, hC.trans he.2⟩)
                    | with_reducible rfl
                    | (go_simp; first | rfl | exact ⟨rfl, rfl⟩)
                go_big_quiet_on)
             | (refine ⟨⟨_, fun _ _ => rfl⟩, ?_⟩; go_big_quiet_on)))
    refine wpQuiet_nil ?_
    intro Wq hq
    have HQ := Hold.mk hq
    clear hq
    go_wp2
    go_ret
    exact ⟨by rw [HE.out]; rfl, HM6.out.trans HQ.out⟩
end Go.Proofs.Ytnjbamikfjdofaa

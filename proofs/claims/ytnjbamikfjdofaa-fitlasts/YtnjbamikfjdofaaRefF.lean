/- The document's damped, Between. -/
import Derived.Test.YtnjbamikfjdofaaRefE
import Derived.Test.YtnjbamikfjdofaaBetween
set_option linter.unusedSimpArgs false
set_option linter.unusedVariables false
namespace Go.Proofs.Ytnjbamikfjdofaa
open Go.RowKit Go.Shelf

set_option maxRecDepth 100000 in
set_option maxHeartbeats 2000000 in
theorem refDamped_any (s d : Int × Int) (w : World) (hs : Small 10000000 s) (hd : 0 ≤ d.1 ∧ d.1 ≤ 1000 ∧ 0 ≤ d.2 ∧ d.2 ≤ 1000) :
    Calls Try.prog 56 #[spV s, spV d] w fun e w' => e = .returned (spV (roundedR (dampedR s d))) ∧ Mod noB w w' := by
  have HR : Hold (roundedR (dampedR s d) = (min (s.1 * (1000 + d.1)) (s.1 * (1000 + d.2)) / 1000, -(-(max (s.2 * (1000 + d.1)) (s.2 * (1000 + d.2))) / 1000))) := ⟨by
    rw [Int.add_comm 1000 d.1, Int.add_comm 1000 d.2]; rfl⟩
  obtain ⟨a, b⟩ := s
  obtain ⟨c, f⟩ := d
  obtain ⟨p1, q1⟩ := mul_bd hs.1 (k := 2000) (b := 1000 + c) (by simp only at hd; omega)
  obtain ⟨p2, q2⟩ := mul_bd hs.1 (k := 2000) (b := 1000 + f) (by simp only at hd; omega)
  obtain ⟨p3, q3⟩ := mul_bd hs.2 (k := 2000) (b := 1000 + c) (by simp only at hd; omega)
  obtain ⟨p4, q4⟩ := mul_bd hs.2 (k := 2000) (b := 1000 + f) (by simp only at hd; omega)
  obtain ⟨⟨a1, a2⟩, b1, b2⟩ := hs
  obtain ⟨e1, e2, e3, e4⟩ := hd
  simp only at p1 q1 p2 q2 p3 q3 p4 q4 a1 a2 b1 b2 e1 e2 e3 e4
  have D1 := Hold.mk (fun w => down_any (min (a * (1000 + c)) (a * (1000 + f))) w (by omega))
  have D2 := Hold.mk (fun w => up_any (max (b * (1000 + c)) (b * (1000 + f))) w (by omega))
  rw [HR.out]
  obtain ⟨W1, hW1⟩ : ∃ W1, allocL w [.cells #[.int .i64 a, .int .i64 b] 23, .cells #[.int .i64 c, .int .i64 f] 23, .cells #[.int .i64 0, .int .i64 0] 23] = W1 := ⟨_, rfl⟩
  have hb0 := allocL_at [.cells #[.int .i64 a, .int .i64 b] 23, .cells #[.int .i64 c, .int .i64 f] 23, .cells #[.int .i64 0, .int .i64 0] 23] w 0 _ rfl
  have hb1 := allocL_at [.cells #[.int .i64 a, .int .i64 b] 23, .cells #[.int .i64 c, .int .i64 f] 23, .cells #[.int .i64 0, .int .i64 0] 23] w 1 _ rfl
  have hb2 := allocL_at [.cells #[.int .i64 a, .int .i64 b] 23, .cells #[.int .i64 c, .int .i64 f] 23, .cells #[.int .i64 0, .int .i64 0] 23] w 2 _ rfl
  have hm0 := allocL_mod noB [.cells #[.int .i64 a, .int .i64 b] 23, .cells #[.int .i64 c, .int .i64 f] 23, .cells #[.int .i64 0, .int .i64 0] 23] w
  rw [hW1] at hb0 hb1 hb2 hm0
  rw [← allocL3] at hW1
  have HM0 := Hold.mk hm0
  have FIN : Hold (∀ W', Mod noB W1 W' → W'.cell? ⟨w.heap.size, 0, none⟩ = some (.int .i64 a) ∧ W'.cell? ⟨w.heap.size, 1, none⟩ = some (.int .i64 b) ∧ W'.cell? ⟨w.heap.size + 1, 0, none⟩ = some (.int .i64 c) ∧ W'.cell? ⟨w.heap.size + 1, 1, none⟩ = some (.int .i64 f) ∧ W'.heap[w.heap.size + 2]? = some (.cells #[.int .i64 0, .int .i64 0] 23)) := ⟨fun W' h =>
    ⟨cellsAt (h.at hb0 id) 0, cellsAt (h.at hb0 id) 1, cellsAt (h.at hb1 id) 0, cellsAt (h.at hb1 id) 1, h.at hb2 id⟩⟩
  clear hb0 hb1 hb2 hm0 HR
  have v1 : IntKind.i64.wrap (1000 + c) = 1000 + c := IntWalk.i64_in _ (by omega)
  have v2 : IntKind.i64.wrap (1000 + f) = 1000 + f := IntWalk.i64_in _ (by omega)
  have v3 : IntKind.i64.wrap (a * (1000 + c)) = a * (1000 + c) := IntWalk.i64_in _ (by omega)
  have v4 : IntKind.i64.wrap (a * (1000 + f)) = a * (1000 + f) := IntWalk.i64_in _ (by omega)
  have v5 : IntKind.i64.wrap (b * (1000 + c)) = b * (1000 + c) := IntWalk.i64_in _ (by omega)
  have v6 : IntKind.i64.wrap (b * (1000 + f)) = b * (1000 + f) := IntWalk.i64_in _ (by omega)
  rcases Int.lt_or_le (a * (1000 + f)) (a * (1000 + c)) with g1 | g1 <;> rcases Int.lt_or_le (b * (1000 + c)) (b * (1000 + f)) with g2 | g2
  case inl.inl =>
    rw [show min (a * (1000 + c)) (a * (1000 + f)) = a * (1000 + f) by omega] at D1 ⊢
    rw [show max (b * (1000 + c)) (b * (1000 + f)) = b * (1000 + f) by omega] at D2 ⊢
    go_enter Try.func56, Try.ntmps56
    go_wp2
    clear hW1
    refine region_tailP 29 ⟨by decide, by kernel_rfl, by kernel_rfl, by kernel_rfl, by kernel_rfl, by kernel_rfl⟩ (by kernel_rfl) (fun W' => Mod noB W1 W') ((Mod.refl _ _).drew) ?_
    simp only [strikeL, List.take_succ_cons, List.take_zero, List.drop_succ_cons, List.drop_zero, List.map_cons, List.map_nil, List.cons_append, List.nil_append, bareO]
    repeat
      (first
        | go_big_quiet_skip
        | (go_big_quiet_want
           go_simp
           first
             | go_big_quiet_on
             | (apply Exists.intro
                refine ⟨fun W' hC => ?_, ?_⟩
                · obtain ⟨x0, x1, x2, x3, _⟩ := FIN.out W' hC
                  first
                    | (go_at_call 41; (with_reducible refine (D1.out _).mono ?_); exact fun e w'' he => ⟨he.1, hC.trans he.2⟩)
                    | (go_at_call 42; (with_reducible refine (D2.out _).mono ?_); exact fun e w'' he => ⟨he.1, hC.trans he.2⟩)
                    | with_reducible rfl
                    | (go_simp; first | rfl | exact ⟨rfl, rfl⟩)
                go_big_quiet_on)
             | (refine ⟨⟨_, fun _ _ => rfl⟩, ?_⟩; go_big_quiet_on)))
    refine wpQuiet_nil ?_
    intro Wq hq
    obtain ⟨_, _, _, _, hb⟩ := FIN.out Wq hq
    have z0 := cellsAt hb 0
    have z1 := cellsAt hb 1
    have f0 := cells_frozen hb 0
    have f1 := cells_frozen hb 1
    have HQ := Hold.mk hq
    clear hq hb
    gi_wp2
    go_wp2
    refine bodyPost_ret (v := spV (a * (1000 + f) / 1000, -(-(b * (1000 + f)) / 1000))) ?_ rfl ⟨rfl, ?_⟩
    · simp [results, Try.results56, go_sem, *]
    · exact Mod.setNew (Mod.setNew (HM0.out.trans HQ.out) (by omega) _) (by omega) _
  case inl.inr =>
    rw [show min (a * (1000 + c)) (a * (1000 + f)) = a * (1000 + f) by omega] at D1 ⊢
    rw [show max (b * (1000 + c)) (b * (1000 + f)) = b * (1000 + c) by omega] at D2 ⊢
    have g2' : (b * (1000 + c) < b * (1000 + f)) = False := eq_false (by omega)
    go_enter Try.func56, Try.ntmps56
    go_wp2
    clear hW1
    refine region_tailP 29 ⟨by decide, by kernel_rfl, by kernel_rfl, by kernel_rfl, by kernel_rfl, by kernel_rfl⟩ (by kernel_rfl) (fun W' => Mod noB W1 W') ((Mod.refl _ _).drew) ?_
    simp only [strikeL, List.take_succ_cons, List.take_zero, List.drop_succ_cons, List.drop_zero, List.map_cons, List.map_nil, List.cons_append, List.nil_append, bareO]
    repeat
      (first
        | go_big_quiet_skip
        | (go_big_quiet_want
           go_simp
           first
             | go_big_quiet_on
             | (apply Exists.intro
                refine ⟨fun W' hC => ?_, ?_⟩
                · obtain ⟨x0, x1, x2, x3, _⟩ := FIN.out W' hC
                  first
                    | (go_at_call 41; (with_reducible refine (D1.out _).mono ?_); exact fun e w'' he => ⟨he.1, hC.trans he.2⟩)
                    | (go_at_call 42; (with_reducible refine (D2.out _).mono ?_); exact fun e w'' he => ⟨he.1, hC.trans he.2⟩)
                    | with_reducible rfl
                    | (go_simp; first | rfl | exact ⟨rfl, rfl⟩)
                go_big_quiet_on)
             | (refine ⟨⟨_, fun _ _ => rfl⟩, ?_⟩; go_big_quiet_on)))
    refine wpQuiet_nil ?_
    intro Wq hq
    obtain ⟨_, _, _, _, hb⟩ := FIN.out Wq hq
    have z0 := cellsAt hb 0
    have z1 := cellsAt hb 1
    have f0 := cells_frozen hb 0
    have f1 := cells_frozen hb 1
    have HQ := Hold.mk hq
    clear hq hb
    gi_wp2
    go_wp2
    refine bodyPost_ret (v := spV (a * (1000 + f) / 1000, -(-(b * (1000 + c)) / 1000))) ?_ rfl ⟨rfl, ?_⟩
    · simp [results, Try.results56, go_sem, *]
    · exact Mod.setNew (Mod.setNew (HM0.out.trans HQ.out) (by omega) _) (by omega) _
  case inr.inl =>
    rw [show min (a * (1000 + c)) (a * (1000 + f)) = a * (1000 + c) by omega] at D1 ⊢
    rw [show max (b * (1000 + c)) (b * (1000 + f)) = b * (1000 + f) by omega] at D2 ⊢
    have g1' : (a * (1000 + f) < a * (1000 + c)) = False := eq_false (by omega)
    go_enter Try.func56, Try.ntmps56
    go_wp2
    clear hW1
    refine region_tailP 29 ⟨by decide, by kernel_rfl, by kernel_rfl, by kernel_rfl, by kernel_rfl, by kernel_rfl⟩ (by kernel_rfl) (fun W' => Mod noB W1 W') ((Mod.refl _ _).drew) ?_
    simp only [strikeL, List.take_succ_cons, List.take_zero, List.drop_succ_cons, List.drop_zero, List.map_cons, List.map_nil, List.cons_append, List.nil_append, bareO]
    repeat
      (first
        | go_big_quiet_skip
        | (go_big_quiet_want
           go_simp
           first
             | go_big_quiet_on
             | (apply Exists.intro
                refine ⟨fun W' hC => ?_, ?_⟩
                · obtain ⟨x0, x1, x2, x3, _⟩ := FIN.out W' hC
                  first
                    | (go_at_call 41; (with_reducible refine (D1.out _).mono ?_); exact fun e w'' he => ⟨he.1, hC.trans he.2⟩)
                    | (go_at_call 42; (with_reducible refine (D2.out _).mono ?_); exact fun e w'' he => ⟨he.1, hC.trans he.2⟩)
                    | with_reducible rfl
                    | (go_simp; first | rfl | exact ⟨rfl, rfl⟩)
                go_big_quiet_on)
             | (refine ⟨⟨_, fun _ _ => rfl⟩, ?_⟩; go_big_quiet_on)))
    refine wpQuiet_nil ?_
    intro Wq hq
    obtain ⟨_, _, _, _, hb⟩ := FIN.out Wq hq
    have z0 := cellsAt hb 0
    have z1 := cellsAt hb 1
    have f0 := cells_frozen hb 0
    have f1 := cells_frozen hb 1
    have HQ := Hold.mk hq
    clear hq hb
    gi_wp2
    go_wp2
    refine bodyPost_ret (v := spV (a * (1000 + c) / 1000, -(-(b * (1000 + f)) / 1000))) ?_ rfl ⟨rfl, ?_⟩
    · simp [results, Try.results56, go_sem, *]
    · exact Mod.setNew (Mod.setNew (HM0.out.trans HQ.out) (by omega) _) (by omega) _
  case inr.inr =>
    rw [show min (a * (1000 + c)) (a * (1000 + f)) = a * (1000 + c) by omega] at D1 ⊢
    rw [show max (b * (1000 + c)) (b * (1000 + f)) = b * (1000 + c) by omega] at D2 ⊢
    have g1' : (a * (1000 + f) < a * (1000 + c)) = False := eq_false (by omega)
    have g2' : (b * (1000 + c) < b * (1000 + f)) = False := eq_false (by omega)
    go_enter Try.func56, Try.ntmps56
    go_wp2
    clear hW1
    refine region_tailP 29 ⟨by decide, by kernel_rfl, by kernel_rfl, by kernel_rfl, by kernel_rfl, by kernel_rfl⟩ (by kernel_rfl) (fun W' => Mod noB W1 W') ((Mod.refl _ _).drew) ?_
    simp only [strikeL, List.take_succ_cons, List.take_zero, List.drop_succ_cons, List.drop_zero, List.map_cons, List.map_nil, List.cons_append, List.nil_append, bareO]
    repeat
      (first
        | go_big_quiet_skip
        | (go_big_quiet_want
           go_simp
           first
             | go_big_quiet_on
             | (apply Exists.intro
                refine ⟨fun W' hC => ?_, ?_⟩
                · obtain ⟨x0, x1, x2, x3, _⟩ := FIN.out W' hC
                  first
                    | (go_at_call 41; (with_reducible refine (D1.out _).mono ?_); exact fun e w'' he => ⟨he.1, hC.trans he.2⟩)
                    | (go_at_call 42; (with_reducible refine (D2.out _).mono ?_); exact fun e w'' he => ⟨he.1, hC.trans he.2⟩)
                    | with_reducible rfl
                    | (go_simp; first | rfl | exact ⟨rfl, rfl⟩)
                go_big_quiet_on)
             | (refine ⟨⟨_, fun _ _ => rfl⟩, ?_⟩; go_big_quiet_on)))
    refine wpQuiet_nil ?_
    intro Wq hq
    obtain ⟨_, _, _, _, hb⟩ := FIN.out Wq hq
    have z0 := cellsAt hb 0
    have z1 := cellsAt hb 1
    have f0 := cells_frozen hb 0
    have f1 := cells_frozen hb 1
    have HQ := Hold.mk hq
    clear hq hb
    gi_wp2
    go_wp2
    refine bodyPost_ret (v := spV (a * (1000 + c) / 1000, -(-(b * (1000 + c)) / 1000))) ?_ rfl ⟨rfl, ?_⟩
    · simp [results, Try.results56, go_sem, *]
    · exact Mod.setNew (Mod.setNew (HM0.out.trans HQ.out) (by omega) _) (by omega) _
end Go.Proofs.Ytnjbamikfjdofaa

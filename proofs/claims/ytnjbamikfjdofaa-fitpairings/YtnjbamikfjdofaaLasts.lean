/- strokes. -/
import Derived.Test.YtnjbamikfjdofaaStrokes
import Derived.Test.YtnjbamikfjdofaaMono
import Derived.Deep.RegionHeld3
set_option linter.unusedSimpArgs false
set_option linter.unusedVariables false
namespace Go.Proofs.Ytnjbamikfjdofaa
open Go.RowKit Go.Shelf

theorem enter81 : ∀ args w, (callFunc 81 args).run Try.prog w = .ok (.enter 81 args) w := enters_of Try.func81 (by kernel_rfl) rfl
theorem enter83 : ∀ args w, (callFunc 83 args).run Try.prog w = .ok (.enter 83 args) w := enters_of Try.func83 (by kernel_rfl) rfl

def strokesR (t h : Edg) (r : Int × Int) (p : Ply) : Int × Int × Bool :=
  if fromR t h r = behindR t h r p then (0, 0, false) else (fromR t h r, behindR t h r p - 1, fitR p (wornR t r (fromR t h r)) (wornR h r (fromR t h r)) == 2)

structure StFacts (t h : Edg) (p : Ply) (wear : Int × Int) (w W' : World) : Prop where
  m : W'.heap[w.heap.size]? = some (.cells (mtC t h) 87)
  p : W'.heap[w.heap.size + 1]? = some (.cells (plC p) 25)
  r : W'.heap[w.heap.size + 1 + 1]? = some (.cells #[.int .i64 wear.1, .int .i64 wear.2] 90)
theorem stFacts (t h : Edg) (p : Ply) (wear : Int × Int) (w W' : World) (hm : Mod noB (((w.alloc (.cells (mtC t h) 87)).alloc (.cells (plC p) 25)).alloc (.cells #[.int .i64 wear.1, .int .i64 wear.2] 90)) W') : StFacts t h p wear w W' := by
  rw [allocL3] at hm
  exact ⟨at_allocL _ hm 0 _ rfl, at_allocL _ hm 1 _ rfl, at_allocL _ hm 2 _ rfl⟩

theorem side_worn {s : Edg} {r : Int × Int} {n : Int} (hs : sideB s = true) (hk : s.k = 1 ∨ s.k = 2) (hb : wornB s r n = true) : sideB (wornR s r n) = true := by
  simp only [sideB, Bool.or_eq_true, Bool.and_eq_true, beq_iff_eq] at hs ⊢
  rcases hs with hs | ⟨h1, ⟨h2, _⟩, h3⟩
  · omega
  · exact .inr ⟨hk, ⟨h2, hb⟩, h3⟩

/-- The second side of a match is a list of sides. -/
theorem second_edges {w : World} {b : Nat} {t h : Edg} (hb : w.heap[b]? = some (.cells (mtC t h) 87)) : EdgesAt w (some ⟨b, 7, none⟩) [h] :=
  ⟨fun _ => ⟨b, 7, rfl, (Array.getElem?_eq_some_iff.1 hb).1, fun k e hk => by
    have : k = 0 := by
      have := (List.getElem?_eq_some_iff.1 hk).1
      simpa using this
    subst this
    obtain rfl : h = e := by simpa using hk
    exact ⟨cellsAt hb 7, cellsAt hb 8, cellsAt hb 9, cellsAt hb 10, cellsAt hb 11, cellsAt hb 12, cellsAt hb 13⟩⟩, by simp⟩

set_option maxRecDepth 100000 in
set_option maxHeartbeats 4000000 in
theorem strokes_none (t h : Edg) (p : Ply) (wear : Int × Int) (w : World) (f : Int) (hf : 0 ≤ f ∧ f ≤ 20001)
    (K1 : Hold (∀ W' mb wb, W'.heap[mb]? = some (.cells (mtC t h) 87) → W'.heap[wb]? = some (.cells #[.int .i64 wear.1, .int .i64 wear.2] 90) →
      Calls Try.prog 80 #[.int .i64 0, .int .i64 20001, .func (.func 81) #[] #[.pointer (some ⟨mb, 0, none⟩), .pointer (some ⟨wb, 0, none⟩)]] W' fun e w' => e = .returned (.int .i64 f) ∧ Mod noB W' w'))
    (K2 : Hold (∀ W' mb wb pb, W'.heap[mb]? = some (.cells (mtC t h) 87) → W'.heap[wb]? = some (.cells #[.int .i64 wear.1, .int .i64 wear.2] 90) → W'.heap[pb]? = some (.cells (plC p) 25) →
      Calls Try.prog 80 #[.int .i64 f, .int .i64 20001, .func (.func 83) #[] #[.pointer (some ⟨mb, 0, none⟩), .pointer (some ⟨wb, 0, none⟩), .pointer (some ⟨pb, 0, none⟩)]] W' fun e w' => e = .returned (.int .i64 f) ∧ Mod noB W' w')) :
    Calls Try.prog 61 #[mtV t h, plV p, spV wear] w fun e w' => e = .returned (.tuple #[.int .i64 0, .int .i64 0, .bool false]) ∧ Mod noB w w' := by
  have HM0 : Hold (Mod noB w (((w.alloc (.cells (mtC t h) 87)).alloc (.cells (plC p) 25)).alloc (.cells #[.int .i64 wear.1, .int .i64 wear.2] 90))) := ⟨allocL_mod noB [_, _, _] w⟩
  have FIN := Hold.mk (stFacts t h p wear w)
  obtain ⟨h1, h2⟩ := hf
  go_enter Try.func61, Try.ntmps61
  go_wp2_with (first
    | (go_at_call 80; (with_reducible refine (K1.out _ _ _ (FIN.out _ (Mod.refl _ _)).m (FIN.out _ (Mod.refl _ _)).r).mono ?_); rintro e w1 ⟨rfl, hM⟩; have HM1 := Hold.mk hM; clear hM)
    | (go_at_call 80; (with_reducible refine (K2.out _ _ _ _ (FIN.out _ HM1.out).m (FIN.out _ HM1.out).r (FIN.out _ HM1.out).p).mono ?_); rintro e w2 ⟨rfl, hM⟩; have HM2 := Hold.mk (HM1.out.trans hM); clear hM))
  go_ret3
  exact ⟨rfl, HM0.out.trans HM2.out⟩

theorem wpAnyH_weak {P : Program} {md : Region.Mode} {ops : Array Oper} {Q : Exit → Act → World → Prop} {S S2 : World → Prop} (hSS : ∀ w, S2 w → S w) : ∀ (fuel : Nat) (listed : Array Bool) (a : Act) (w : World), wpAnyH P md ops Q S2 fuel listed a w → wpAnyH P md ops Q S fuel listed a w
  | 0, _, _, _, h => h
  | fuel + 1, _, _, _, h => ⟨h.1, fun i hi => wpOp_mono (fun a' w' h' => ⟨hSS _ h'.1, wpAnyH_weak hSS fuel _ a' w' h'.2⟩) (h.2 i hi)⟩

set_option maxRecDepth 100000 in
set_option maxHeartbeats 4000000 in
theorem strokes_some (t h t' h' : Edg) (p : Ply) (wear : Int × Int) (w : World) (f b : Int) (v : Int) (hf : 0 ≤ f ∧ f ≤ 20001) (hb : 0 ≤ b ∧ b ≤ 20001) (hfb : ¬ f = b)
    (K1 : Hold (∀ W' mb wb, W'.heap[mb]? = some (.cells (mtC t h) 87) → W'.heap[wb]? = some (.cells #[.int .i64 wear.1, .int .i64 wear.2] 90) →
      Calls Try.prog 80 #[.int .i64 0, .int .i64 20001, .func (.func 81) #[] #[.pointer (some ⟨mb, 0, none⟩), .pointer (some ⟨wb, 0, none⟩)]] W' fun e w' => e = .returned (.int .i64 f) ∧ Mod noB W' w'))
    (K2 : Hold (∀ W' mb wb pb, W'.heap[mb]? = some (.cells (mtC t h) 87) → W'.heap[wb]? = some (.cells #[.int .i64 wear.1, .int .i64 wear.2] 90) → W'.heap[pb]? = some (.cells (plC p) 25) →
      Calls Try.prog 80 #[.int .i64 f, .int .i64 20001, .func (.func 83) #[] #[.pointer (some ⟨mb, 0, none⟩), .pointer (some ⟨wb, 0, none⟩), .pointer (some ⟨pb, 0, none⟩)]] W' fun e w' => e = .returned (.int .i64 b) ∧ Mod noB W' w'))
    (K3 : Hold (∀ w, Calls Try.prog 82 #[mtV t h, spV wear, .int .i64 f] w fun e w' => e = .returned (.tuple #[mtV t' h', .bool true]) ∧ Mod noB w w'))
    (K4 : Hold (∀ W' ao, EdgesAt W' ao [h'] → Calls Try.prog 48 #[plV p, edV t', .slice ao 1 1] W' fun e w' => ∃ b, W'.heap.size ≤ b ∧ e = .returned (.slice (some ⟨b, 0, none⟩) 1 1) ∧ w'.cell? ⟨b, 0, none⟩ = some (.int .i64 v) ∧ Mod noB W' w')) :
    Calls Try.prog 61 #[mtV t h, plV p, spV wear] w fun e w' => e = .returned (.tuple #[.int .i64 f, .int .i64 (b - 1), .bool (v == 2)]) ∧ Mod noB w w' := by
  have HM0 : Hold (Mod noB w (((w.alloc (.cells (mtC t h) 87)).alloc (.cells (plC p) 25)).alloc (.cells #[.int .i64 wear.1, .int .i64 wear.2] 90))) := ⟨allocL_mod noB [_, _, _] w⟩
  have FIN := Hold.mk (stFacts t h p wear w)
  obtain ⟨h1, h2⟩ := hf
  obtain ⟨b1, b2⟩ := hb
  have hfb' : (f == b) = false := by simpa using hfb
  go_enter Try.func61, Try.ntmps61
  go_wp2_with (first
    | (go_at_call 80; (with_reducible refine (K1.out _ _ _ (FIN.out _ (Mod.refl _ _)).m (FIN.out _ (Mod.refl _ _)).r).mono ?_); rintro e w1 ⟨rfl, hM⟩; have HM1 := Hold.mk hM; clear hM)
    | (go_at_call 80; (with_reducible refine (K2.out _ _ _ _ (FIN.out _ HM1.out).m (FIN.out _ HM1.out).r (FIN.out _ HM1.out).p).mono ?_); rintro e w2 ⟨rfl, hM⟩
       have hM2 := HM1.out.trans hM
       have F := FIN.out _ hM2
       obtain ⟨q0, q1, q2, q3, q4, q5, q6, q7, q8, q9, q10, q11, q12, q13⟩ := MatchAt.of F.m
       have r0 := cellsAt F.r 0
       have r1 := cellsAt F.r 1
       have HM2 := Hold.mk hM2; clear hM hM2 F)
    | (go_at_call 82; (with_reducible refine (K3.out _).mono ?_); rintro e w3 ⟨rfl, hM⟩
       have HM3 := Hold.mk (HM2.out.trans hM); clear hM q0 q1 q2 q3 q4 q5 q6 q7 q8 q9 q10 q11 q12 q13 r0 r1))
  have hb6 := World.alloc_heap_new w3 (.cells (mtC t' h') 87)
  have HM6 := Hold.mk (HM3.out.alloc (.cells (mtC t' h') 87))
  change Code.wp _ _ _ _ (w3.alloc (.cells (mtC t' h') 87))
  generalize w3.alloc (.cells (mtC t' h') 87) = W6 at *
  have FIN6 : Hold (∀ W', Mod noB W6 W' → MatchAt W' w3.heap.size t' h' ∧ PlayAt W' (w.heap.size + 1) p ∧ EdgesAt W' (some ⟨w3.heap.size, 7, none⟩) [h']) := ⟨fun W' h => ⟨MatchAt.of (h.at hb6 id), PlayAt.of (FIN.out _ (HM6.out.trans h)).p, second_edges (h.at hb6 id)⟩⟩
  clear hb6
  have FS : Hold (∀ W', Mod noB W6 W' → (fun w' => Hold (Mod noB W6 w') ∧ EdgesAt w' (some ⟨w3.heap.size, 7, none⟩) [h'] ∧ w'.cell? ⟨w3.heap.size, 0, none⟩ = some (.int .i64 t'.k) ∧ w'.cell? ⟨w3.heap.size, 1, none⟩ = some (.int .i64 t'.a.1) ∧ w'.cell? ⟨w3.heap.size, 2, none⟩ = some (.int .i64 t'.a.2) ∧ w'.cell? ⟨w3.heap.size, 3, none⟩ = some (.int .i64 t'.w.1) ∧ w'.cell? ⟨w3.heap.size, 4, none⟩ = some (.int .i64 t'.w.2) ∧ w'.cell? ⟨w3.heap.size, 5, none⟩ = some (.int .i64 t'.d.1) ∧ w'.cell? ⟨w3.heap.size, 6, none⟩ = some (.int .i64 t'.d.2) ∧
      w'.cell? ⟨w.heap.size + 1, 0, none⟩ = some (.int .i64 p.len) ∧ w'.cell? ⟨w.heap.size + 1, 1, none⟩ = some (.int .i64 p.slack) ∧ w'.cell? ⟨w.heap.size + 1, 2, none⟩ = some (.int .i64 p.loose) ∧ w'.cell? ⟨w.heap.size + 1, 3, none⟩ = some (.int .i64 p.damp.1) ∧ w'.cell? ⟨w.heap.size + 1, 4, none⟩ = some (.int .i64 p.damp.2)) W') := ⟨fun W' h => by
    obtain ⟨⟨q0, q1, q2, q3, q4, q5, q6, q7, q8, q9, q10, q11, q12, q13⟩, ⟨p0, p1, p2, p3, p4⟩, hE⟩ := FIN6.out W' h
    exact ⟨⟨h⟩, hE, q0, q1, q2, q3, q4, q5, q6, p0, p1, p2, p3, p4⟩⟩
  refine wp_region_held_drew (S := (fun w' => Hold (Mod noB W6 w') ∧ EdgesAt w' (some ⟨w3.heap.size, 7, none⟩) [h'] ∧ w'.cell? ⟨w3.heap.size, 0, none⟩ = some (.int .i64 t'.k) ∧ w'.cell? ⟨w3.heap.size, 1, none⟩ = some (.int .i64 t'.a.1) ∧ w'.cell? ⟨w3.heap.size, 2, none⟩ = some (.int .i64 t'.a.2) ∧ w'.cell? ⟨w3.heap.size, 3, none⟩ = some (.int .i64 t'.w.1) ∧ w'.cell? ⟨w3.heap.size, 4, none⟩ = some (.int .i64 t'.w.2) ∧ w'.cell? ⟨w3.heap.size, 5, none⟩ = some (.int .i64 t'.d.1) ∧ w'.cell? ⟨w3.heap.size, 6, none⟩ = some (.int .i64 t'.d.2) ∧
      w'.cell? ⟨w.heap.size + 1, 0, none⟩ = some (.int .i64 p.len) ∧ w'.cell? ⟨w.heap.size + 1, 1, none⟩ = some (.int .i64 p.slack) ∧ w'.cell? ⟨w.heap.size + 1, 2, none⟩ = some (.int .i64 p.loose) ∧ w'.cell? ⟨w.heap.size + 1, 3, none⟩ = some (.int .i64 p.damp.1) ∧ w'.cell? ⟨w.heap.size + 1, 4, none⟩ = some (.int .i64 p.damp.2))) (by kernel_rfl) (FS.out _ ((Mod.refl _ _).drew)) (fun hHeld => ?_)
  refine wpAnyH_take (i := 0) (oi := _) (v := ?v0) rfl (by kernel_rfl) (by kernel_rfl) (by kernel_rfl) (fun _ _ _ h => h) (Or.inl ⟨by rfl, ?h0⟩) (by assumption) ?r0
  case h0 => (intro w hSw; (try dsimp only at hSw); go_simp; first | done | with_reducible rfl)
  try simp only [Act.put, List.setIfInBounds_toArray, List.set_cons_zero, List.set_cons_succ]
  refine wpAnyH_take (i := 1) (oi := _) (v := ?v1) rfl (by kernel_rfl) (by kernel_rfl) (by kernel_rfl) (fun _ _ _ h => h) (Or.inl ⟨by rfl, ?h1⟩) (by assumption) ?r1
  case h1 => (intro w hSw; (try dsimp only at hSw); go_simp; first | done | with_reducible rfl)
  try simp only [Act.put, List.setIfInBounds_toArray, List.set_cons_zero, List.set_cons_succ]
  refine wpAnyH_take (i := 2) (oi := _) (v := ?v2) rfl (by kernel_rfl) (by kernel_rfl) (by kernel_rfl) (fun _ _ _ h => h) (Or.inl ⟨by rfl, ?h2⟩) (by assumption) ?r2
  case h2 => (intro w hSw; (try dsimp only at hSw); go_simp; first | done | with_reducible rfl)
  try simp only [Act.put, List.setIfInBounds_toArray, List.set_cons_zero, List.set_cons_succ]
  refine wpAnyH_take (i := 3) (oi := _) (v := ?v3) rfl (by kernel_rfl) (by kernel_rfl) (by kernel_rfl) (fun _ _ _ h => h) (Or.inl ⟨by rfl, ?h3⟩) (by assumption) ?r3
  case h3 => (intro w hSw; (try dsimp only at hSw); go_simp; first | done | with_reducible rfl)
  try simp only [Act.put, List.setIfInBounds_toArray, List.set_cons_zero, List.set_cons_succ]
  refine wpAnyH_take (i := 4) (oi := _) (v := ?v4) rfl (by kernel_rfl) (by kernel_rfl) (by kernel_rfl) (fun _ _ _ h => h) (Or.inl ⟨by rfl, ?h4⟩) (by assumption) ?r4
  case h4 => (intro w hSw; (try dsimp only at hSw); go_simp; first | done | with_reducible rfl)
  try simp only [Act.put, List.setIfInBounds_toArray, List.set_cons_zero, List.set_cons_succ]
  refine wpAnyH_take (i := 5) (oi := _) (v := ?v5) rfl (by kernel_rfl) (by kernel_rfl) (by kernel_rfl) (fun _ _ _ h => h) (Or.inl ⟨by rfl, ?h5⟩) (by assumption) ?r5
  case h5 => (intro w hSw; (try dsimp only at hSw); go_simp; first | done | with_reducible rfl)
  try simp only [Act.put, List.setIfInBounds_toArray, List.set_cons_zero, List.set_cons_succ]
  refine wpAnyH_take (i := 6) (oi := _) (v := ?v6) rfl (by kernel_rfl) (by kernel_rfl) (by kernel_rfl) (fun _ _ _ h => h) (Or.inl ⟨by rfl, ?h6⟩) (by assumption) ?r6
  case h6 => (intro w hSw; (try dsimp only at hSw); go_simp; first | done | with_reducible rfl)
  try simp only [Act.put, List.setIfInBounds_toArray, List.set_cons_zero, List.set_cons_succ]
  refine wpAnyH_ready (rs := [7]) (by kernel_rfl) (by simp) ?_
  refine AllReadyH.cons (o := _) rfl (fun K hK => ?_) AllReadyH.nil
  go_simp
  (go_at_call 48; (with_reducible refine (K4.out _ _ (FS.out _ ((Mod.refl _ _).drew)).2.1).mono ?_); rintro e w7 ⟨bv, hbv, rfl, hcv, hM7⟩; have HQ : Hold (Mod noB W6 w7) := ⟨Mod.trans ((Mod.refl noB W6).drew) hM7⟩; clear hM7)
  go_simp
  refine hK.out _ _ (FS.out _ HQ.out) (fun hHeld2 => ?_)
  refine wpAnyH_weak (S2 := fun w' => w' = w7) (fun w' h => by subst h; exact hHeld2) _ _ _ _ ?_
  have hself : (fun w' => w' = w7) w7 := rfl
  refine wpAnyH_take (i := 8) (oi := _) (v := ?v8) rfl (by kernel_rfl) (by kernel_rfl) (by kernel_rfl) (fun _ _ _ h => h) (Or.inl ⟨by rfl, ?h8⟩) (by assumption) ?r8
  case h8 => (intro w hSw; (try dsimp only at hSw); go_simp; first | done | with_reducible rfl)
  try simp only [Act.put, List.setIfInBounds_toArray, List.set_cons_zero, List.set_cons_succ]
  refine wpAnyH_take (i := 9) (oi := _) (v := ?v9) rfl (by kernel_rfl) (by kernel_rfl) (by kernel_rfl) (fun _ _ _ h => h) (Or.inl ⟨by rfl, ?h9⟩) (by assumption) ?r9
  case h9 => (intro w hSw; (try dsimp only at hSw); go_simp; first | done | with_reducible rfl)
  try simp only [Act.put, List.setIfInBounds_toArray, List.set_cons_zero, List.set_cons_succ]
  refine wpAnyH_take (i := 10) (oi := _) (v := ?v10) rfl (by kernel_rfl) (by kernel_rfl) (by kernel_rfl) (fun _ _ _ h => h) (Or.inl ⟨by rfl, ?h10⟩) (by assumption) ?r10
  case h10 => (intro w hSw; (try dsimp only at hSw); go_simp; first | done | with_reducible rfl)
  try simp only [Act.put, List.setIfInBounds_toArray, List.set_cons_zero, List.set_cons_succ]
  refine wpAnyH_take (i := 11) (oi := _) (v := ?v11) rfl (by kernel_rfl) (by kernel_rfl) (by kernel_rfl) (fun _ _ _ h => h) (Or.inl ⟨by rfl, ?h11⟩) (by assumption) ?r11
  case h11 => (intro w hSw; (try dsimp only at hSw); go_simp; first | done | with_reducible rfl)
  try simp only [Act.put, List.setIfInBounds_toArray, List.set_cons_zero, List.set_cons_succ]
  refine wpAnyH_take (i := 12) (oi := _) (v := ?v12) rfl (by kernel_rfl) (by kernel_rfl) (by kernel_rfl) (fun _ _ _ h => h) (Or.inl ⟨by rfl, ?h12⟩) (by assumption) ?r12
  case h12 => (intro w hSw; (try dsimp only at hSw); go_simp; first | done | with_reducible rfl)
  try simp only [Act.put, List.setIfInBounds_toArray, List.set_cons_zero, List.set_cons_succ]
  refine wpAnyH_take (i := 13) (oi := _) (v := ?v13) rfl (by kernel_rfl) (by kernel_rfl) (by kernel_rfl) (fun _ _ _ h => h) (Or.inl ⟨by rfl, ?h13⟩) (by assumption) ?r13
  case h13 => (intro w hSw; (try dsimp only at hSw); go_simp; first | done | with_reducible rfl)
  try simp only [Act.put, List.setIfInBounds_toArray, List.set_cons_zero, List.set_cons_succ]
  refine wpAnyH_done (by kernel_rfl) ?_ _
  rw [IntWalk.i64_in (b - 1) (by omega)]
  go_wp2
  go_ret3
  exact ⟨rfl, HM0.out.trans (HM6.out.trans HQ.out)⟩

theorem side_ends {s : Edg} (h : sideB s = true) (hk : s.k ≠ 0) : Wid s := by
  simp only [sideB, Bool.or_eq_true, Bool.and_eq_true, beq_iff_eq] at h
  rcases h with h | ⟨_, ⟨_, h2⟩, _⟩
  · exact absurd h hk
  · obtain ⟨a, b, c⟩ := within_of h2
    exact ⟨a, b, c⟩
theorem tight_of {t h : Edg} (ht : sideB t = true) (hh : sideB h = true) (hk : t.k = 1) (hk2 : h.k = 2) : Tight t h :=
  ⟨hk, hk2, (side_wide ht (by omega)).2, (side_wide hh (by omega)).2, side_small ht (by omega), side_small hh (by omega)⟩
theorem pair_of {t h : Edg} (ht : sideB t = true) (hh : sideB h = true) (hk : t.k = 1) (hk2 : h.k = 2) : Pair t h :=
  ⟨hk, hk2, side_ends ht (by omega), side_ends hh (by omega)⟩
theorem play_damp {p : Ply} (h : playB p = true) : 0 ≤ p.damp.1 ∧ p.damp.1 ≤ p.damp.2 := by
  simp only [playB, Bool.and_eq_true] at h
  obtain ⟨a, b, _⟩ := within_of h.2
  exact ⟨a, b⟩

theorem strokes_any (t h : Edg) (p : Ply) (wear : Int × Int) (w : World) (hp : playB p = true) (ht : sideB t = true) (hh : sideB h = true) (hk : t.k = 1) (hk2 : h.k = 2) (hw : withinB wear 0 100 = true) :
    Calls Try.prog 61 #[mtV t h, plV p, spV wear] w fun e w' => e = .returned (.tuple #[.int .i64 (strokesR t h wear p).1, .int .i64 (strokesR t h wear p).2.1, .bool (strokesR t h wear p).2.2]) ∧ Mod noB w w' := by
  have T := tight_of ht hh hk hk2
  have P := pair_of ht hh hk hk2
  have hwe := wear_of hw
  have hws : Small 100 wear := within_small hw (by omega) (by omega)
  have hps := play_small hp
  obtain ⟨f1, f2, f3, f4⟩ := from_spec P hwe
  obtain ⟨b1, b2, b3, b4⟩ := behind_spec P hwe (play_damp hp)
  have K1 : ∀ W' mb wb, W'.heap[mb]? = some (.cells (mtC t h) 87) → W'.heap[wb]? = some (.cells #[.int .i64 wear.1, .int .i64 wear.2] 90) →
      Calls Try.prog 80 #[.int .i64 0, .int .i64 20001, .func (.func 81) #[] #[.pointer (some ⟨mb, 0, none⟩), .pointer (some ⟨wb, 0, none⟩)]] W' fun e w' => e = .returned (.int .i64 (fromR t h wear)) ∧ Mod noB W' w' := fun W' mb wb h1 h2 =>
    least_any 81 _ (wideB t h wear) 0 20001 20001 W' (by omega) (by omega) (by omega) (by omega) (by omega) enter81 (fun n w1 g1 g2 hM => strokes1_any t h wear n mb wb w1 T hws ⟨g1, by omega⟩ (hM.at h1 id) (hM.at h2 id))
  have K2 : ∀ W' mb wb pb, W'.heap[mb]? = some (.cells (mtC t h) 87) → W'.heap[wb]? = some (.cells #[.int .i64 wear.1, .int .i64 wear.2] 90) → W'.heap[pb]? = some (.cells (plC p) 25) →
      Calls Try.prog 80 #[.int .i64 (fromR t h wear), .int .i64 20001, .func (.func 83) #[] #[.pointer (some ⟨mb, 0, none⟩), .pointer (some ⟨wb, 0, none⟩), .pointer (some ⟨pb, 0, none⟩)]] W' fun e w' => e = .returned (.int .i64 (behindR t h wear p)) ∧ Mod noB W' w' := fun W' mb wb pb h1 h2 h3 =>
    least_any 83 _ (looseB t h wear p) (fromR t h wear) 20001 20001 W' (by omega) (by omega) (by omega) (by omega) (by omega) enter83 (fun n w1 g1 g2 hM => strokes2_any t h wear p n mb wb pb w1 T hps hws ⟨by omega, by omega⟩ (hM.at h1 id) (hM.at h2 id) (hM.at h3 id))
  by_cases hfb : fromR t h wear = behindR t h wear p
  · rw [show strokesR t h wear p = (0, 0, false) by simp [strokesR, hfb]]
    rw [← hfb] at K2
    exact strokes_none t h p wear w _ ⟨f1, f2⟩ ⟨K1⟩ ⟨K2⟩
  · rw [show strokesR t h wear p = (fromR t h wear, behindR t h wear p - 1, fitR p (wornR t wear (fromR t h wear)) (wornR h wear (fromR t h wear)) == 2) by simp [strokesR, hfb]]
    obtain ⟨c1, c2, _⟩ := can_of_loose (b3 (fromR t h wear) (by omega) (by omega))
    have K3 := fun w => mworn_any t h wear (fromR t h wear) w T hws ⟨f1, by omega⟩
    rw [c1, c2] at K3
    have s1 := side_worn ht (.inl hk) c1
    have s2 := side_worn hh (.inr hk2) c2
    refine strokes_some t h (wornR t wear (fromR t h wear)) (wornR h wear (fromR t h wear)) p wear w _ _ _ ⟨f1, f2⟩ ⟨by omega, b2⟩ hfb ⟨K1⟩ ⟨K2⟩ ⟨K3⟩ ⟨fun W' ao hE => ?_⟩
    refine (verdicts_any p (wornR t wear (fromR t h wear)) [wornR h wear (fromR t h wear)] ao 1 W' hp s1 (by simp [s2]) hE (by simp)).mono ?_
    rintro e w' ⟨b, hb, rfl, hc, hM⟩
    exact ⟨b, hb, rfl, fcells_cell hc (k := 0) (by simp), hM⟩
end Go.Proofs.Ytnjbamikfjdofaa

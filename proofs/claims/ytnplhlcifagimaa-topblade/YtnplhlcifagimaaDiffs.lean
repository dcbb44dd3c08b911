/- The three differences, as values of an interface, and whether they are allowed. -/
import Derived.Test.YtnplhlcifagimaaMatch
set_option linter.unusedSimpArgs false
set_option linter.unusedVariables false
namespace Go.Proofs.Ytnplhlcifagimaa
open Go.RowKit

structure PSmall (p : Ply) : Prop where
  l1 : -10000000 ≤ p.len
  l2 : p.len ≤ 10000000
  s1 : -10000000 ≤ p.slack
  s2 : p.slack ≤ 10000000
  o1 : -10000000 ≤ p.loose
  o2 : p.loose ≤ 10000000
  d : Small 1000 p.damp

set_option maxRecDepth 100000 in
set_option maxHeartbeats 2000000 in
theorem fitsOff_any (s : Int × Int) (p : Ply) (w : World) (hs : Small 10000000 s) (hp : PSmall p) :
    Calls Try.prog 55 #[spV s, plV p] w fun e w' => e = .returned (.int .i64 (verdictR s (-p.slack) p.slack p.damp)) ∧ Mod noB w w' := by
  obtain ⟨len, slack, loose, damp⟩ := p
  obtain ⟨l1, l2, s1, s2, o1, o2, hd⟩ := hp
  simp only at s1 s2 hd
  have HV := Hold.mk (fun w => verdict_any s (-slack) slack damp w hs hd ⟨by omega, by omega⟩ ⟨by omega, by omega⟩)
  have HM0 := Hold.mk (((Mod.refl noB w).alloc (.cells #[.int .i64 s.1, .int .i64 s.2] 76)).alloc (.cells (plC ⟨len, slack, loose, damp⟩) 34))
  generalize verdictR s (-slack) slack damp = v at *
  clear l1 l2 o1 o2 hd hs
  go_enter Try.func55, Try.ntmps55
  go_wp2_with (go_at_call 56; (with_reducible refine (HV.out _).mono ?_); rintro e w1 ⟨rfl, hM⟩; have HM1 := Hold.mk hM; clear hM)
  go_ret
  exact ⟨rfl, HM0.out.trans HM1.out⟩

set_option maxRecDepth 100000 in
set_option maxHeartbeats 2000000 in
theorem fitsWide_any (s : Int × Int) (p : Ply) (w : World) (hs : Small 10000000 s) (hp : PSmall p) :
    Calls Try.prog 58 #[spV s, plV p] w fun e w' => e = .returned (.int .i64 (verdictR s 0 p.loose p.damp)) ∧ Mod noB w w' := by
  obtain ⟨len, slack, loose, damp⟩ := p
  obtain ⟨l1, l2, s1, s2, o1, o2, hd⟩ := hp
  simp only at o1 o2 hd
  have HV := Hold.mk (fun w => verdict_any s 0 loose damp w hs hd ⟨by omega, by omega⟩ ⟨by omega, by omega⟩)
  have HM0 := Hold.mk (((Mod.refl noB w).alloc (.cells #[.int .i64 s.1, .int .i64 s.2] 78)).alloc (.cells (plC ⟨len, slack, loose, damp⟩) 34))
  generalize verdictR s 0 loose damp = v at *
  clear l1 l2 s1 s2 hd hs
  go_enter Try.func58, Try.ntmps58
  go_wp2_with (go_at_call 56; (with_reducible refine (HV.out _).mono ?_); rintro e w1 ⟨rfl, hM⟩; have HM1 := Hold.mk hM; clear hM)
  go_ret
  exact ⟨rfl, HM0.out.trans HM1.out⟩

set_option maxRecDepth 100000 in
set_option maxHeartbeats 2000000 in
theorem fitsDeep_any (s : Int × Int) (p : Ply) (w : World) (hs : Small 10000000 s) (hp : PSmall p) :
    Calls Try.prog 59 #[spV s, plV p] w fun e w' => e = .returned (.int .i64 (verdictR s 0 p.loose p.damp)) ∧ Mod noB w w' := by
  obtain ⟨len, slack, loose, damp⟩ := p
  obtain ⟨l1, l2, s1, s2, o1, o2, hd⟩ := hp
  simp only at o1 o2 hd
  have HV := Hold.mk (fun w => verdict_any s 0 loose damp w hs hd ⟨by omega, by omega⟩ ⟨by omega, by omega⟩)
  have HM0 := Hold.mk (((Mod.refl noB w).alloc (.cells #[.int .i64 s.1, .int .i64 s.2] 80)).alloc (.cells (plC ⟨len, slack, loose, damp⟩) 34))
  generalize verdictR s 0 loose damp = v at *
  clear l1 l2 s1 s2 hd hs
  go_enter Try.func59, Try.ntmps59
  go_wp2_with (go_at_call 56; (with_reducible refine (HV.out _).mono ?_); rintro e w1 ⟨rfl, hM⟩; have HM1 := Hold.mk hM; clear hM)
  go_ret
  exact ⟨rfl, HM0.out.trans HM1.out⟩

set_option maxRecDepth 100000 in
set_option maxHeartbeats 4000000 in
theorem differences_any (t h : Edg) (p : Ply) (w : World) (ht : ESmall 1000000 t) (hh : ESmall 1000000 h) (hp : PSmall p) :
    Calls Try.prog 29 #[mtV t h, plV p] w fun e w' => ∃ b, w.heap.size ≤ b ∧ e = .returned (.slice (some ⟨b, 0, none⟩) 3 3) ∧ w'.heap[b]? = some (.cells #[.iface 76 (spV (offR t h p.len)), .iface 78 (spV (wideR t h)), .iface 80 (spV (deepR t h))] 70) ∧ Mod noB w w' := by
  have HO := Hold.mk (fun w => off_any t h p.len w ⟨ht.1.le (by omega), ht.2.1.le (by omega), ht.2.2.le (by omega)⟩ ⟨hh.1.le (by omega), hh.2.1.le (by omega), hh.2.2.le (by omega)⟩ ⟨hp.l1, hp.l2⟩)
  have HW := Hold.mk (fun w => wide_any t h w ⟨ht.1.le (by omega), ht.2.1.le (by omega), ht.2.2.le (by omega)⟩ ⟨hh.1.le (by omega), hh.2.1.le (by omega), hh.2.2.le (by omega)⟩)
  have HD := Hold.mk (fun w => deep_any t h w ⟨ht.1.le (by omega), ht.2.1.le (by omega), ht.2.2.le (by omega)⟩ ⟨hh.1.le (by omega), hh.2.1.le (by omega), hh.2.2.le (by omega)⟩)
  obtain ⟨len, slack, loose, damp⟩ := p
  simp only at HO
  clear ht hh hp
  obtain ⟨W1, hW1⟩ : ∃ W1, (w.alloc (.cells (mtC t h) 64)).alloc (.cells (plC ⟨len, slack, loose, damp⟩) 34) = W1 := ⟨_, rfl⟩
  have HM0 : Hold (Mod noB w W1) := ⟨by rw [← hW1]; exact ((Mod.refl _ _).alloc _).alloc _⟩
  have hb0 : W1.heap[w.heap.size]? = some (.cells (mtC t h) 64) := by rw [← hW1, Below.heap_alloc _ _ _ (by simp)]; exact World.alloc_heap_new _ _
  have hb1 : W1.heap[w.heap.size + 1]? = some (.cells (plC ⟨len, slack, loose, damp⟩) 34) := by rw [← hW1]; have := World.alloc_heap_new (w.alloc (.cells (mtC t h) 64)) (.cells (plC ⟨len, slack, loose, damp⟩) 34); simpa using this
  have FIN : Hold (∀ W', Mod noB W1 W' → MatchAt W' w.heap.size t h ∧ W'.cell? ⟨w.heap.size + 1, 0, none⟩ = some (.int .i64 len)) := ⟨fun W' h => ⟨MatchAt.of (h.at hb0 id), by have := h.at hb1 id; simp [World.cell?, this]⟩⟩
  clear hb0 hb1
  go_enter Try.func29, Try.ntmps29
  go_wp2
  clear hW1
  refine region_tailP 11 ⟨by decide, by kernel_rfl, by kernel_rfl, by kernel_rfl, by kernel_rfl, by kernel_rfl⟩ (by kernel_rfl) (fun W' => Mod noB W1 W') ((Mod.refl _ _).drew) ?_
  simp only [strikeL, List.take_succ_cons, List.take_zero, List.drop_succ_cons, List.drop_zero, List.map_cons, List.map_nil, List.cons_append, List.nil_append, bareO]
  repeat
    (first
      | go_big_quiet_skip
      | (go_big_quiet_want
         go_simp
         first
           | go_big_quiet_on
           | (apply Exists.intro
              refine ⟨fun W' hC => ?_, ?_⟩
              · obtain ⟨⟨q0, q1, q2, q3, q4, q5, q6, q7, q8, q9, q10, q11, q12, q13⟩, z⟩ := FIN.out W' hC
                first
                  | (go_at_call 35; refine (HO.out _).mono fun e w'' he => ⟨he.1, hC.trans he.2⟩)
                  | (go_at_call 36; refine (HW.out _).mono fun e w'' he => ⟨he.1, hC.trans he.2⟩)
                  | (go_at_call 37; refine (HD.out _).mono fun e w'' he => ⟨he.1, hC.trans he.2⟩)
                  | with_reducible rfl
                  | (go_simp; first | rfl | exact ⟨rfl, rfl⟩)
              go_big_quiet_on)
           | (refine ⟨⟨_, fun _ _ => rfl⟩, ?_⟩; go_big_quiet_on)))
  refine wpQuiet_nil ?_
  intro Wq hq
  have HQ := Hold.mk hq
  clear hq
  gi_wp2
  go_wp2
  go_ret
  exact ⟨_, by have := HM0.out.size; have := HQ.out.size; omega, rfl, World.alloc_heap_new _ _, (HM0.out.trans HQ.out).alloc _⟩
end Go.Proofs.Ytnplhlcifagimaa

/- numbers: the piece of each cell of a block. -/
import Derived.Test.YtogalmkeipigeaaTail
import Derived.Test.YtogalmkeipigeaaApart
import Derived.Test.YtogalmkeipigeaaOutside
set_option linter.unusedSimpArgs false
set_option linter.unusedVariables false
namespace Go.Proofs.Ytogalmkeipigeaa
open Go.RowKit Go.Shelf
attribute [local go_sem] Oper.semAt_some

theorem enter88 : ∀ args w, (callFunc 88 args).run Try.prog w = .ok (.enter 88 args) w := enters_of Try.func88 (by kernel_rfl) rfl

/-- The pieces of a block's cells. -/
def numbersL (g : Int × Int → Option Int) (lt tp rt bt : Nat) : List Int := (cellsL lt tp rt bt).map (atG g)

theorem cellsL_small {lt tp rt bt : Nat} (h2 : rt ≤ 12) (h4 : bt ≤ 12) {p : Int × Int} (h : p ∈ cellsL lt tp rt bt) : 0 ≤ p.1 ∧ p.1 < 100 ∧ 0 ≤ p.2 ∧ p.2 < 100 := by
  simp only [cellsL, List.mem_map, List.mem_range] at h
  obtain ⟨m, hm, rfl⟩ := h
  have hpos : 0 < rt - lt := by
    rcases Nat.eq_zero_or_pos (rt - lt) with e | e
    · rw [e] at hm; simp at hm
    · exact e
  have h1 := Nat.mod_lt m hpos
  have h3 : m / (rt - lt) < bt - tp := (Nat.div_lt_iff_lt_mul hpos).2 hm
  generalize m % (rt - lt) = u at *
  generalize m / (rt - lt) = v at *
  refine ⟨Int.natCast_nonneg _, ?_, Int.natCast_nonneg _, ?_⟩
  · show ((lt + u : Nat) : Int) < 100
    omega
  · show ((tp + v : Nat) : Int) < 100
    omega

set_option maxRecDepth 100000 in
set_option maxHeartbeats 4000000 in
theorem numbers1_runs (bb pb mb lt tp rt bt : Nat) (W H N : Int) (g : Int × Int → Option Int) (w : World) (hbb : w.heap[bb]? = some (.cells #[.int .i64 lt, .int .i64 tp, .int .i64 rt, .int .i64 bt] 97))
    (hpb : w.heap[pb]? = some (.cells #[.int .i64 W, .int .i64 H, .int .i64 N, .map (some mb)] 71)) (hm : MapIs Try.prog 106 cellV w mb g) (h1 : lt ≤ rt) (h2 : rt ≤ 12) (h3 : tp ≤ bt) (h4 : bt ≤ 12) :
    Runs Try.prog 88 #[.pointer (some ⟨bb, 0, none⟩), .pointer (some ⟨pb, 0, none⟩)] intV (fun k => k = bb ∨ k = pb ∨ k = mb) (numbersL g lt tp rt bt) w := by
  intro n' l J Jx W0 hs hKW hJ hJx hY h0
  have hbb0 : W0.heap[bb]? = some (.cells #[.int .i64 lt, .int .i64 tp, .int .i64 rt, .int .i64 bt] 97) := (hKW bb (.inl rfl)).trans hbb
  have hpb0 : W0.heap[pb]? = some (.cells #[.int .i64 W, .int .i64 H, .int .i64 N, .map (some mb)] 71) := (hKW pb (.inr (.inl rfl))).trans hpb
  have hm0 : MapIs Try.prog 106 cellV W0 mb g := hm.same (hKW mb (.inr (.inr rfl)))
  have hSlt : ∀ k, (k = bb ∨ k = pb ∨ k = mb) → k < W0.heap.size := by
    rintro k (rfl | rfl | rfl)
    · exact (Array.getElem?_eq_some_iff.1 hbb0).1
    · exact (Array.getElem?_eq_some_iff.1 hpb0).1
    · exact hm0.lt
  clear hpb hbb hm hKW
  have c0 : W0.cell? ⟨bb, 0, none⟩ = some (.int .i64 lt) := by simp [World.cell?, hbb0]
  have c1 : W0.cell? ⟨bb, 1, none⟩ = some (.int .i64 tp) := by simp [World.cell?, hbb0]
  have c2 : W0.cell? ⟨bb, 2, none⟩ = some (.int .i64 rt) := by simp [World.cell?, hbb0]
  have c3 : W0.cell? ⟨bb, 3, none⟩ = some (.int .i64 bt) := by simp [World.cell?, hbb0]
  refine callsIn_of_wp_marks Try.func88 rfl trivial ?_ rfl
  simp only [Try.ntmps88, List.size_toArray, List.length_cons, List.length_nil, Nat.reduceAdd, Nat.reduceSub, Array.replicate_succ, Array.replicate_zero, List.push_toArray, List.append_toArray, List.nil_append, List.cons_append]
  gi_wp2_with (refine ⟨trivial, ?_⟩; gi_at_call 82; refine (callsIn_wide.2 (blockCells_any _ _ _ _ _)).mono ?_; rintro e w' ⟨rfl, rfl⟩)
  obtain ⟨W1, hW1⟩ : ∃ W1, (W0.alloc (.cells #[.func (.yield l) #[] #[]] 77)).alloc (.cells #[.int .i64 lt, .int .i64 tp, .int .i64 rt, .int .i64 bt] 97) = W1 := ⟨_, rfl⟩
  rw [hW1]
  rw [allocL2] at hW1
  have hM1 : Mod noB W0 W1 := by rw [← hW1]; exact allocL_mod _ _ _
  have hz1 : W1.heap.size = W0.heap.size + 2 := by rw [← hW1]; exact allocL_size _ _
  have hy1 : W1.heap[W0.heap.size + 0]? = some (.cells #[.func (.yield l) #[] #[]] 77) := by rw [← hW1]; exact allocL_at _ _ _ _ rfl
  have hb1 : W1.heap[W0.heap.size + 1]? = some (.cells #[.int .i64 lt, .int .i64 tp, .int .i64 rt, .int .i64 bt] 97) := by rw [← hW1]; exact allocL_at _ _ _ _ rfl
  simp only [Nat.add_zero] at hy1
  have hp1 := hM1.at hpb0 id
  have hm1 := hm0.same (hM1.block mb hm0.lt id)
  clear hW1 c0 c1 c2 c3
  refine range_plain (gf := 87) (lb := #[.pointer (some ⟨W0.heap.size + 1, 0, none⟩)]) rfl rfl enter87 (cells1_runs (W0.heap.size + 1) lt tp rt bt W1 hb1 h1 h2 h3 h4)
    (by rintro k rfl; omega) (fun k => k < W0.heap.size ∧ ¬ (k = bb ∨ k = pb ∨ k = mb)) (by rintro k ⟨hk, _⟩; exact ⟨by omega, by omega⟩)
    (fun pre Wr => J (pre.map (atG g)) Wr ∧ Mod (fun k => k < W0.heap.size ∧ ¬ (k = bb ∨ k = pb ∨ k = mb)) W1 Wr)
    (fun c pre Wr => (c = .ret ∧ ∃ q, q <+: numbersL g lt tp rt bt ∧ Jx q Wr) ∧ Mod (fun k => k < W0.heap.size ∧ ¬ (k = bb ∨ k = pb ∨ k = mb)) W1 Wr)
    (fun s A B h hg => ⟨hJ _ _ _ h.1 (hg.wider (fun i _ hi => by omega)), h.2.then hg (fun i h1 h2 => by omega)⟩)
    (fun c s A B h hg => by
      obtain ⟨⟨h1, q, h2, h3⟩, h4⟩ := h
      exact ⟨⟨h1, q, h2, hJx _ _ _ h3 (hg.wider (fun i _ hi => by omega))⟩, h4.then hg (fun i h1 h2 => by omega)⟩)
    ⟨hJ _ _ _ h0 (hM1.wider (fun i _ h => h.elim)), Mod.refl _ _⟩
    (some (106, fun p => #[.int .i64 p.1, .int .i64 p.2]))
    (fun Bx x => { tmps := #[.func (.yield l) #[] #[], .pointer (some ⟨bb, 0, none⟩), .pointer (some ⟨pb, 0, none⟩), .pointer (some ⟨W0.heap.size, 0, none⟩), .pointer (some ⟨Bx, 0, none⟩),
      .agg #[.int .i64 lt, .int .i64 tp, .int .i64 rt, .int .i64 bt], .func (.func 87) #[] #[.pointer (some ⟨W0.heap.size + 1, 0, none⟩)], cellV x, undef, undef, undef, undef, undef, undef], defers := [] })
    ?assign ?body ?done ?stop
  case assign =>
    intro l x W K hK
    gi_wp2
    exact hK
  case body =>
    rintro l2 pre x rest a' Wr hL hl2 hr2 hzr ⟨hj, hmr⟩ ⟨Bx, hBx, hbx, rfl⟩
    have hp2 := hmr.at hp1 (fun h => h.2 (.inr (.inl rfl)))
    have hy2 := hmr.at hy1 (fun h => absurd h.1 (Nat.lt_irrefl _))
    have hm2 := hm1.same (hmr.block mb hm1.lt (fun h => h.2 (.inr (.inr rfl))))
    obtain ⟨hx1, hx2, hx3, hx4⟩ := cellsL_small h2 h4 (p := x) (by rw [hL]; simp)
    have FIN : Hold (∀ W', Mod noB Wr W' → W'.cell? ⟨pb, 0, none⟩ = some (.int .i64 W) ∧ W'.cell? ⟨pb, 1, none⟩ = some (.int .i64 H) ∧ W'.cell? ⟨pb, 2, none⟩ = some (.int .i64 N) ∧ W'.cell? ⟨pb, 3, none⟩ = some (.map (some mb)) ∧
        W'.cell? ⟨W0.heap.size, 0, none⟩ = some (.func (.yield l) #[] #[]) ∧ W'.cell? ⟨Bx, 0, none⟩ = some (.int .i64 x.1) ∧ W'.cell? ⟨Bx, 1, none⟩ = some (.int .i64 x.2) ∧ MapIs Try.prog 106 cellV W' mb g) := ⟨fun W' h => by
      have e1 := h.at hp2 id
      have e2 := h.at hy2 id
      have e3 := h.at hbx id
      refine ⟨?_, ?_, ?_, ?_, ?_, ?_, ?_, hm2.same (h.block mb hm2.lt id)⟩ <;> simp [World.cell?, e1, e2, e3]⟩
    have HL : Hold (numbersL g lt tp rt bt = pre.map (atG g) ++ atG g x :: rest.map (atG g)) := ⟨by unfold numbersL; rw [hL]; simp⟩
    have HN : Hold ((pre ++ [x]).map (atG g) = pre.map (atG g) ++ [atG g x]) := ⟨by simp⟩
    have HY := Hold.mk hY
    have HJ := Hold.mk hj
    clear hL hm2 hp2 hy2 hY hj hbx hp1 hy1 hb1
    gi_wp2
    refine region_tail (fun _ => trivial) rfl round_call mixed 4 ⟨by decide, by kernel_rfl, by kernel_rfl, by kernel_rfl, by kernel_rfl, by kernel_rfl⟩ (by kernel_rfl) (fun W' => Mod noB Wr W') ((Mod.refl _ _).drew) ?_
    simp only [strikeL, List.take_succ_cons, List.take_zero, List.drop_succ_cons, List.drop_zero, List.map_cons, List.map_nil, List.cons_append, List.nil_append, bareO]
    repeat
      (first
        | go_big_quiet_skip
        | (go_big_quiet_want
           go_simp
           first
             | go_big_quiet_on
             | (apply Exists.intro
                refine ⟨fun W' hC => ?_, ?_⟩
                · obtain ⟨f0, f1, f2, f3, f4, f5, f6, f7⟩ := FIN.out W' hC
                  first
                    | (go_at_call 71; refine (at_any _ _ _ _ x _ g f7 (wf64_of (by omega) (by omega)) (wf64_of (by omega) (by omega))).mono fun e w'' he => ⟨he.1, hC.trans (Mod.of_below he.2 rfl)⟩)
                    | with_reducible rfl
                    | (clear f7; go_simp; first | rfl | exact ⟨rfl, rfl⟩)
                go_big_quiet_on)
             | (refine ⟨⟨_, fun _ _ => rfl⟩, ?_⟩; go_big_quiet_on)))
    refine wpQuiet_nil ?_
    intro Wq hq
    obtain ⟨fn, tm, asg, bdy, hy, hR⟩ := HY.out _ _ _ Wq HL.out (hJ _ _ _ HJ.out (hq.wider (fun i _ h => h.elim))) (Nat.le_trans (by omega) hq.size)
    gi_wp2
    refine (roundIn_inRound hR).mono ?_
    rintro e W3 (⟨rfl, hJ3, hM3⟩ | ⟨rfl, hJ3, hM3⟩)
    · gi_wp2
      exact ⟨(hq.wider (fun i _ h => h.elim)).trans hM3, by rw [HN.out]; exact hJ3, (hmr.then hq (fun i _ h => h.elim)).trans hM3⟩
    · gi_wp2
      exact ⟨(hq.wider (fun i _ h => h.elim)).trans hM3, ⟨rfl, _, ⟨_, by rw [HL.out, List.append_assoc _ [_], List.singleton_append]⟩, hJ3⟩, (hmr.then hq (fun i _ h => h.elim)).trans hM3⟩
  case done =>
    rintro D W' hD hz ⟨hj, hm⟩ hK
    gi_wp2
    refine ⟨by simp, .inl ⟨_, _, rfl, run_takeDeferred hK, ?_⟩⟩
    exact ⟨_, results_none rfl _ _ _, ⟨_, rfl⟩, by simp; omega, .inl (hJ _ _ _ hj ((Mod.refl _ _).putObj (fun _ => by omega) _))⟩
  case stop =>
    rintro D c pre W' hD hz hpre ⟨⟨rfl, q, hq, hj⟩, hm⟩ hK
    gi_wp2
    refine ⟨by simp, .inl ⟨_, _, rfl, run_takeDeferred hK, ?_⟩⟩
    exact ⟨_, results_none rfl _ _ _, ⟨_, rfl⟩, by simp; omega, .inr ⟨q, hq, hJx _ _ _ hj ((Mod.refl _ _).putObj (fun _ => by omega) _)⟩⟩
end Go.Proofs.Ytogalmkeipigeaa

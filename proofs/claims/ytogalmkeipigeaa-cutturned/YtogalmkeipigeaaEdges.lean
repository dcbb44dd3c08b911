/- edges: for each edge below a cell or on its right, whether it is in the lines. -/
import Derived.Test.YtogalmkeipigeaaTail
import Derived.Test.YtogalmkeipigeaaApart
import Derived.Test.YtogalmkeipigeaaOutside
set_option linter.unusedSimpArgs false
set_option linter.unusedVariables false
namespace Go.Proofs.Ytogalmkeipigeaa
open Go.RowKit Go.Shelf
attribute [local go_sem] Oper.semAt_some

theorem enter76 : ∀ args w, (callFunc 76 args).run Try.prog w = .ok (.enter 76 args) w := enters_of Try.func76 (by kernel_rfl) rfl

/-- Is an edge that of another cell: above, or on the left? -/
def otherB (x d : Int × Int) : Bool := decide (d.1 < x.1) || decide (d.2 < x.2)
def edgesAt (g : Int × Int → Option Int) (x : Int × Int) : List Bool := ((besideL x).filter fun d => !otherB x d).map (apartB g x)
def edgesL (g : Int × Int → Option Int) (W H : Nat) : List Bool := (cellsL 0 0 W H).flatMap (edgesAt g)

set_option maxRecDepth 100000 in
set_option maxHeartbeats 4000000 in
theorem edges1_runs (pb mb W H : Nat) (N : Int) (g : Int × Int → Option Int) (w : World) (hpb : w.heap[pb]? = some (.cells #[.int .i64 W, .int .i64 H, .int .i64 N, .map (some mb)] 71))
    (hm : MapIs Try.prog 106 cellV w mb g) (hW : W ≤ 12) (hH : H ≤ 12) :
    Runs Try.prog 76 #[.pointer (some ⟨pb, 0, none⟩)] boolV (fun k => k = pb ∨ k = mb) (edgesL g W H) w := by
  intro n' l J Jx W0 hs hKW hJ hJx hY h0
  have hpb0 : W0.heap[pb]? = some (.cells #[.int .i64 W, .int .i64 H, .int .i64 N, .map (some mb)] 71) := (hKW pb (.inl rfl)).trans hpb
  have hm0 : MapIs Try.prog 106 cellV W0 mb g := hm.same (hKW mb (.inr rfl))
  have hSlt : ∀ k, (k = pb ∨ k = mb) → k < W0.heap.size := by
    rintro k (rfl | rfl)
    · exact (Array.getElem?_eq_some_iff.1 hpb0).1
    · exact hm0.lt
  clear hpb hm hKW
  have c0 : W0.cell? ⟨pb, 0, none⟩ = some (.int .i64 W) := by simp [World.cell?, hpb0]
  have c1 : W0.cell? ⟨pb, 1, none⟩ = some (.int .i64 H) := by simp [World.cell?, hpb0]
  have c2 : W0.cell? ⟨pb, 2, none⟩ = some (.int .i64 N) := by simp [World.cell?, hpb0]
  have c3 : W0.cell? ⟨pb, 3, none⟩ = some (.map (some mb)) := by simp [World.cell?, hpb0]
  refine callsIn_of_wp_marks Try.func76 rfl trivial ?_ rfl
  simp only [Try.ntmps76, List.size_toArray, List.length_cons, List.length_nil, Nat.reduceAdd, Nat.reduceSub, Array.replicate_succ, Array.replicate_zero, List.push_toArray, List.append_toArray, List.nil_append, List.cons_append]
  gi_wp2_with (refine ⟨trivial, ?_⟩; gi_at_call 70; refine (callsIn_wide.2 (picCells_any _ _ _ _ _)).mono ?_; rintro e w' ⟨rfl, rfl⟩)
  obtain ⟨W1, hW1⟩ : ∃ W1, ((W0.alloc (.cells #[.func (.yield l) #[] #[]] 117)).alloc (.cells #[.int .i64 W, .int .i64 H, .int .i64 N, .map (some mb)] 71)).alloc (.cells #[.int .i64 0, .int .i64 0, .int .i64 W, .int .i64 H] 97) = W1 := ⟨_, rfl⟩
  rw [hW1]
  rw [allocL3] at hW1
  have hM1 : Mod noB W0 W1 := by rw [← hW1]; exact allocL_mod _ _ _
  have hz1 : W1.heap.size = W0.heap.size + 3 := by rw [← hW1]; exact allocL_size _ _
  have hy1 : W1.heap[W0.heap.size + 0]? = some (.cells #[.func (.yield l) #[] #[]] 117) := by rw [← hW1]; exact allocL_at _ _ _ _ rfl
  have hb1 : W1.heap[W0.heap.size + 2]? = some (.cells #[.int .i64 ((0 : Nat) : Int), .int .i64 ((0 : Nat) : Int), .int .i64 W, .int .i64 H] 97) := by rw [← hW1]; exact allocL_at _ _ _ _ rfl
  simp only [Nat.add_zero] at hy1
  have hp1 := hM1.at hpb0 id
  have hm1 := hm0.same (hM1.block mb hm0.lt id)
  clear hW1 c0 c1 c2 c3
  refine range_plain (gf := 87) (lb := #[.pointer (some ⟨W0.heap.size + 1 + 1, 0, none⟩)]) rfl rfl enter87 (cells1_runs (W0.heap.size + 2) 0 0 W H W1 hb1 (by omega) hW (by omega) hH)
    (by rintro k rfl; omega) (fun k => k < W0.heap.size ∧ ¬ (k = pb ∨ k = mb)) (by rintro k ⟨hk, _⟩; exact ⟨by omega, by omega⟩)
    (fun pre Wr => J (pre.flatMap (edgesAt g)) Wr ∧ Mod (fun k => k < W0.heap.size ∧ ¬ (k = pb ∨ k = mb)) W1 Wr)
    (fun c pre Wr => (c = .ret ∧ ∃ q, q <+: edgesL g W H ∧ Jx q Wr) ∧ Mod (fun k => k < W0.heap.size ∧ ¬ (k = pb ∨ k = mb)) W1 Wr)
    (fun s A B h hg => ⟨hJ _ _ _ h.1 (hg.wider (fun i _ hi => by omega)), h.2.then hg (fun i h1 h2 => by omega)⟩)
    (fun c s A B h hg => by
      obtain ⟨⟨h1, q, h2, h3⟩, h4⟩ := h
      exact ⟨⟨h1, q, h2, hJx _ _ _ h3 (hg.wider (fun i _ hi => by omega))⟩, h4.then hg (fun i h1 h2 => by omega)⟩)
    ⟨hJ _ _ _ h0 (hM1.wider (fun i _ h => h.elim)), Mod.refl _ _⟩
    (some (106, fun p => #[.int .i64 p.1, .int .i64 p.2]))
    (fun Bx x => { tmps := #[.func (.yield l) #[] #[], .pointer (some ⟨pb, 0, none⟩), .pointer (some ⟨W0.heap.size, 0, none⟩), .pointer (some ⟨Bx, 0, none⟩), undef, undef,
      .agg #[.int .i64 W, .int .i64 H, .int .i64 N, .map (some mb)], .func (.func 87) #[] #[.pointer (some ⟨W0.heap.size + 1 + 1, 0, none⟩)], cellV x, undef, undef, undef, undef, undef, undef, undef, undef, undef, undef, undef, undef, undef, undef, undef, undef, undef, undef, undef, undef, undef, undef, undef, undef, undef, undef], defers := [] })
    ?assign ?body ?done ?stop
  case assign =>
    intro l x W K hK
    gi_wp2
    exact hK
  case body =>
    rintro l2 pre x rest a' Wr hL hl2 hr2 hzr ⟨hj, hmr⟩ ⟨Bx, hBx, hbx, rfl⟩
    have hmem := cellsL_mem (W := W) (H := H) (p := x) (by rw [hL]; simp)
    have k0 : Wr.cell? ⟨Bx, 0, none⟩ = some (.int .i64 x.1) := by simp [World.cell?, hbx]
    have k1 : Wr.cell? ⟨Bx, 1, none⟩ = some (.int .i64 x.2) := by simp [World.cell?, hbx]
    gi_wp2_with (refine ⟨trivial, ?_⟩; gi_at_call 72; refine (CallsIn.inRound l2 (callsIn_wide.2 (beside_any x _))).mono ?_; rintro e w' ⟨rfl, rfl⟩)
    obtain ⟨W2, hW2⟩ : ∃ W2, Wr.alloc (.cells #[.int .i64 x.1, .int .i64 x.2] 106) = W2 := ⟨_, rfl⟩
    have hM2 : Mod noB Wr W2 := by rw [← hW2]; exact (Mod.refl _ _).alloc _
    have hz2 : W2.heap.size = Wr.heap.size + 1 := by rw [← hW2]; simp
    have hb2 : W2.heap[Wr.heap.size]? = some (.cells #[.int .i64 x.1, .int .i64 x.2] 106) := by rw [← hW2]; exact World.alloc_heap_new Wr _
    rw [hW2]
    clear hW2 k0 k1
    obtain ⟨r2, hr2⟩ := hr2
    have hbxl := (Array.getElem?_eq_some_iff.1 hbx).1
    refine range_inner ⟨r2, hM2.at hr2 id⟩ (gf := 83) (lb := #[.pointer (some ⟨Wr.heap.size, 0, none⟩)]) rfl rfl enter83 (beside1_runs Wr.heap.size x W2 hb2 (by omega) (by omega) (by omega) (by omega))
      (by rintro k rfl; omega) (fun k => k < W0.heap.size ∧ ¬ (k = pb ∨ k = mb)) (by rintro k ⟨hk, _⟩; exact ⟨by omega, by omega⟩)
      (fun pre' W' => J (pre.flatMap (edgesAt g) ++ ((pre'.filter fun d => !otherB x d).map (apartB g x))) W' ∧ Mod (fun k => k < W0.heap.size ∧ ¬ (k = pb ∨ k = mb)) Wr W')
      (fun c pre' W' => (c = .ret ∧ ∃ q, q <+: edgesL g W H ∧ Jx q W') ∧ Mod (fun k => k < W0.heap.size ∧ ¬ (k = pb ∨ k = mb)) Wr W')
      (fun s A B h hg => ⟨hJ _ _ _ h.1 (hg.wider (fun i _ hi => by omega)), h.2.then hg (fun i h1 h2 => by omega)⟩)
      (fun c s A B h hg => by
        obtain ⟨⟨h1, q, h2, h3⟩, h4⟩ := h
        exact ⟨⟨h1, q, h2, hJx _ _ _ h3 (hg.wider (fun i _ hi => by omega))⟩, h4.then hg (fun i h1 h2 => by omega)⟩)
      ⟨by simpa using hJ _ _ _ hj (hM2.wider (fun i _ h => h.elim)), hM2.wider (fun i _ h => h.elim)⟩
      (some (106, fun p => #[.int .i64 p.1, .int .i64 p.2]))
      (fun By y => { tmps := #[.func (.yield l) #[] #[], .pointer (some ⟨pb, 0, none⟩), .pointer (some ⟨W0.heap.size, 0, none⟩), .pointer (some ⟨Bx, 0, none⟩), .pointer (some ⟨By, 0, none⟩), undef,
        .agg #[.int .i64 W, .int .i64 H, .int .i64 N, .map (some mb)], .func (.func 87) #[] #[.pointer (some ⟨W0.heap.size + 1 + 1, 0, none⟩)], cellV x, .agg #[.int .i64 x.1, .int .i64 x.2], .func (.func 83) #[] #[.pointer (some ⟨Wr.heap.size, 0, none⟩)], cellV y,
        undef, undef, undef, undef, undef, undef, undef, undef, undef, undef, undef, undef, undef, undef, undef, undef, undef, undef, undef, undef, undef, undef, undef], defers := [] })
      ?assign2 ?body2 ?done2 ?stop2
    case assign2 =>
      intro l x W K hK
      gi_wp2
      exact hK
    case body2 =>
      rintro l3 pre' d rest' a'' W' hL' hl3 hr3 hz3 ⟨hj', hm'⟩ ⟨By, hBy, hby, rfl⟩
      have hp3 := hm'.at (hmr.at hp1 (fun h => h.2 (.inl rfl))) (fun h => h.2 (.inl rfl))
      have hm3 := (hm1.same (hmr.block mb hm1.lt (fun h => h.2 (.inr rfl)))).same (hm'.block mb (by have := hm1.lt; omega) (fun h => h.2 (.inr rfl)))
      have hy3 := hm'.at (hmr.at hy1 (fun h => absurd h.1 (Nat.lt_irrefl _))) (fun h => absurd h.1 (Nat.lt_irrefl _))
      have hx3 := hm'.at hbx (fun h => by omega)
      have hdm : d ∈ besideL x := by rw [hL']; simp
      have hd : -1 ≤ d.1 ∧ d.1 ≤ 12 ∧ -1 ≤ d.2 ∧ d.2 ≤ 12 := by
        simp only [besideL, List.mem_cons, List.not_mem_nil, or_false] at hdm
        rcases hdm with rfl | rfl | rfl | rfl <;> simp only <;> omega
      have FIN : Hold (∀ W'', Mod noB W' W'' → W''.cell? ⟨pb, 0, none⟩ = some (.int .i64 W) ∧ W''.cell? ⟨pb, 1, none⟩ = some (.int .i64 H) ∧ W''.cell? ⟨pb, 2, none⟩ = some (.int .i64 N) ∧ W''.cell? ⟨pb, 3, none⟩ = some (.map (some mb)) ∧
          W''.cell? ⟨W0.heap.size, 0, none⟩ = some (.func (.yield l) #[] #[]) ∧ W''.cell? ⟨Bx, 0, none⟩ = some (.int .i64 x.1) ∧ W''.cell? ⟨Bx, 1, none⟩ = some (.int .i64 x.2) ∧ W''.cell? ⟨By, 0, none⟩ = some (.int .i64 d.1) ∧ W''.cell? ⟨By, 1, none⟩ = some (.int .i64 d.2) ∧ MapIs Try.prog 106 cellV W'' mb g) := ⟨fun W'' h => by
        have e1 := h.at hp3 id
        have e2 := h.at hy3 id
        have e3 := h.at hx3 id
        have e4 := h.at hby id
        refine ⟨?_, ?_, ?_, ?_, ?_, ?_, ?_, ?_, ?_, hm3.same (h.block mb hm3.lt id)⟩ <;> simp [World.cell?, e1, e2, e3, e4]⟩
      have HL : Hold (otherB x d = false → edgesL g W H = (pre.flatMap (edgesAt g) ++ ((pre'.filter fun d => !otherB x d).map (apartB g x))) ++ apartB g x d :: (((rest'.filter fun d => !otherB x d).map (apartB g x)) ++ rest.flatMap (edgesAt g))) :=
        ⟨fun hdn => by simp [edgesL, hL, edgesAt, hL', hdn]⟩
      have HN0 : Hold (otherB x d = true → ((pre' ++ [d]).filter fun d => !otherB x d).map (apartB g x) = (pre'.filter fun d => !otherB x d).map (apartB g x)) := ⟨fun h => by simp [h]⟩
      have HN1 : Hold (otherB x d = false → ((pre' ++ [d]).filter fun d => !otherB x d).map (apartB g x) = (pre'.filter fun d => !otherB x d).map (apartB g x) ++ [apartB g x d]) := ⟨fun h => by simp [h]⟩
      have HY := Hold.mk hY
      have HJ' := Hold.mk (And.intro hj' (And.intro hm' hmr))
      have hzz : W0.heap.size ≤ W'.heap.size := by omega
      obtain ⟨f0, f1, f2, f3, f4, f5, f6, f7, f8, _⟩ := FIN.out W' (Mod.refl _ _)
      have HX : Hold (Mod noB W' W'.drew) := ⟨(Mod.refl _ _).drew⟩
      clear hL hL' hY hj' hdm hm3 hx3 hy3 hp3 hp1 hy1 hb1 hb2 hby hm' hmr hj hbx
      by_cases h1 : d.1 < x.1
      · have ho : Hold (otherB x d = true) := ⟨by unfold otherB; simp [h1]⟩
        gi_wp2
        refine region_quietC (fun _ => trivial) rfl round_call mixed (by kernel_rfl) (by kernel_rfl) (fun W'' => Mod noB W' W'') ((Mod.refl _ _).drew) ?_
        repeat
          (first
            | go_big_quiet_skip
            | (go_big_quiet_want
               go_simp
               first
                 | go_big_quiet_on
                 | (apply Exists.intro
                    refine ⟨fun W'' hC => ?_, ?_⟩
                    · obtain ⟨q0, q1, q2, q3, q4, q5, q6, q7, q8, q9⟩ := FIN.out W'' hC
                      first
                        | (go_at_call 77; refine (apart_any W H N mb x.1 x.2 d.1 d.2 _ g q9 (wf64_of (by omega) (by omega)) (wf64_of (by omega) (by omega)) (wf64_of (by omega) (by omega)) (wf64_of (by omega) (by omega))).mono fun e w'' he => ⟨he.1, hC.trans he.2⟩)
                        | with_reducible rfl
                        | (clear q9; go_simp; first | rfl | exact ⟨rfl, rfl⟩)
                    go_big_quiet_on)
                 | (refine ⟨⟨_, fun _ _ => rfl⟩, ?_⟩; go_big_quiet_on)))
        refine wpQuiet_nil ?_
        intro Wq hq
        gi_wp2
        obtain ⟨hj', hm', hmr⟩ := HJ'.out
        exact ⟨hq.wider (fun i _ h => h.elim), by rw [HN0.out ho.out]; exact hJ _ _ _ hj' (hq.wider (fun i _ h => h.elim)), hm'.then hq (fun i _ h => h.elim)⟩
      · by_cases h2 : d.2 < x.2
        · have ho : Hold (otherB x d = true) := ⟨by unfold otherB; simp [h2]⟩
          gi_wp2
          refine region_quietC (fun _ => trivial) rfl round_call mixed (by kernel_rfl) (by kernel_rfl) (fun W'' => Mod noB W' W'') ((Mod.refl _ _).drew) ?_
          repeat
            (first
              | go_big_quiet_skip
              | (go_big_quiet_want
                 go_simp
                 first
                   | go_big_quiet_on
                   | (apply Exists.intro
                      refine ⟨fun W'' hC => ?_, ?_⟩
                      · obtain ⟨q0, q1, q2, q3, q4, q5, q6, q7, q8, q9⟩ := FIN.out W'' hC
                        first
                          | (go_at_call 77; refine (apart_any W H N mb x.1 x.2 d.1 d.2 _ g q9 (wf64_of (by omega) (by omega)) (wf64_of (by omega) (by omega)) (wf64_of (by omega) (by omega)) (wf64_of (by omega) (by omega))).mono fun e w'' he => ⟨he.1, hC.trans he.2⟩)
                          | with_reducible rfl
                          | (clear q9; go_simp; first | rfl | exact ⟨rfl, rfl⟩)
                      go_big_quiet_on)
                   | (refine ⟨⟨_, fun _ _ => rfl⟩, ?_⟩; go_big_quiet_on)))
          refine wpQuiet_nil ?_
          intro Wq hq
          gi_wp2
          obtain ⟨hj', hm', hmr⟩ := HJ'.out
          exact ⟨hq.wider (fun i _ h => h.elim), by rw [HN0.out ho.out]; exact hJ _ _ _ hj' (hq.wider (fun i _ h => h.elim)), hm'.then hq (fun i _ h => h.elim)⟩
        · have ho : Hold (otherB x d = false) := ⟨by unfold otherB; simp [h1, h2]⟩
          gi_wp2
          refine region_tail (fun _ => trivial) rfl round_call mixed 8 ⟨by decide, by kernel_rfl, by kernel_rfl, by kernel_rfl, by kernel_rfl, by kernel_rfl⟩ (by kernel_rfl) (fun W'' => Mod noB W' W'') ((Mod.refl _ _).drew) ?_
          simp only [strikeL, List.take_succ_cons, List.take_zero, List.drop_succ_cons, List.drop_zero, List.map_cons, List.map_nil, List.cons_append, List.nil_append, bareO]
          repeat
            (first
              | go_big_quiet_skip
              | (go_big_quiet_want
                 go_simp
                 first
                   | go_big_quiet_on
                   | (apply Exists.intro
                      refine ⟨fun W'' hC => ?_, ?_⟩
                      · obtain ⟨q0, q1, q2, q3, q4, q5, q6, q7, q8, q9⟩ := FIN.out W'' hC
                        first
                          | (go_at_call 77; refine (apart_any W H N mb x.1 x.2 d.1 d.2 _ g q9 (wf64_of (by omega) (by omega)) (wf64_of (by omega) (by omega)) (wf64_of (by omega) (by omega)) (wf64_of (by omega) (by omega))).mono fun e w'' he => ⟨he.1, hC.trans he.2⟩)
                          | with_reducible rfl
                          | (clear q9; go_simp; first | rfl | exact ⟨rfl, rfl⟩)
                      go_big_quiet_on)
                   | (refine ⟨⟨_, fun _ _ => rfl⟩, ?_⟩; go_big_quiet_on)))
          refine wpQuiet_nil ?_
          intro Wq hq
          obtain ⟨hj', hm', hmr⟩ := HJ'.out
          obtain ⟨fn, tm, asg, bdy, hy, hR⟩ := HY.out _ _ _ Wq (HL.out ho.out) (hJ _ _ _ hj' (hq.wider (fun i _ h => h.elim))) (Nat.le_trans hzz hq.size)
          have HJ2 := Hold.mk (And.intro hm' hmr)
          clear hj' hm' hmr
          gi_wp2
          refine (roundIn_inRound hR).mono ?_
          rintro e W3 (⟨rfl, hJ3, hM3⟩ | ⟨rfl, hJ3, hM3⟩)
          · gi_wp2
            exact ⟨(hq.wider (fun i _ h => h.elim)).trans hM3, by rw [HN1.out ho.out, ← List.append_assoc]; exact hJ3, (HJ2.out.1.then hq (fun i _ h => h.elim)).trans hM3⟩
          · gi_wp2
            exact ⟨(hq.wider (fun i _ h => h.elim)).trans hM3, ⟨rfl, _, ⟨_, by rw [HL.out ho.out, List.append_assoc _ [_], List.singleton_append]⟩, hJ3⟩, (HJ2.out.1.then hq (fun i _ h => h.elim)).trans hM3⟩
    case done2 =>
      rintro W' hz' ⟨hj', hm'⟩
      gi_wp2
      exact ⟨hm', by rw [List.flatMap_append]; simpa [edgesAt] using hj', hmr.trans hm'⟩
    case stop2 =>
      rintro c pre' W' hz' hpre ⟨⟨rfl, hq'⟩, hm'⟩
      gi_wp2
      exact ⟨hm', ⟨rfl, hq'⟩, hmr.trans hm'⟩
  case done =>
    rintro D W' hD hz ⟨hj, hm⟩ hK
    gi_wp2
    refine ⟨by simp, .inl ⟨_, _, rfl, run_takeDeferred hK, ?_⟩⟩
    exact ⟨_, results_none rfl _ _ _, ⟨_, rfl⟩, by simp; omega, .inl (hJ _ _ _ hj ((Mod.refl _ _).putObj (fun _ => by omega) _))⟩
  case stop =>
    rintro D c pre W' hD hz hpre ⟨⟨rfl, q, hq, hj⟩, hm⟩ hK
    gi_wp2
    refine ⟨by simp, .inl ⟨_, _, rfl, run_takeDeferred hK, ?_⟩⟩
    exact ⟨_, results_none rfl _ _ _, ⟨_, rfl⟩, by simp; omega, .inr ⟨q, hq, hJx _ _ _ hj ((Mod.refl _ _).putObj (fun _ => by omega) _)⟩⟩
end Go.Proofs.Ytogalmkeipigeaa

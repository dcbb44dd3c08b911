/- The iterator over what is on the other side of each edge of a piece. -/
import Derived.Test.YtogalmkeipigeaaCells
import Derived.Test.YtogalmkeipigeaaBeside
import Derived.BigQuiet
set_option linter.unusedSimpArgs false
set_option linter.unusedVariables false
namespace Go.Proofs.Ytogalmkeipigeaa
open Go.RowKit Go.Shelf
attribute [local go_sem] Oper.semAt_some

theorem enter69 : ∀ args w, (callFunc 69 args).run Try.prog w = .ok (.enter 69 args) w := enters_of Try.func69 (by kernel_rfl) rfl
theorem enter83 : ∀ args w, (callFunc 83 args).run Try.prog w = .ok (.enter 83 args) w := enters_of Try.func83 (by kernel_rfl) rfl
theorem enter87 : ∀ args w, (callFunc 87 args).run Try.prog w = .ok (.enter 87 args) w := enters_of Try.func87 (by kernel_rfl) rfl

/-- What is on the other side of the edges of one cell, if it is a cell of piece n. -/
def facedAt (g : Int × Int → Option Int) (n : Int) (p : Int × Int) : List Int := if atG g p = n then ((besideL p).map (atG g)).filter (fun m => decide (m ≠ n)) else []
def facedL (g : Int × Int → Option Int) (W H : Nat) (n : Int) : List Int := (cellsL 0 0 W H).flatMap (facedAt g n)

theorem cellsL_mem {W H : Nat} {p : Int × Int} (h : p ∈ cellsL 0 0 W H) : 0 ≤ p.1 ∧ p.1 < W ∧ 0 ≤ p.2 ∧ p.2 < H := by
  simp only [cellsL, List.mem_map, List.mem_range, Nat.sub_zero, Nat.zero_add] at h
  obtain ⟨m, hm, rfl⟩ := h
  have hW : 0 < W := by
    rcases Nat.eq_zero_or_pos W with e | e
    · subst e; simp at hm
    · exact e
  have h1 : m % W < W := Nat.mod_lt _ hW
  have h2 : m / W < H := Nat.div_lt_of_lt_mul (by rw [Nat.mul_comm]; simpa using hm)
  have h3 : 0 ≤ ((m % W : Nat) : Int) := Int.natCast_nonneg _
  have h4 : 0 ≤ ((m / W : Nat) : Int) := Int.natCast_nonneg _
  exact ⟨h3, Int.ofNat_lt.2 h1, h4, Int.ofNat_lt.2 h2⟩

set_option maxRecDepth 100000 in
set_option maxHeartbeats 4000000 in
theorem faced1_runs (pb nb mb W H : Nat) (N n : Int) (g : Int × Int → Option Int) (w : World) (hpb : w.heap[pb]? = some (.cells #[.int .i64 W, .int .i64 H, .int .i64 N, .map (some mb)] 71))
    (hnb : w.heap[nb]? = some (.cells #[.int .i64 n] 3)) (hm : MapIs Try.prog 106 cellV w mb g) (hW : W ≤ 12) (hH : H ≤ 12) :
    Runs Try.prog 69 #[.pointer (some ⟨pb, 0, none⟩), .pointer (some ⟨nb, 0, none⟩)] intV (fun k => k = pb ∨ k = nb ∨ k = mb) (facedL g W H n) w := by
  intro n' l J Jx W0 hs hKW hJ hJx hY h0
  have hpb0 : W0.heap[pb]? = some (.cells #[.int .i64 W, .int .i64 H, .int .i64 N, .map (some mb)] 71) := (hKW pb (.inl rfl)).trans hpb
  have hnb0 : W0.heap[nb]? = some (.cells #[.int .i64 n] 3) := (hKW nb (.inr (.inl rfl))).trans hnb
  have hm0 : MapIs Try.prog 106 cellV W0 mb g := hm.same (hKW mb (.inr (.inr rfl)))
  have hSlt : ∀ k, (k = pb ∨ k = nb ∨ k = mb) → k < W0.heap.size := by
    rintro k (rfl | rfl | rfl)
    · exact (Array.getElem?_eq_some_iff.1 hpb0).1
    · exact (Array.getElem?_eq_some_iff.1 hnb0).1
    · exact hm0.lt
  clear hpb hnb hm hKW
  have c0 : W0.cell? ⟨pb, 0, none⟩ = some (.int .i64 W) := by simp [World.cell?, hpb0]
  have c1 : W0.cell? ⟨pb, 1, none⟩ = some (.int .i64 H) := by simp [World.cell?, hpb0]
  have c2 : W0.cell? ⟨pb, 2, none⟩ = some (.int .i64 N) := by simp [World.cell?, hpb0]
  have c3 : W0.cell? ⟨pb, 3, none⟩ = some (.map (some mb)) := by simp [World.cell?, hpb0]
  refine callsIn_of_wp_marks Try.func69 rfl trivial ?_ rfl
  simp only [Try.ntmps69, List.size_toArray, List.length_cons, List.length_nil, Nat.reduceAdd, Nat.reduceSub, Array.replicate_succ, Array.replicate_zero, List.push_toArray, List.append_toArray, List.nil_append, List.cons_append]
  gi_wp2_with (refine ⟨trivial, ?_⟩; gi_at_call 70; refine (callsIn_wide.2 (picCells_any _ _ _ _ _)).mono ?_; rintro e w' ⟨rfl, rfl⟩)
  obtain ⟨W1, hW1⟩ : ∃ W1, ((W0.alloc (.cells #[.func (.yield l) #[] #[]] 77)).alloc (.cells #[.int .i64 W, .int .i64 H, .int .i64 N, .map (some mb)] 71)).alloc (.cells #[.int .i64 0, .int .i64 0, .int .i64 W, .int .i64 H] 97) = W1 := ⟨_, rfl⟩
  have hM1 : Mod noB W0 W1 := by rw [← hW1]; exact (((Mod.refl _ _).alloc _).alloc _).alloc _
  have hz1 : W1.heap.size = W0.heap.size + 3 := by rw [← hW1]; simp
  have hy1 : W1.heap[W0.heap.size]? = some (.cells #[.func (.yield l) #[] #[]] 77) := by
    rw [← hW1, Below.heap_alloc _ _ _ (by simp; omega), Below.heap_alloc _ _ _ (by simp)]; exact World.alloc_heap_new W0 _
  have hb1 : W1.heap[W0.heap.size + 2]? = some (.cells #[.int .i64 ((0 : Nat) : Int), .int .i64 ((0 : Nat) : Int), .int .i64 W, .int .i64 H] 97) := by
    rw [← hW1]; have := World.alloc_heap_new ((W0.alloc (.cells #[.func (.yield l) #[] #[]] 77)).alloc (.cells #[.int .i64 W, .int .i64 H, .int .i64 N, .map (some mb)] 71)) (.cells #[.int .i64 0, .int .i64 0, .int .i64 W, .int .i64 H] 97); simpa using this
  have hp1 := hM1.at hpb0 id
  have hn1 := hM1.at hnb0 id
  have hm1 := hm0.same (hM1.block mb hm0.lt id)
  rw [hW1]
  clear hW1 c0 c1 c2 c3
  refine range_plain (gf := 87) (lb := #[.pointer (some ⟨W0.heap.size + 1 + 1, 0, none⟩)]) rfl rfl enter87 (cells1_runs (W0.heap.size + 2) 0 0 W H W1 hb1 (by omega) hW (by omega) hH)
    (by rintro k rfl; omega) (fun k => k < W0.heap.size ∧ ¬ (k = pb ∨ k = nb ∨ k = mb)) (by rintro k ⟨hk, _⟩; exact ⟨by omega, by omega⟩)
    (fun pre Wr => J (pre.flatMap (facedAt g n)) Wr ∧ Mod (fun k => k < W0.heap.size ∧ ¬ (k = pb ∨ k = nb ∨ k = mb)) W1 Wr)
    (fun c pre Wr => (c = .ret ∧ ∃ q, q <+: facedL g W H n ∧ Jx q Wr) ∧ Mod (fun k => k < W0.heap.size ∧ ¬ (k = pb ∨ k = nb ∨ k = mb)) W1 Wr)
    (fun s A B h hg => ⟨hJ _ _ _ h.1 (hg.wider (fun i _ hi => by omega)), h.2.then hg (fun i h1 h2 => by omega)⟩)
    (fun c s A B h hg => by
      obtain ⟨⟨h1, q, h2, h3⟩, h4⟩ := h
      exact ⟨⟨h1, q, h2, hJx _ _ _ h3 (hg.wider (fun i _ hi => by omega))⟩, h4.then hg (fun i h1 h2 => by omega)⟩)
    ⟨hJ _ _ _ h0 (hM1.wider (fun i _ h => h.elim)), Mod.refl _ _⟩
    (some (106, fun p => #[.int .i64 p.1, .int .i64 p.2]))
    (fun Bx x => { tmps := #[.func (.yield l) #[] #[], .pointer (some ⟨pb, 0, none⟩), .pointer (some ⟨nb, 0, none⟩), .pointer (some ⟨W0.heap.size, 0, none⟩), .pointer (some ⟨Bx, 0, none⟩), undef, undef,
      .agg #[.int .i64 W, .int .i64 H, .int .i64 N, .map (some mb)], .func (.func 87) #[] #[.pointer (some ⟨W0.heap.size + 1 + 1, 0, none⟩)], cellV x, undef, undef, undef, undef, undef, undef, undef, undef, undef, undef, undef, undef, undef, undef, undef, undef, undef, undef, undef, undef], defers := [] })
    ?assign ?body ?done ?stop
  case assign =>
    intro l x W K hK
    gi_wp2
    exact hK
  case body =>
    rintro l2 pre x rest a' Wr hL hl2 hr2 hzr ⟨hj, hmr⟩ ⟨Bx, hBx, hbx, rfl⟩
    have hp2 := hmr.at hp1 (fun h => h.2 (.inl rfl))
    have hn2 := hmr.at hn1 (fun h => h.2 (.inr (.inl rfl)))
    have hm2 := hm1.same (hmr.block mb hm1.lt (fun h => h.2 (.inr (.inr rfl))))
    have hmem := cellsL_mem (W := W) (H := H) (p := x) (by rw [hL]; simp)
    have fin : ∀ W', Mod noB Wr W' → W'.cell? ⟨pb, 0, none⟩ = some (.int .i64 W) ∧ W'.cell? ⟨pb, 1, none⟩ = some (.int .i64 H) ∧ W'.cell? ⟨pb, 2, none⟩ = some (.int .i64 N) ∧ W'.cell? ⟨pb, 3, none⟩ = some (.map (some mb)) ∧
        W'.cell? ⟨nb, 0, none⟩ = some (.int .i64 n) ∧ W'.cell? ⟨Bx, 0, none⟩ = some (.int .i64 x.1) ∧ W'.cell? ⟨Bx, 1, none⟩ = some (.int .i64 x.2) ∧ MapIs Try.prog 106 cellV W' mb g := fun W' h => by
      have e1 := h.at hp2 id
      have e2 := h.at hn2 id
      have e3 := h.at hbx id
      refine ⟨?_, ?_, ?_, ?_, ?_, ?_, ?_, hm2.same (h.block mb hm2.lt id)⟩ <;> simp [World.cell?, e1, e2, e3]
    have FIN := Hold.mk fin
    clear fin hm2 hp2 hn2
    have hsplit : atG g x = n ∨ (atG g x ≠ n) := Classical.em _
    gi_wp2
    refine region_quietC (fun _ => trivial) rfl round_call mixed (by kernel_rfl) (by kernel_rfl) (fun W' => Mod noB Wr W') ((Mod.refl _ _).drew) ?_
    repeat
      (refine wpQuiet_step (fun K hK => ?_)
       go_simp
       first
         | (refine hK _ ?_; clear hK K)
         | (apply Exists.intro
            refine ⟨fun W' hC => ?_, hK _ ?_⟩
            · obtain ⟨f0, f1, f2, f3, f4, f5, f6, f7⟩ := FIN.out W' hC
              first
                | (go_at_call 71; refine (at_any _ _ _ _ x _ g f7 (wf64_of (by omega) (by omega)) (wf64_of (by omega) (by omega))).mono fun e w'' he => ⟨he.1, hC.trans (Mod.of_below he.2 rfl)⟩)
                | (clear f7; go_simp; first | rfl | exact ⟨rfl, rfl⟩)
            clear hK K))
    refine wpQuiet_nil ?_
    intro Wq hq
    have HJ := Hold.mk (hJ _ _ _ hj (hq.wider (fun i _ h => h.elim)))
    have hmq := hmr.then hq (fun i _ h => h.elim)
    obtain ⟨q0, q1, q2, q3, q4, q5, q6, _⟩ := FIN.out Wq hq
    rcases hsplit with hx | hx
    · have hx' : (atG g x != n) = false := by simp [hx]
      have Hx := Hold.mk hx
      clear hx hj
      gi_wp2_with (refine ⟨trivial, ?_⟩; gi_at_call 72; refine (CallsIn.inRound l2 (callsIn_wide.2 (beside_any x _))).mono ?_; rintro e w' ⟨rfl, rfl⟩)
      obtain ⟨W2, hW2⟩ : ∃ W2, Wq.alloc (.cells #[.int .i64 x.1, .int .i64 x.2] 106) = W2 := ⟨_, rfl⟩
      have hM2 : Mod noB Wq W2 := by rw [← hW2]; exact (Mod.refl _ _).alloc _
      have hz2 : W2.heap.size = Wq.heap.size + 1 := by rw [← hW2]; simp
      have hb2 : W2.heap[Wq.heap.size]? = some (.cells #[.int .i64 x.1, .int .i64 x.2] 106) := by rw [← hW2]; exact World.alloc_heap_new Wq _
      rw [hW2]
      clear hW2
      have hq2 := hq.trans hM2
      have hzq := hq2.size
      obtain ⟨r2, hr2⟩ := hr2
      refine range_inner ⟨r2, hq2.at hr2 id⟩ (gf := 83) (lb := #[.pointer (some ⟨Wq.heap.size, 0, none⟩)]) rfl rfl enter83 (beside1_runs Wq.heap.size x W2 hb2 (by omega) (by omega) (by omega) (by omega))
        (by rintro k rfl; omega) (fun k => k < W0.heap.size ∧ ¬ (k = pb ∨ k = nb ∨ k = mb)) (by rintro k ⟨hk, _⟩; exact ⟨by omega, by have := hq.size; omega⟩)
        (fun pre' W' => J (pre.flatMap (facedAt g n) ++ (pre'.map (atG g)).filter (fun m => decide (m ≠ n))) W' ∧ Mod (fun k => k < W0.heap.size ∧ ¬ (k = pb ∨ k = nb ∨ k = mb)) Wr W')
        (fun c pre' W' => (c = .ret ∧ ∃ q, q <+: facedL g W H n ∧ Jx q W') ∧ Mod (fun k => k < W0.heap.size ∧ ¬ (k = pb ∨ k = nb ∨ k = mb)) Wr W')
        (fun s A B h hg => ⟨hJ _ _ _ h.1 (hg.wider (fun i _ hi => by omega)), h.2.then hg (fun i h1 h2 => by omega)⟩)
        (fun c s A B h hg => by
          obtain ⟨⟨h1, q, h2, h3⟩, h4⟩ := h
          exact ⟨⟨h1, q, h2, hJx _ _ _ h3 (hg.wider (fun i _ hi => by omega))⟩, h4.then hg (fun i h1 h2 => by omega)⟩)
        ⟨by simpa using hJ _ _ _ HJ.out (hM2.wider (fun i _ h => h.elim)), hq2.wider (fun i _ h => h.elim)⟩
        (some (106, fun p => #[.int .i64 p.1, .int .i64 p.2]))
        (fun By y => { tmps := #[.func (.yield l) #[] #[], .pointer (some ⟨pb, 0, none⟩), .pointer (some ⟨nb, 0, none⟩), .pointer (some ⟨W0.heap.size, 0, none⟩), .pointer (some ⟨Bx, 0, none⟩), .pointer (some ⟨By, 0, none⟩), undef,
          .agg #[.int .i64 W, .int .i64 H, .int .i64 N, .map (some mb)], .func (.func 87) #[] #[.pointer (some ⟨W0.heap.size + 1 + 1, 0, none⟩)], cellV x,
          .agg #[.int .i64 W, .int .i64 H, .int .i64 N, .map (some mb)], .agg #[.int .i64 x.1, .int .i64 x.2], .int .i64 (atG g x), .int .i64 n, .bool false, .agg #[.int .i64 x.1, .int .i64 x.2], .func (.func 83) #[] #[.pointer (some ⟨Wq.heap.size, 0, none⟩)], cellV y,
          undef, undef, undef, undef, undef, undef, undef, undef, undef, undef, undef, undef], defers := [] })
        ?assign2 ?body2 ?done2 ?stop2
      case assign2 =>
        intro l x W K hK
        gi_wp2
        exact hK
      case body2 =>
        rintro l3 pre' d rest' a'' W' hL' hl3 hr3 hz3 ⟨hj', hm'⟩ ⟨By, hBy, hby, rfl⟩
        have hp3 := hm'.at (hmr.at hp1 (fun h => h.2 (.inl rfl))) (fun h => h.2 (.inl rfl))
        have hn3 := hm'.at (hmr.at hn1 (fun h => h.2 (.inr (.inl rfl)))) (fun h => h.2 (.inr (.inl rfl)))
        have hm3 := (hm1.same (hmr.block mb hm1.lt (fun h => h.2 (.inr (.inr rfl))))).same (hm'.block mb (by have := hm1.lt; omega) (fun h => h.2 (.inr (.inr rfl))))
        have hy3 := hm'.at (hmr.at hy1 (fun h => absurd h.1 (Nat.lt_irrefl _))) (fun h => absurd h.1 (Nat.lt_irrefl _))
        have hdm : d ∈ besideL x := by rw [hL']; simp
        have hd : -1 ≤ d.1 ∧ d.1 ≤ 12 ∧ -1 ≤ d.2 ∧ d.2 ≤ 12 := by
          simp only [besideL, List.mem_cons, List.not_mem_nil, or_false] at hdm
          rcases hdm with rfl | rfl | rfl | rfl <;> simp only <;> omega
        have k0 : W'.cell? ⟨pb, 0, none⟩ = some (.int .i64 W) := by simp [World.cell?, hp3]
        have k1 : W'.cell? ⟨pb, 1, none⟩ = some (.int .i64 H) := by simp [World.cell?, hp3]
        have k2 : W'.cell? ⟨pb, 2, none⟩ = some (.int .i64 N) := by simp [World.cell?, hp3]
        have k3 : W'.cell? ⟨pb, 3, none⟩ = some (.map (some mb)) := by simp [World.cell?, hp3]
        have k5 : W'.cell? ⟨By, 0, none⟩ = some (.int .i64 d.1) := by simp [World.cell?, hby]
        have k6 : W'.cell? ⟨By, 1, none⟩ = some (.int .i64 d.2) := by simp [World.cell?, hby]
        have HA : Hold (Calls Try.prog 71 #[picV W H N mb, cellV d] W' fun e w' => e = .returned (.int .i64 (atG g d)) ∧ Mod noB W' w' ∧ w'.cell? ⟨nb, 0, none⟩ = some (.int .i64 n) ∧ w'.cell? ⟨W0.heap.size, 0, none⟩ = some (.func (.yield l) #[] #[])) :=
          ⟨(at_any W H N mb d W' g hm3 (wf64_of (by omega) (by omega)) (wf64_of (by omega) (by omega))).mono fun e w' ⟨he, hb⟩ => by
            have hM := Mod.of_below hb rfl
            have e1 := hM.at hn3 id
            have e2 := hM.at hy3 id
            refine ⟨he, hM, ?_, ?_⟩ <;> simp [World.cell?, e1, e2]⟩
        have HL : Hold (∀ (_ : atG g d ≠ n), facedL g W H n = (pre.flatMap (facedAt g n) ++ (pre'.map (atG g)).filter (fun m => decide (m ≠ n))) ++ atG g d :: ((rest'.map (atG g)).filter (fun m => decide (m ≠ n)) ++ rest.flatMap (facedAt g n))) :=
          ⟨fun hdn => by simp [facedL, hL, facedAt, Hx.out, hL', hdn]⟩
        have HN : Hold ((pre' ++ [d]).map (atG g) = pre'.map (atG g) ++ [atG g d]) := ⟨by simp⟩
        have HY := Hold.mk hY
        have HJ' := Hold.mk hj'
        have HMW := Hold.mk hm3
        have hzz : W0.heap.size ≤ W'.heap.size := by omega
        clear hL hL' hY hj' hdm hm3 FIN hx' hn3 hy3 hp3 hp1 hn1 hy1 hb1 hb2
        rcases Classical.em (atG g d = n) with hdn | hdn
        · have hdb : (atG g d != n) = false := by simp [hdn]
          have HD := Hold.mk hdn
          clear hdn
          gi_wp2_with (refine ⟨trivial, ?_⟩; gi_at_call 71; refine (CallsIn.inRound l3 (callsIn_wide.2 HA.out)).mono ?_; rintro e w' ⟨rfl, hMw, f1, f2⟩)
          refine ⟨fun _ h => (by cases h), ?_⟩
          gi_wp2
          exact ⟨hMw.wider (fun i _ h => h.elim), by rw [HN.out, List.filter_append]; simpa [HD.out] using hJ _ _ _ HJ'.out (hMw.wider (fun i _ h => h.elim)), hm'.then hMw (fun i _ h => h.elim)⟩
        · have hdb : (atG g d != n) = true := by simp [hdn]
          have HD := Hold.mk hdn
          clear hdn
          gi_wp2_with (refine ⟨trivial, ?_⟩; gi_at_call 71; refine (CallsIn.inRound l3 (callsIn_wide.2 HA.out)).mono ?_; rintro e w' ⟨rfl, hMw, f1, f2⟩; obtain ⟨fn, tm, asg, bdy, hy, hR⟩ := HY.out _ _ _ w' (HL.out HD.out) (hJ _ _ _ HJ'.out (hMw.wider (fun i _ h => h.elim))) (Nat.le_trans hzz hMw.size))
          refine (roundIn_inRound hR).mono ?_
          rintro e W3 (⟨rfl, hJ3, hM3⟩ | ⟨rfl, hJ3, hM3⟩)
          · gi_wp2
            exact ⟨(hMw.wider (fun i _ h => h.elim)).trans hM3, by rw [HN.out, List.filter_append]; simpa [HD.out] using hJ3, (hm'.then hMw (fun i _ h => h.elim)).trans hM3⟩
          · gi_wp2
            exact ⟨(hMw.wider (fun i _ h => h.elim)).trans hM3, ⟨rfl, _, ⟨_, by rw [HL.out HD.out, List.append_assoc _ [_], List.singleton_append]⟩, hJ3⟩, (hm'.then hMw (fun i _ h => h.elim)).trans hM3⟩
      case done2 =>
        rintro W' hz' ⟨hj', hm'⟩
        gi_wp2
        exact ⟨hm', by rw [List.flatMap_append]; simpa [facedAt, Hx.out] using hj', hmr.trans hm'⟩
      case stop2 =>
        rintro c pre' W' hz' hpre ⟨⟨rfl, hq'⟩, hm'⟩
        gi_wp2
        exact ⟨hm', ⟨rfl, hq'⟩, hmr.trans hm'⟩
    · have hx' : (atG g x != n) = true := by simp [hx]
      have Hx := Hold.mk hx
      clear hx
      gi_wp2
      exact ⟨hq.wider (fun i _ h => h.elim), by rw [List.flatMap_append]; simpa [facedAt, Hx.out] using HJ.out, hmq⟩
  case done =>
    rintro D W' hD hz ⟨hj, hm⟩ hK
    gi_wp2
    refine ⟨by simp, .inl ⟨_, _, rfl, run_takeDeferred hK, ?_⟩⟩
    exact ⟨_, results_none rfl _ _ _, ⟨_, rfl⟩, by simp; omega, .inl (hJ _ _ _ hj ((Mod.refl _ _).putObj (fun _ => by omega) _))⟩
  case stop =>
    rintro D c pre W' hD hz hpre ⟨⟨rfl, q, hq, hj⟩, hm⟩ hK
    gi_wp2
    refine ⟨by simp, .inl ⟨_, _, rfl, run_takeDeferred hK, ?_⟩⟩
    exact ⟨_, results_none rfl _ _ _, ⟨_, rfl⟩, by simp; omega, .inr ⟨q, hq, hJx _ _ _ hj ((Mod.refl _ _).putObj (fun _ => by omega) _)⟩⟩
end Go.Proofs.Ytogalmkeipigeaa

/- parts: in how many parts the cells of each number are. -/
import Derived.Test.YtogalmkeipigeaaReach
import Derived.Test.YtogalmkeipigeaaParting
import Derived.Laws.EntriesVeiled
import Derived.Laws.Rows
set_option linter.unusedSimpArgs false
set_option linter.unusedVariables false
namespace Go.Proofs.Ytogalmkeipigeaa
open Go.RowKit Go.Shelf
attribute [local go_sem] Oper.semAt_some

theorem zero126 : Try.zeroCells126 = boolCells 144 (fun _ => false) := by kernel_rfl
def zero40 : Array Value := fcells 40 (fun _ => .int .i64 0)
theorem zero50 : (#[.int .i64 0, .int .i64 0, .int .i64 0, .int .i64 0, .int .i64 0, .int .i64 0, .int .i64 0, .int .i64 0, .int .i64 0, .int .i64 0,
  .int .i64 0, .int .i64 0, .int .i64 0, .int .i64 0, .int .i64 0, .int .i64 0, .int .i64 0, .int .i64 0, .int .i64 0, .int .i64 0,
  .int .i64 0, .int .i64 0, .int .i64 0, .int .i64 0, .int .i64 0, .int .i64 0, .int .i64 0, .int .i64 0, .int .i64 0, .int .i64 0,
  .int .i64 0, .int .i64 0, .int .i64 0, .int .i64 0, .int .i64 0, .int .i64 0, .int .i64 0, .int .i64 0, .int .i64 0, .int .i64 0] : Array Value) = zero40 := by kernel_rfl

set_option maxRecDepth 100000 in
set_option maxHeartbeats 4000000 in
theorem parts_any (g : Int × Int → Option Int) (W H : Nat) (G : Grid g W H) (N : Int) (mb : Nat) (w : World) (hm : MapIs Try.prog 106 cellV w mb g) :
    Calls Try.prog 64 #[picV W H N mb] w fun e w' => ∃ f : Nat → Int, e = .returned (.agg (fcells 40 (fun k => .int .i64 (f k)))) ∧ Mod noB w w' ∧ PartsOf g W H f := by
  refine callsIn_wide (n := 3) |>.1 ?_
  refine callsIn_of_wp_marks Try.func64 rfl trivial ?_ rfl
  simp only [Try.ntmps64, List.size_toArray, List.length_cons, List.length_nil, Nat.reduceAdd, Nat.reduceSub, Array.replicate_succ, Array.replicate_zero, List.push_toArray, List.append_toArray, List.nil_append, List.cons_append]
  have HM := Hold.mk hm
  have HG := Hold.mk G
  clear hm G
  gi_wp2_with (refine ⟨trivial, ?_⟩; gi_at_call 70; refine (callsIn_wide.2 (picCells_any _ _ _ _ _)).mono ?_; rintro e w' ⟨rfl, rfl⟩)
  rw [zero50, zero126]
  obtain ⟨W1, hW1⟩ : ∃ W1, (((((((w.alloc (.cells #[.int .i64 W, .int .i64 H, .int .i64 N, .map (some mb)] 71)).alloc (.cells zero40 50)).alloc (.cells zero40 50)).alloc (.cells (boolCells 144 fun _ => false) 126)).alloc (.cells #[.func (.func 81) #[] #[.pointer (some ⟨w.heap.size + 1 + 1 + 1, 0, none⟩), .pointer (some ⟨w.heap.size, 0, none⟩), .pointer (some ⟨w.heap.size + 1 + 1 + 1 + 1, 0, none⟩)]] 127)).alloc (.cells #[.int .i64 W, .int .i64 H, .int .i64 N, .map (some mb)] 71)).alloc (.cells #[.int .i64 0, .int .i64 0, .int .i64 W, .int .i64 H] 97)) = W1 := ⟨_, rfl⟩
  have hM1 : Mod noB w W1 := by rw [← hW1]; exact (((((((Mod.refl _ _).alloc _).alloc _).alloc _).alloc _).alloc _).alloc _).alloc _
  have hz1 : W1.heap.size = w.heap.size + 7 := by rw [← hW1]; simp
  have bpic : W1.heap[w.heap.size + 0]? = some (.cells #[.int .i64 W, .int .i64 H, .int .i64 N, .map (some mb)] 71) := by
    rw [← hW1, Below.heap_alloc _ _ _ (by simp; try omega), Below.heap_alloc _ _ _ (by simp; try omega), Below.heap_alloc _ _ _ (by simp; try omega), Below.heap_alloc _ _ _ (by simp; try omega), Below.heap_alloc _ _ _ (by simp; try omega), Below.heap_alloc _ _ _ (by simp; try omega)]
    have := World.alloc_heap_new w (.cells #[.int .i64 W, .int .i64 H, .int .i64 N, .map (some mb)] 71)
    simpa using this
  have bres : W1.heap[w.heap.size + 1]? = some (.cells zero40 50) := by
    rw [← hW1, Below.heap_alloc _ _ _ (by simp; try omega), Below.heap_alloc _ _ _ (by simp; try omega), Below.heap_alloc _ _ _ (by simp; try omega), Below.heap_alloc _ _ _ (by simp; try omega), Below.heap_alloc _ _ _ (by simp; try omega)]
    have := World.alloc_heap_new (w.alloc (.cells #[.int .i64 W, .int .i64 H, .int .i64 N, .map (some mb)] 71)) (.cells zero40 50)
    simpa using this
  have bprt : W1.heap[w.heap.size + 2]? = some (.cells zero40 50) := by
    rw [← hW1, Below.heap_alloc _ _ _ (by simp; try omega), Below.heap_alloc _ _ _ (by simp; try omega), Below.heap_alloc _ _ _ (by simp; try omega), Below.heap_alloc _ _ _ (by simp; try omega)]
    have := World.alloc_heap_new ((w.alloc (.cells #[.int .i64 W, .int .i64 H, .int .i64 N, .map (some mb)] 71)).alloc (.cells zero40 50)) (.cells zero40 50)
    simpa using this
  have brch : W1.heap[w.heap.size + 3]? = some (.cells (boolCells 144 fun _ => false) 126) := by
    rw [← hW1, Below.heap_alloc _ _ _ (by simp; try omega), Below.heap_alloc _ _ _ (by simp; try omega), Below.heap_alloc _ _ _ (by simp; try omega)]
    have := World.alloc_heap_new (((w.alloc (.cells #[.int .i64 W, .int .i64 H, .int .i64 N, .map (some mb)] 71)).alloc (.cells zero40 50)).alloc (.cells zero40 50)) (.cells (boolCells 144 fun _ => false) 126)
    simpa using this
  have bfun : W1.heap[w.heap.size + 4]? = some (.cells #[.func (.func 81) #[] #[.pointer (some ⟨w.heap.size + 1 + 1 + 1, 0, none⟩), .pointer (some ⟨w.heap.size, 0, none⟩), .pointer (some ⟨w.heap.size + 1 + 1 + 1 + 1, 0, none⟩)]] 127) := by
    rw [← hW1, Below.heap_alloc _ _ _ (by simp; try omega), Below.heap_alloc _ _ _ (by simp; try omega)]
    have := World.alloc_heap_new ((((w.alloc (.cells #[.int .i64 W, .int .i64 H, .int .i64 N, .map (some mb)] 71)).alloc (.cells zero40 50)).alloc (.cells zero40 50)).alloc (.cells (boolCells 144 fun _ => false) 126)) (.cells #[.func (.func 81) #[] #[.pointer (some ⟨w.heap.size + 1 + 1 + 1, 0, none⟩), .pointer (some ⟨w.heap.size, 0, none⟩), .pointer (some ⟨w.heap.size + 1 + 1 + 1 + 1, 0, none⟩)]] 127)
    simpa using this
  have bblk : W1.heap[w.heap.size + 6]? = some (.cells #[.int .i64 0, .int .i64 0, .int .i64 W, .int .i64 H] 97) := by
    rw [← hW1]
    have := World.alloc_heap_new ((((((w.alloc (.cells #[.int .i64 W, .int .i64 H, .int .i64 N, .map (some mb)] 71)).alloc (.cells zero40 50)).alloc (.cells zero40 50)).alloc (.cells (boolCells 144 fun _ => false) 126)).alloc (.cells #[.func (.func 81) #[] #[.pointer (some ⟨w.heap.size + 1 + 1 + 1, 0, none⟩), .pointer (some ⟨w.heap.size, 0, none⟩), .pointer (some ⟨w.heap.size + 1 + 1 + 1 + 1, 0, none⟩)]] 127)).alloc (.cells #[.int .i64 W, .int .i64 H, .int .i64 N, .map (some mb)] 71)) (.cells #[.int .i64 0, .int .i64 0, .int .i64 W, .int .i64 H] 97)
    simpa using this
  rw [hW1]
  clear hW1
  have bprt' : W1.heap[w.heap.size + 2]? = some (.cells (fcells 40 (fun k => .int .i64 ((fun _ => (0 : Int)) k))) 50) := bprt
  have hm := HM.out
  have G := HG.out
  have hm1 := hm.same (hM1.block mb hm.lt id)
  have hml := hm.lt
  have gw := G.w2
  have gh := G.h2
  refine range_plain (gf := 87) (lb := #[.pointer (some ⟨w.heap.size + 1 + 1 + 1 + 1 + 1 + 1, 0, none⟩)]) rfl rfl enter87 (cells1_runs (w.heap.size + 6) 0 0 W H W1 bblk (by omega) gw (by omega) gh)
    (by rintro k rfl; omega) (fun k => k = w.heap.size + 2 ∨ k = w.heap.size + 3) (by rintro k (rfl | rfl) <;> exact ⟨by omega, by omega⟩)
    (fun pre Wr => (∃ R f reps, Wr.heap[w.heap.size + 3]? = some (.cells (boolCells 144 R) 126) ∧ Wr.heap[w.heap.size + 2]? = some (.cells (fcells 40 (fun k => .int .i64 (f k))) 50) ∧ Parting g W H pre R f reps) ∧ Mod (fun k => k = w.heap.size + 2 ∨ k = w.heap.size + 3) W1 Wr)
    (fun _ _ _ => False)
    (fun s A B h hg => by
      obtain ⟨⟨R, f, reps, h1, h2, h3⟩, h4⟩ := h
      exact ⟨⟨R, f, reps, hg.at h1 (by omega), hg.at h2 (by omega), h3⟩, h4.then hg (fun i h1 h2 => by omega)⟩)
    (fun c s A B h hg => h)
    ⟨⟨fun _ => false, fun _ => 0, [], brch, bprt', Parting.begin⟩, Mod.refl _ _⟩
    (some (106, fun p => #[.int .i64 p.1, .int .i64 p.2]))
    (fun Bx x => { tmps := #[picV W H N mb, .pointer (some ⟨w.heap.size, 0, none⟩), .pointer (some ⟨w.heap.size + 1, 0, none⟩), .pointer (some ⟨w.heap.size + 1 + 1, 0, none⟩), .pointer (some ⟨w.heap.size + 1 + 1 + 1, 0, none⟩), .pointer (some ⟨w.heap.size + 1 + 1 + 1 + 1, 0, none⟩), .pointer (some ⟨Bx, 0, none⟩),
      .func (.func 81) #[] #[.pointer (some ⟨w.heap.size + 1 + 1 + 1, 0, none⟩), .pointer (some ⟨w.heap.size, 0, none⟩), .pointer (some ⟨w.heap.size + 1 + 1 + 1 + 1, 0, none⟩)], .agg #[.int .i64 W, .int .i64 H, .int .i64 N, .map (some mb)], .func (.func 87) #[] #[.pointer (some ⟨w.heap.size + 1 + 1 + 1 + 1 + 1 + 1, 0, none⟩)], cellV x, undef, undef, undef, undef, undef, undef, undef, undef, undef, undef, undef, undef, undef, undef, undef, undef, undef, undef, undef], defers := [] })
    ?assign ?body ?done ?stop
  case assign =>
    intro l x W K hK
    gi_wp2
    exact hK
  case body =>
    rintro l2 pre c rest a' Wr hL hl2 hr2 hzr ⟨⟨R, f, reps, hrr, hfr, hpt⟩, hmr⟩ ⟨Bx, hBx, hbx, rfl⟩
    have hcin : inPic W H c := cellsL_in (by rw [hL]; simp)
    have hpl : pre.length ≤ 144 := by
      have h1 := congrArg List.length hL
      rw [cellsL_len] at h1
      simp at h1
      have h2 : H * W ≤ 12 * 12 := Nat.mul_le_mul gh gw
      omega
    obtain ⟨x, y⟩ := c
    obtain ⟨x1, x2, y1, y2⟩ := id hcin
    simp only at x1 x2 y1 y2 hbx
    obtain ⟨x, rfl⟩ := Int.eq_ofNat_of_zero_le x1
    obtain ⟨y, rfl⟩ := Int.eq_ofNat_of_zero_le y1
    have hidx : idx ((x : Int), (y : Int)) = y * 12 + x := by simp [idx]
    have hk : y * 12 + x < 144 := by omega
    have bx12 : (x : Int) < 12 := by omega
    have by12 : (y : Int) < 12 := by omega
    have hpr := hmr.at bpic (by omega)
    have hur := hmr.at bfun (by omega)
    have hmpr := hm1.same (hmr.block mb hm1.lt (by omega))
    obtain ⟨n, hn⟩ := Int.eq_ofNat_of_zero_le (G.at_in hcin).1
    have hn40 : n < 40 := by have := (G.at_in hcin).2; omega
    have hle := hpt.le hn40
    have FIN : Hold (∀ W', Mod noB Wr W' → W'.cell? ⟨w.heap.size, 0, none⟩ = some (.int .i64 W) ∧ W'.cell? ⟨w.heap.size, 1, none⟩ = some (.int .i64 H) ∧ W'.cell? ⟨w.heap.size, 2, none⟩ = some (.int .i64 N) ∧ W'.cell? ⟨w.heap.size, 3, none⟩ = some (.map (some mb)) ∧
        W'.cell? ⟨Bx, 0, none⟩ = some (.int .i64 x) ∧ W'.cell? ⟨Bx, 1, none⟩ = some (.int .i64 y) ∧
        W'.cell? ⟨w.heap.size + 1 + 1 + 1 + 1, 0, none⟩ = some (.func (.func 81) #[] #[.pointer (some ⟨w.heap.size + 1 + 1 + 1, 0, none⟩), .pointer (some ⟨w.heap.size, 0, none⟩), .pointer (some ⟨w.heap.size + 1 + 1 + 1 + 1, 0, none⟩)]) ∧ MapIs Try.prog 106 cellV W' mb g ∧
        W'.cell? ⟨w.heap.size + 1 + 1 + 1, y * 12 + x, none⟩ = some (.bool (R (y * 12 + x))) ∧ W'.cell? ⟨w.heap.size + 1 + 1, n, none⟩ = some (.int .i64 (f n)) ∧ W'.frozen? ⟨w.heap.size + 1 + 1, n, none⟩ = false) := ⟨fun W' h => by
      have e1 : W'.heap[w.heap.size]? = _ := h.at hpr id
      have e3 := h.at hbx id
      have e4 : W'.heap[w.heap.size + 1 + 1 + 1 + 1]? = _ := h.at hur id
      have e5 := h.at hrr id
      have e6 := h.at hfr id
      refine ⟨?_, ?_, ?_, ?_, ?_, ?_, ?_, hmpr.same (h.block mb hmpr.lt id), fcells_cell e5 hk, fcells_cell e6 hn40, cells_frozen e6 n⟩ <;> simp [World.cell?, e1, e3, e4]⟩
    have HR := Hold.mk (And.intro hrr (And.intro hfr (And.intro hpr (And.intro hur (And.intro hmpr (And.intro hmr (And.intro hpt (And.intro hL (And.intro hcin (And.intro hn (And.intro hidx hbx)))))))))))
    clear hrr hfr hpr hur hmpr hmr hpt hL hcin hn hidx hbx bpic bres bprt bprt' brch bfun bblk hm1 hm
    cases hvis : R (y * 12 + x) with
    | true =>
      have HV := Hold.mk hvis
      gi_wp2
      refine region_quietC (fun _ => trivial) rfl round_call mixed (by kernel_rfl) (by kernel_rfl) (fun W' => Mod noB Wr W') ((Mod.refl _ _).drew) ?_
      repeat
        (first
          | go_big_quiet_skip
          | (go_big_quiet_want
             go_simp
             first
               | go_big_quiet_on
               | (apply Exists.intro
                  refine ⟨fun W' hC => ?_, ?_⟩
                  · obtain ⟨f0, f1, f2, f3, f4, f5, f6, f7, f8, f9, f10⟩ := FIN.out W' hC
                    have f11 := f8.trans (congrArg (fun b => some (Value.bool b)) hvis)
                    clear f8 f7
                    first
                      | with_reducible rfl
                      | (go_simp; first | rfl | exact ⟨rfl, rfl⟩)
                  go_big_quiet_on)))
      clear hvis
      refine wpQuiet_nil ?_
      intro Wq hq
      gi_wp2
      obtain ⟨hrr, hfr, hpr, hur, hmpr, hmr, hpt, hL, hcin, hn, hidx, hbx⟩ := HR.out
      exact ⟨hq.wider (fun i _ h => h.elim), ⟨R, f, reps, hq.at hrr id, hq.at hfr id, hpt.skip (by rw [hidx]; exact HV.out)⟩, hmr.then hq (fun i _ h => h.elim)⟩
    | false =>
      have HV := Hold.mk hvis
      gi_wp2
      refine region_quietC (fun _ => trivial) rfl round_call mixed (by kernel_rfl) (by kernel_rfl) (fun W' => Mod noB Wr W') ((Mod.refl _ _).drew) ?_
      repeat
        (first
          | go_big_quiet_skip
          | (go_big_quiet_want
             go_simp
             first
               | go_big_quiet_on
               | (apply Exists.intro
                  refine ⟨fun W' hC => ?_, ?_⟩
                  · obtain ⟨f0, f1, f2, f3, f4, f5, f6, f7, f8, f9, f10⟩ := FIN.out W' hC
                    have f11 := f8.trans (congrArg (fun b => some (Value.bool b)) hvis)
                    clear f8 f7
                    first
                      | with_reducible rfl
                      | (go_simp; first | rfl | exact ⟨rfl, rfl⟩)
                  go_big_quiet_on)))
      clear hvis
      refine wpQuiet_nil ?_
      intro Wq hq
      have wx : wf64 (x : Int) := wf64_of (by omega) (by omega)
      have wy : wf64 (y : Int) := wf64_of (by omega) (by omega)
      obtain ⟨f0, f1, f2, f3, f4, f5, f6, f7, f8, f9, f10⟩ := FIN.out Wq hq
      have HA : Hold (Calls Try.prog 71 #[.agg #[.int .i64 W, .int .i64 H, .int .i64 N, .map (some mb)], .agg #[.int .i64 x, .int .i64 y]] Wq fun e w' => e = .returned (.int .i64 (n : Int)) ∧ Mod noB Wr w') :=
        ⟨(at_two _ _ _ _ _ _ Wq g f7 wx wy).mono fun e w' h => ⟨by rw [h.1, HR.out.2.2.2.2.2.2.2.2.2.1], hq.trans h.2⟩⟩
      clear f6 f7 f8 f9 f10
      have hn1 : (n : Int) < 40 := by omega
      have hne1 : ¬ (w.heap.size + 1 + 1 = Bx) := by omega
      have hne2 : ¬ (Bx = w.heap.size + 1 + 1) := by omega
      obtain ⟨hle1, hle2⟩ := hle
      have hle3 : f n ≤ 144 := by omega
      obtain ⟨v, hv⟩ : ∃ v, f n = v := ⟨_, rfl⟩
      have Hv := Hold.mk hv
      rw [hv] at hle1 hle3
      clear hle2 hv
      gi_wp2_with (first
        | (refine ⟨trivial, ?_⟩; gi_at_call 71; refine (CallsIn.inRound l2 (callsIn_wide.2 HA.out)).mono ?_; rintro e w' ⟨rfl, hMw⟩; obtain ⟨k0, k1, k2, k3, k4, k5, k6, k7, k8, k9, k10⟩ := FIN.out w' hMw; rw [Hv.out] at k9; clear k7 k8))
      obtain ⟨hrr, hfr, hpr, hur, hmpr, hmr, hpt, hL, hcin, hn, hidx, hbx⟩ := HR.out
      have hMs : Mod (fun k => k = w.heap.size + 2) w' (w'.setCell ⟨w.heap.size + 1 + 1, n, none⟩ (.int .i64 (v + 1))) := (Mod.refl (fun k => k = w.heap.size + 2) w').setCell (p := ⟨w.heap.size + 1 + 1, n, none⟩) (fun _ => rfl) _
      have q1 := hMs.at (hMw.at hrr id) (by omega)
      have q2 : (w'.setCell ⟨w.heap.size + 1 + 1, n, none⟩ (.int .i64 (v + 1))).heap[w.heap.size]? = _ := hMs.at (hMw.at hpr id) (by omega)
      have q3 := hMs.at (hMw.at hur id) (by omega)
      have q4 := (hmpr.same (hMw.block mb hmpr.lt id)).same (hMs.block mb (Nat.lt_of_lt_of_le hmpr.lt hMw.size) (by omega))
      have q5 := fcells_store (hMw.at hfr id) n (.int .i64 (v + 1))
      have q6 : (fun j => if j = n then Value.int .i64 (v + 1) else Value.int .i64 (f j)) = (fun j => Value.int .i64 ((fun k => if k = n then f n + 1 else f k) j)) := by
        funext j
        by_cases e : j = n
        · simp [e, Hv.out]
        · simp [e]
      rw [q6] at q5
      refine ⟨trivial, (CallsIn.inRound l2 (callsIn_wide.2 (reach_any g W H G N (w.heap.size + 3) w.heap.size (w.heap.size + 4) mb ⟨by omega, by omega, by omega⟩ _ R ((x : Int), (y : Int)) _ (Nat.le_refl _) hcin (by rw [hidx]; exact HV.out) q1 q2 q3 q4))).mono ?_⟩
      rintro e w3 ⟨rfl, hM3, R2, hr3, hfl⟩
      gi_wp2
      have hall : Mod (fun k => k = w.heap.size + 2 ∨ k = w.heap.size + 3) Wr w3 := ((hMw.wider (fun i _ h => h.elim)).trans (hMs.wider (fun i _ h => .inl h))).trans (hM3.wider (fun i _ h => .inr h))
      exact ⟨hall, ⟨R2, _, _, hr3, hM3.at q5 (by omega), hpt.more G hcin (by rw [hidx]; exact HV.out) hfl hn⟩, hmr.trans hall⟩
  case done =>
    rintro D W' hD hz ⟨⟨R, f, reps, h1, h2, h3⟩, hm'⟩ hK
    have hr2 := hm'.at bres (by omega)
    have e1 : (Try.prog.info? 50).map (·.size) = some (fcells 40 (fun k => .int .i64 (f k))).size := by rw [fcells_size]; kernel_rfl
    have e2 : (fcells 40 (fun k => .int .i64 (f k))).all (·.oneCell') = true := by simp [fcells, Value.oneCell']
    have e3 : zero40.size = (fcells 40 (fun k => .int .i64 (f k))).size := by simp [zero40, fcells_size]
    have E := Hold.mk (And.intro e1 (And.intro e2 (And.intro e3 (And.intro h2 (And.intro hr2 (And.intro h1 h3))))))
    clear e1 e2 e3 h2 hr2 h1 h3
    gi_wp2_with (first
      | (refine wpListIn_loadRow rfl 50 (.tmp 3) rfl (w.heap.size + 1 + 1) rfl 50 _ _ E.out.2.2.2.1 Try.underlying50 rfl E.out.1 ?_)
      | (refine wpListIn_storeRow rfl 50 (.tmp 2) (.tmp 29) rfl (w.heap.size + 1) rfl _ rfl 50 _ E.out.2.2.2.2.1 E.out.1 E.out.2.2.1 E.out.2.1 ?_))
    obtain ⟨e1, e2, e3, h2, hr2, h1, h3⟩ := E.out
    have hlt := (Array.getElem?_eq_some_iff.1 hr2).1
    have hK' : (W'.putObj (w.heap.size + 1) (.cells (fcells 40 (fun k => .int .i64 (f k))) 50)).heap[D]? = some (.deferred (some [])) := (World.putObj_heap_other (by omega)).trans hK
    refine ⟨by simp, .inl ⟨_, _, rfl, run_takeDeferred hK', ?_⟩⟩
    have hg : ((W'.putObj (w.heap.size + 1) (.cells (fcells 40 (fun k => .int .i64 (f k))) 50)).putObj D (.deferred none)).heap[w.heap.size + 1]? = some (.cells (fcells 40 (fun k => .int .i64 (f k))) 50) :=
      (World.putObj_heap_other (by omega)).trans (World.putObj_heap_same hlt)
    refine ⟨_, results_cell_row (fn := Try.f64) rfl _ _ (w.heap.size + 1) 50 _ (0, 0) _ rfl hg Try.underlying50 rfl e1, f, rfl, ?_, h3.finish⟩
    exact ((hM1.then hm' (fun i h1 h2 => by omega)).putObj (fun h => by omega) _).putObj (fun h => by omega) _
  case stop =>
    rintro D c pre W hD hz hpre h hK
    exact h.elim
end Go.Proofs.Ytogalmkeipigeaa

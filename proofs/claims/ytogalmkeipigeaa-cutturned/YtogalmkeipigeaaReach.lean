/- The flood of one piece: the function of parts that calls itself. -/
import Derived.Test.YtogalmkeipigeaaFlood
import Derived.Test.YtogalmkeipigeaaArr
import Derived.Stop.RegionWithIn
set_option linter.unusedSimpArgs false
set_option linter.unusedVariables false
namespace Go.Proofs.Ytogalmkeipigeaa
open Go.RowKit Go.Shelf
attribute [local go_sem] Oper.semAt_some

theorem enter81 : ∀ args w, (callFunc 81 args).run Try.prog w = .ok (.enter 81 args) w := enters_of Try.func81 (by kernel_rfl) rfl

set_option maxRecDepth 100000 in
set_option maxHeartbeats 4000000 in
theorem reach_any (g : Int × Int → Option Int) (W H : Nat) (G : Grid g W H) (N : Int) (rb pb fb mb : Nat) (hne : rb ≠ pb ∧ rb ≠ fb ∧ rb ≠ mb) : ∀ (m : Nat) (R : Nat → Bool) (c : Int × Int) (w : World), cnt R ≤ m → inPic W H c → R (idx c) = false →
    w.heap[rb]? = some (.cells (boolCells 144 R) 126) → w.heap[pb]? = some (.cells #[.int .i64 W, .int .i64 H, .int .i64 N, .map (some mb)] 71) →
    w.heap[fb]? = some (.cells #[.func (.func 81) #[] #[.pointer (some ⟨rb, 0, none⟩), .pointer (some ⟨pb, 0, none⟩), .pointer (some ⟨fb, 0, none⟩)]] 127) → MapIs Try.prog 106 cellV w mb g →
    Calls Try.prog 81 #[cellV c, .pointer (some ⟨rb, 0, none⟩), .pointer (some ⟨pb, 0, none⟩), .pointer (some ⟨fb, 0, none⟩)] w fun e w' => e = .returned (.tuple #[]) ∧ Mod (fun k => k = rb) w w' ∧
      ∃ R', w'.heap[rb]? = some (.cells (boolCells 144 R') 126) ∧ Flood g W H R c R' := by
  intro m
  induction m with
  | zero =>
    intro R c w hm hc hR
    have : 0 < cnt R := by
      refine Nat.lt_of_le_of_lt (Nat.zero_le _) (cnt_lt (R := R) (R' := fun _ => true) (fun _ _ => rfl) (idx_lt G hc) hR rfl)
    omega
  | succ m ih =>
    intro R c w hm hc hR hrb hpb hfb hmp
    have IH := Hold.mk ih
    obtain ⟨x, y⟩ := c
    obtain ⟨hx1, hx2, hy1, hy2⟩ := id hc
    have hc' := Hold.mk hc
    simp only at hx1 hx2 hy1 hy2
    have gw := G.w2
    have gh := G.h2
    obtain ⟨x, rfl⟩ := Int.eq_ofNat_of_zero_le hx1
    obtain ⟨y, rfl⟩ := Int.eq_ofNat_of_zero_le hy1
    have hidx : idx ((x : Int), (y : Int)) = y * 12 + x := by simp [idx]
    have hk : y * 12 + x < 144 := by omega
    have kc := fcells_cell hrb hk
    have kf := cells_frozen hrb (y * 12 + x)
    have hlt := (Array.getElem?_eq_some_iff.1 hrb).1
    have HH := Hold.mk (And.intro hrb (And.intro hpb (And.intro hfb (And.intro hmp (And.intro hR (And.intro hc (And.intro hm ih)))))))
    clear hrb hpb hfb hmp hR hc hm ih
    refine callsIn_wide (n := 3) |>.1 ?_
    refine callsIn_of_wp_marks Try.func81 rfl trivial ?_ rfl
    simp only [Try.ntmps81, List.size_toArray, List.length_cons, List.length_nil, Nat.reduceAdd, Nat.reduceSub, Array.replicate_succ, Array.replicate_zero, List.push_toArray, List.append_toArray, List.nil_append, List.cons_append]
    gi_wp2
    gi_region
    clear kc kf
    gi_wp2_with (refine ⟨trivial, ?_⟩; gi_at_call 72; refine (callsIn_wide.2 (beside_any ((x : Int), (y : Int)) _)).mono ?_; rintro e w' ⟨rfl, rfl⟩)
    obtain ⟨hrb, hpb, hfb, hmp, hR, hc, hm, ih⟩ := HH.out
    have hM1 : Mod (fun k => k = rb) w (((w.setCell ⟨rb, y * 12 + x, none⟩ (.bool true)).alloc (.cells #[.int .i64 x, .int .i64 y] 106)).alloc (.cells #[.int .i64 x, .int .i64 y] 106)).drew :=
      ((((Mod.refl (fun k => k = rb) w).setCell (p := ⟨rb, y * 12 + x, none⟩) (fun _ => rfl) _).alloc _).alloc _).drew
    have hsz : (w.setCell ⟨rb, y * 12 + x, none⟩ (.bool true)).heap.size = w.heap.size := by show (w.heap.modify _ _).size = _; simp
    obtain ⟨W1, hW1⟩ : ∃ W1, (((w.setCell ⟨rb, y * 12 + x, none⟩ (.bool true)).alloc (.cells #[.int .i64 x, .int .i64 y] 106)).alloc (.cells #[.int .i64 x, .int .i64 y] 106)).drew = W1 := ⟨_, rfl⟩
    rw [hW1] at hM1 ⊢
    have hz1 : W1.heap.size = w.heap.size + 2 := by rw [← hW1]; show (((w.setCell _ _).alloc _).alloc _).heap.size = _; simp [hsz]
    have hr1 : W1.heap[rb]? = some (.cells (boolCells 144 (mark R (idx ((x : Int), (y : Int))))) 126) := by
      rw [← hW1, hidx]
      show (((w.setCell _ _).alloc _).alloc _).heap[rb]? = _
      rw [Below.heap_alloc _ _ _ (by simp [hsz]; omega), Below.heap_alloc _ _ _ (by rw [hsz]; exact hlt)]
      exact boolCells_store hrb _
    have hc1 : W1.heap[w.heap.size]? = some (.cells #[.int .i64 x, .int .i64 y] 106) := by
      rw [← hW1]
      show (((w.setCell _ _).alloc _).alloc _).heap[w.heap.size]? = _
      rw [Below.heap_alloc _ _ _ (by simp [hsz])]
      have := World.alloc_heap_new (w.setCell ⟨rb, y * 12 + x, none⟩ (.bool true)) (.cells #[.int .i64 x, .int .i64 y] 106)
      rw [hsz] at this
      exact this
    have hb1 : W1.heap[w.heap.size + 1]? = some (.cells #[.int .i64 x, .int .i64 y] 106) := by
      rw [← hW1]
      show (((w.setCell _ _).alloc _).alloc _).heap[w.heap.size + 1]? = _
      have := World.alloc_heap_new ((w.setCell ⟨rb, y * 12 + x, none⟩ (.bool true)).alloc (.cells #[.int .i64 x, .int .i64 y] 106)) (.cells #[.int .i64 x, .int .i64 y] 106)
      rw [World.size_alloc, hsz] at this
      exact this
    have hp1 := hM1.at hpb (Ne.symm hne.1)
    have hf1 := hM1.at hfb (Ne.symm hne.2.1)
    have hm1 := hmp.same (hM1.block mb hmp.lt (Ne.symm hne.2.2))
    clear hW1 hsz
    refine range_plain (gf := 83) (lb := #[.pointer (some ⟨w.heap.size + 1, 0, none⟩)]) rfl rfl enter83 (beside1_runs (w.heap.size + 1) ((x : Int), (y : Int)) W1 hb1 (by simp only; omega) (by simp only; omega) (by simp only; omega) (by simp only; omega))
      (by rintro k rfl; omega) (fun k => k = rb) (by rintro k rfl; exact ⟨by omega, by omega⟩)
      (fun pre Wr => (∃ Rc, Wr.heap[rb]? = some (.cells (boolCells 144 Rc) 126) ∧ Flooding g W H R ((x : Int), (y : Int)) pre Rc) ∧ Mod (fun k => k = rb) W1 Wr)
      (fun _ _ _ => False)
      (fun s A B h hg => by
        obtain ⟨⟨Rc, h1, h2⟩, h3⟩ := h
        exact ⟨⟨Rc, hg.at h1 (by omega), h2⟩, h3.then hg (fun i h1 h2 => by omega)⟩)
      (fun c s A B h hg => h)
      ⟨⟨_, hr1, Flooding.begin G R hc⟩, Mod.refl _ _⟩
      (some (106, fun p => #[.int .i64 p.1, .int .i64 p.2]))
      (fun Bx d => { tmps := #[cellV ((x : Int), (y : Int)), .pointer (some ⟨rb, 0, none⟩), .pointer (some ⟨pb, 0, none⟩), .pointer (some ⟨fb, 0, none⟩), .pointer (some ⟨w.heap.size, 0, none⟩), .pointer (some ⟨Bx, 0, none⟩),
        .pointer (some ⟨w.heap.size, 1, none⟩), .int .i64 y, .pointer (some ⟨w.heap.size, 0, none⟩), .int .i64 x, .pointer (some ⟨rb, y * 12, none⟩), .pointer (some ⟨rb, y * 12 + x, none⟩), .agg #[.int .i64 x, .int .i64 y],
        .func (.func 83) #[] #[.pointer (some ⟨w.heap.size + 1, 0, none⟩)], cellV d, undef, undef, undef, undef, undef, undef, undef, undef, undef, undef, undef, undef, undef, undef, undef, undef, undef, undef, undef, undef], defers := [] })
      ?assign ?body ?done ?stop
    case assign =>
      intro l x W K hK
      gi_wp2
      exact hK
    case body =>
      rintro l2 pre d rest a' Wr hL hl2 hr2 hzr ⟨⟨Rc, hrr, hfl⟩, hmr⟩ ⟨Bx, hBx, hbx, rfl⟩
      have hdm : d ∈ besideL ((x : Int), (y : Int)) := by rw [hL]; simp
      obtain ⟨dx, dy⟩ := d
      have hd : -1 ≤ dx ∧ dx ≤ 12 ∧ -1 ≤ dy ∧ dy ≤ 12 := by
        have hdm' := hdm
        simp only [besideL, List.mem_cons, List.not_mem_nil, or_false, Prod.mk.injEq] at hdm'
        omega
      have hpr := hmr.at hp1 (by omega)
      have hfr := hmr.at hf1 (by omega)
      have hcr := hmr.at hc1 (by omega)
      have hmpr := hm1.same (hmr.block mb hm1.lt (by omega))
      simp only at hbx
      have wx : wf64 (x : Int) := wf64_of (by omega) (by omega)
      have wy : wf64 (y : Int) := wf64_of (by omega) (by omega)
      have wdx : wf64 dx := wf64_of (by omega) (by omega)
      have wdy : wf64 dy := wf64_of (by omega) (by omega)
      have FIN : Hold (∀ W', Mod noB Wr W' → W'.cell? ⟨pb, 0, none⟩ = some (.int .i64 W) ∧ W'.cell? ⟨pb, 1, none⟩ = some (.int .i64 H) ∧ W'.cell? ⟨pb, 2, none⟩ = some (.int .i64 N) ∧ W'.cell? ⟨pb, 3, none⟩ = some (.map (some mb)) ∧
          W'.cell? ⟨w.heap.size, 0, none⟩ = some (.int .i64 x) ∧ W'.cell? ⟨w.heap.size, 1, none⟩ = some (.int .i64 y) ∧ W'.cell? ⟨Bx, 0, none⟩ = some (.int .i64 dx) ∧ W'.cell? ⟨Bx, 1, none⟩ = some (.int .i64 dy) ∧
          W'.cell? ⟨fb, 0, none⟩ = some (.func (.func 81) #[] #[.pointer (some ⟨rb, 0, none⟩), .pointer (some ⟨pb, 0, none⟩), .pointer (some ⟨fb, 0, none⟩)]) ∧ MapIs Try.prog 106 cellV W' mb g ∧
          (∀ k, k < 144 → W'.cell? ⟨rb, k, none⟩ = some (.bool (Rc k)))) := ⟨fun W' h => by
        have e1 := h.at hpr id
        have e2 := h.at hcr id
        have e3 := h.at hbx id
        have e4 := h.at hfr id
        have e5 := h.at hrr id
        refine ⟨?_, ?_, ?_, ?_, ?_, ?_, ?_, ?_, ?_, hmpr.same (h.block mb hmpr.lt id), fun k hk => fcells_cell e5 hk⟩ <;> simp [World.cell?, e1, e2, e3, e4]⟩
      have HR := Hold.mk (And.intro hrr (And.intro hpr (And.intro hfr (And.intro hmpr (And.intro hfl (And.intro hmr (And.intro hdm (And.intro ih (And.intro hm (And.intro hR hL))))))))))
      clear hrr hpr hfr hcr hmpr hfl hmr hdm ih hm hL hbx hr1 hc1 hb1 hp1 hf1 hm1 hrb hpb hfb hmp hR hc hM1 HH
      rcases Classical.em (atG g (dx, dy) = atG g ((x : Int), (y : Int))) with he | he
      · have hpos : inPic W H (dx, dy) := G.in_of_at (by rw [he]; exact (G.at_in hc'.out).1)
        obtain ⟨p1, p2, p3, p4⟩ := id hpos
        simp only at p1 p2 p3 p4
        obtain ⟨dx, rfl⟩ := Int.eq_ofNat_of_zero_le p1
        obtain ⟨dy, rfl⟩ := Int.eq_ofNat_of_zero_le p3
        have hdi : idx ((dx : Int), (dy : Int)) = dy * 12 + dx := by simp [idx]
        have hdk : dy * 12 + dx < 144 := by omega
        have bx12 : (dx : Int) < 12 := by omega
        have by12 : (dy : Int) < 12 := by omega
        have heb : (atG g ((dx : Int), (dy : Int)) == atG g ((x : Int), (y : Int))) = true := by simpa using he
        have HE := Hold.mk he
        have HI := Hold.mk hdi
        have HP := Hold.mk hpos
        clear he hdi hpos
        cases hvis : Rc (dy * 12 + dx) with
        | true =>
            have HV := Hold.mk hvis
            gi_wp2
            refine region_quietC (fun _ => trivial) rfl round_call mixed (by kernel_rfl) (by kernel_rfl) (fun W' => Mod noB Wr W') ((Mod.refl _ _).drew) ?_
            repeat
              (first
                | go_big_quiet_skip
                | (go_big_quiet_want
                   go_simp
                   first
                     | go_big_quiet_on
                     | (apply Exists.intro
                        refine ⟨fun W' hC => ?_, ?_⟩
                        · obtain ⟨f0, f1, f2, f3, f4, f5, f6, f7, f8, f9, f10⟩ := FIN.out W' hC
                          have f11 := (f10 (dy * 12 + dx) hdk).trans (congrArg (fun b => some (Value.bool b)) hvis)
                          clear f10
                          first
                            | (go_at_call 71; refine (at_two _ _ _ _ _ _ _ g f9 (by assumption) (by assumption)).mono fun e w'' he => ⟨he.1, hC.trans he.2⟩)
                            | with_reducible rfl
                            | (clear f9; go_simp; first | rfl | exact ⟨rfl, rfl⟩)
                        go_big_quiet_on)))
            clear hvis
            refine wpQuiet_nil ?_
            intro Wq hq
            gi_wp2
            obtain ⟨hrr, hpr, hfr, hmpr, hfl, hmr, hdm, ih, hm, hR, hL⟩ := HR.out
            exact ⟨hq.wider (fun i _ h => h.elim), ⟨Rc, hq.at hrr id, hfl.skip (fun e => by rw [HI.out]; exact HV.out)⟩, hmr.then hq (fun i _ h => h.elim)⟩
        | false =>
            have HV := Hold.mk hvis
            gi_wp2
            refine region_quietC (fun _ => trivial) rfl round_call mixed (by kernel_rfl) (by kernel_rfl) (fun W' => Mod noB Wr W') ((Mod.refl _ _).drew) ?_
            repeat
              (first
                | go_big_quiet_skip
                | (go_big_quiet_want
                   go_simp
                   first
                     | go_big_quiet_on
                     | (apply Exists.intro
                        refine ⟨fun W' hC => ?_, ?_⟩
                        · obtain ⟨f0, f1, f2, f3, f4, f5, f6, f7, f8, f9, f10⟩ := FIN.out W' hC
                          have f11 := (f10 (dy * 12 + dx) hdk).trans (congrArg (fun b => some (Value.bool b)) hvis)
                          clear f10
                          first
                            | (go_at_call 71; refine (at_two _ _ _ _ _ _ _ g f9 (by assumption) (by assumption)).mono fun e w'' he => ⟨he.1, hC.trans he.2⟩)
                            | with_reducible rfl
                            | (clear f9; go_simp; first | rfl | exact ⟨rfl, rfl⟩)
                        go_big_quiet_on)))
            clear hvis
            refine wpQuiet_nil ?_
            intro Wq hq
            obtain ⟨f0, f1, f2, f3, f4, f5, f6, f7, f8, f9, f10⟩ := FIN.out Wq hq
            obtain ⟨hrr, hpr, hfr, hmpr, hfl, hmr, hdm, ih, hm, hR, hL⟩ := HR.out
            have hcall := ih Rc ((dx : Int), (dy : Int)) Wq (by
                have := cnt_lt (R := R) (R' := Rc) hfl.more (idx_lt G hc'.out) hR hfl.own
                omega) HP.out (by rw [HI.out]; exact HV.out) (hq.at hrr id) (hq.at hpr id) (hq.at hfr id) f9
            have HC := Hold.mk hcall
            clear hcall hrr hpr hfr hmpr hfl hmr hdm ih hm hR hL f10 f9 IH
            gi_wp2_with (refine ⟨trivial, ?_⟩; gi_at_call 81; refine (CallsIn.inRound l2 (callsIn_wide.2 HC.out)).mono ?_; rintro e w' ⟨rfl, hMw, R2, hr2', hf2⟩)
            obtain ⟨hrr, hpr, hfr, hmpr, hfl, hmr, hdm, ih, hm, hR, hL⟩ := HR.out
            exact ⟨(hq.wider (fun i _ h => h.elim)).trans hMw, ⟨R2, hr2', hfl.reach hdm HE.out hf2⟩, (hmr.then hq (fun i _ h => h.elim)).trans hMw⟩
      · have heb : (atG g (dx, dy) == atG g ((x : Int), (y : Int))) = false := by simpa using he
        have HE := Hold.mk he
        clear he
        gi_wp2
        refine region_quietC (fun _ => trivial) rfl round_call mixed (by kernel_rfl) (by kernel_rfl) (fun W' => Mod noB Wr W') ((Mod.refl _ _).drew) ?_
        repeat
          (first
            | go_big_quiet_skip
            | (go_big_quiet_want
               go_simp
               first
                 | go_big_quiet_on
                 | (apply Exists.intro
                    refine ⟨fun W' hC => ?_, ?_⟩
                    · obtain ⟨f0, f1, f2, f3, f4, f5, f6, f7, f8, f9, f10⟩ := FIN.out W' hC
                      clear f10
                      first
                        | (go_at_call 71; refine (at_two _ _ _ _ _ _ _ g f9 (by assumption) (by assumption)).mono fun e w'' he => ⟨he.1, hC.trans he.2⟩)
                        | with_reducible rfl
                            | (clear f9; go_simp; first | rfl | exact ⟨rfl, rfl⟩)
                    go_big_quiet_on)))
        refine wpQuiet_nil ?_
        intro Wq hq
        gi_wp2
        obtain ⟨hrr, hpr, hfr, hmpr, hfl, hmr, hdm, ih, hm, hR, hL⟩ := HR.out
        exact ⟨hq.wider (fun i _ h => h.elim), ⟨Rc, hq.at hrr id, hfl.skip (fun e => absurd e HE.out)⟩, hmr.then hq (fun i _ h => h.elim)⟩
    case done =>
      rintro D W' hD hz ⟨⟨Rc, hr, hf⟩, hm⟩ hK
      gi_wp2
      refine ⟨by simp, .inl ⟨_, _, rfl, run_takeDeferred hK, ?_⟩⟩
      exact ⟨_, results_none rfl _ _ _, rfl, (hM1.trans hm).putObj (fun h => by omega) _, Rc, (World.putObj_heap_other (by omega)).trans hr, hf.finish⟩
    case stop =>
      rintro D c pre W hD hz hpre h hK
      exact h.elim
end Go.Proofs.Ytogalmkeipigeaa

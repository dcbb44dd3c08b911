/- cheapest: what is best from a stint on. -/
import Derived.Test.YtdncppempgpooaaDoorRvD
import Derived.Deep.LoopGhost
set_option linter.unusedSimpArgs false
set_option linter.unusedVariables false
namespace Go.Proofs.YtdncppempgpooaaDoor
open Go.RowKit Go.Shelf Go.Maps Go.WideMaps

set_option maxRecDepth 100000 in
set_option maxHeartbeats 8000000 in
theorem from_step (B : Nat) (ao : Option Addr) (cap : Nat) (d : Dye) (oo : Option Addr) (oc : Nat) (l : List (Int × Int)) (lo : Option Addr) (lcap lb bb fb gb mb i : Nat) (hsl : stintsB l = true) (hbl : bearsB d l = true) (hi : i < l.length)
    (HN : FromOk B ao cap d oo oc l lo lcap lb bb fb gb mb (i + 1)) : FromOk B ao cap d oo oc l lo lcap lb bb fb gb mb i := by
  intro r w hz hr hM hl hMe
  obtain ⟨⟨hn1, hn5⟩, hbs, hbd, hstop, hbend⟩ := dieB_parts hM.die
  obtain ⟨hl7, hstl⟩ : l.length ≤ 7 ∧ ∀ s ∈ l, stintB s = true := by
    simp only [stintsB, Bool.and_eq_true, List.all_eq_true, decide_eq_true_eq] at hsl
    exact ⟨by omega, hsl.2⟩
  obtain ⟨s, hs⟩ : ∃ s, l[i]? = some s := ⟨_, List.getElem?_eq_getElem hi⟩
  have hst := hstl s (List.mem_of_getElem? hs)
  have hfz : failing d zeroR s = none := by
    simp only [bearsB, List.all_eq_true] at hbl
    have := hbl s (List.mem_of_getElem? hs)
    simpa using this
  have hdrop : l.drop i = s :: l.drop (i + 1) := by
    obtain ⟨hlt, he⟩ := List.getElem?_eq_some_iff.1 hs
    rw [← he]; exact List.drop_eq_getElem_cons hlt
  obtain ⟨sb, off, rfl, hsb, q0, q1⟩ := hl.stint hs
  have hall : allS d < 32 := by
    have h1 := two_pow_all d
    have : 2 ^ d.bl.length ≤ 2 ^ 5 := Nat.pow_le_pow_right (by decide) hn5
    omega
  have hr7 : RunB 10000 r := hr.mono (by omega)
  obtain ⟨W1, hW1⟩ : ∃ W1, (w.alloc (.cells (mtC ao d.bl.length cap d oo oc r) 87)).alloc (.cells #[.int .i64 0, .slice none 0 0] 97) = W1 := ⟨_, rfl⟩
  have hm1 : Mod noB w W1 := by rw [← hW1]; exact ((Mod.refl _ _).alloc _).alloc _
  have ha1 : W1.heap[w.heap.size]? = some (.cells (mtC ao d.bl.length cap d oo oc r) 87) := by rw [← hW1]; exact allocL_at [.cells (mtC ao d.bl.length cap d oo oc r) 87, .cells #[.int .i64 0, .slice none 0 0] 97] w 0 _ rfl
  have hb1 : W1.heap[w.heap.size + 1]? = some (.cells #[.int .i64 0, .slice none 0 0] 97) := by rw [← hW1]; exact allocL_at [.cells (mtC ao d.bl.length cap d oo oc r) 87, .cells #[.int .i64 0, .slice none 0 0] 97] w 1 _ rfl
  have hMe1 := hMe.mod hm1
  have p0 : W1.cell? ⟨lb, 0, none⟩ = some (.slice (some ⟨sb, off, none⟩) l.length lcap) := cellsAt hMe1.hl 0
  have hne : ((i : Int) == (l.length : Int)) = false := by simp; omega
  have H1 := Hold.mk (And.intro hm1 (And.intro ha1 (And.intro hb1 hMe1)))
  have HZ := Hold.mk (And.intro hz (And.intro hr hr7))
  have HM := Hold.mk (And.intro hM hl)
  have HD := Hold.mk (And.intro hn5 (And.intro hstop (And.intro hbend (And.intro hall (And.intro hl7 hi)))))
  have HS := Hold.mk (And.intro hst (And.intro hfz (And.intro hdrop (And.intro hs hsb))))
  have HNN := Hold.mk HN
  clear hz hr hr7 hM hl hMe hm1 ha1 hb1 hMe1 hst hfz hs hstl hsl hbl hbs hbd HN q0 q1
  go_enter Tryd.func73, Tryd.ntmps73
  go_wp2
  go_step3
  go_wp2_with fail
  obtain ⟨hm1, ha1, hb1, hMe1⟩ := H1.out
  refine region_look (bb := bb) (gb := gb) (n := l.length) (cap := l.length) (i := i) (m1 := w.heap.size) (mb := mb + i) (f := bestR d (l.drop i)) (ao := ao) (nn := d.bl.length) (acap := cap) (d := d) (oo := oo) (oc := oc) (r := r) rfl rfl rfl rfl (cellsAt hMe1.hb 0) (hMe1.at_ hi) ha1 (hMe1.memo i hi) HZ.out.1 HZ.out.2.2 hi ?_
  intro vs w3 c so k3 cp ok pb3 e12 e10 hpb3 hb3 hC3 hm3
  simp only [List.foldl_cons, List.foldl_nil, e12, e10]
  have H3 := Hold.mk (And.intro (hm1.trans hm3) (And.intro (hm3.at ha1 id) (And.intro (hm3.at hb1 id) (And.intro (hMe1.mod hm3) hm3.size))))
  clear hm1 ha1 hMe1 e12 e10 p0 hne hW1
  cases ok with
  | true =>
    have c0 := cellsAt hb3 0; have c1 := cellsAt hb3 1
    have HC := Hold.mk (hC3 rfl)
    have hsz1 := at_ltS hb1
    clear hb1 hb3 hm3 hC3
    go_wp2_with (first
      | (refine wpList_store_row rfl 97 (.tmp 7) (.tmp 32) rfl (w.heap.size + 1) #[.int .i64 c, .slice so k3 cp] rfl rfl 97 _ H3.out.2.2.1 info97 rfl (by simp [Value.oneCell']) ?_; rw [setRow_put H3.out.2.2.1]))
    rw [Exit.noGoto_ret]
    obtain ⟨hm, ha, hb, hMe, _⟩ := H3.out
    have hm2 : Mod (fun k => k = w.heap.size + 1) w3 (w3.putObj (w.heap.size + 1) (.cells #[.int .i64 c, .slice so k3 cp] 97)) := (Mod.refl (fun k => k = w.heap.size + 1) w3).putObj (fun _ => rfl) _
    have hb2 : (w3.putObj (w.heap.size + 1) (.cells #[.int .i64 c, .slice so k3 cp] 97)).heap[w.heap.size + 1]? = some (.cells #[.int .i64 c, .slice so k3 cp] 97) := World.putObj_heap_same (at_ltS hb)
    exact bodyPost_ret (results_cell_row (fn := Tryd.f73) rfl _ _ (w.heap.size + 1) 97 _ (0, 0) _ rfl hb2 Tryd.underlying97 rfl info97) rfl
      ⟨(c, so, k3, cp), rfl, HC.out.modT hm2 (fun q hq cs hc => by rw [hq, hb] at hc; cases hc), hMe.modN hm2 (fun q hq => ⟨_, hq ▸ hb⟩), (hm.then hm2 (fun i h1 h2 => by omega)).wider (fun _ _ h => h.elim)⟩
  | false =>
    have HA := Hold.mk (fun w => allBlades_any ao cap d w HD.out.1)
    have hallI : (allS d : Int) < 32 := by have := HD.out.2.2.2.1; omega
    have hall0 : (0 : Int) ≤ (allS d : Int) := by omega
    obtain ⟨d0, d1, d2, d3, _⟩ := mt_cells H3.out.2.1
    have HI0 : Hold (LI B ao cap d oo oc l (some ⟨sb, off, none⟩) lcap lb bb fb gb mb (l.drop (i + 1)) s r w 0 (.slice none 0 0) w3) := ⟨by
      obtain ⟨hm, ha, hb, hMe, _⟩ := H3.out
      exact ⟨⟨[], ⟨rfl, .inl ⟨rfl, rfl⟩⟩, Match.nil⟩, ha, hb, hMe, hm.wider (fun _ _ h => h.elim), by have := at_ltS hb; omega⟩⟩
    clear hb1 hb3 hm3 hC3 hpb3
    go_wp2
    go_step3
    go_wp2_with (first
      | (go_at_call 69; refine (HA.out _).mono ?_; rintro e w4 ⟨rfl, hM4⟩; have HI := Hold.mk (HI0.out.later hM4); clear hM4 HI0))
    have HFIN := Hold.mk H3.out.2.2.2.2
    clear d0 d1 d2 d3 HA H3
    go_loopg [37, 10] (allS d + 1) (fun g s37 vA wr => ∃ k : Nat, k + g = allS d + 1 ∧ s37 = .int .i64 k ∧ LI B ao cap d oo oc l (some ⟨sb, off, none⟩) lcap lb bb fb gb mb (l.drop (i + 1)) s r w k vA wr)
    case atStart => exact ⟨0, by omega, rfl, HI.out⟩
    case round =>
      obtain ⟨k, hkg, rfl, hLI⟩ := hrel
      have HI := Hold.mk hLI
      clear hLI
      cases gk with
      | zero =>
        have hkz : ¬ ((k : Int) < (allS d : Int) + 1) := by omega
        go_wp2_with fail
        have hLI := HI.out
        obtain ⟨cs, ho, hma⟩ := hLI.ex
        have hk2 : k = 2 ^ d.bl.length := by have := two_pow_all d; omega
        obtain ⟨c1, L1, hL1⟩ : ∃ c1 L1, triesR d (l.drop (i + 1)) s r k = c1 :: L1 := by
          have hne := tries_full (ss := l.drop (i + 1)) (r := r) HS.out.2.1
          rw [← hk2] at hne
          exact List.exists_cons_of_ne_nil hne
        have hlen : cs.length ≤ k := by rw [hma.1]; exact tries_len
        cases cs with
        | nil =>
          have := hma.1
          rw [hL1] at this
          simp at this
        | cons x cs =>
          have hbest : bestR d (l.drop i) r = leastR (c1 :: L1) := by rw [HS.out.2.2.1, best_cons, ← hk2, hL1]
          have hm2 := hma
          rw [hL1] at hm2
          have hC := hm2.least
          rw [← hbest] at hC
          obtain ⟨y, hy⟩ : ∃ y, leastC x cs = y := ⟨_, rfl⟩
          apply region_least (base := w.heap.size + 2) (vA := u10) (x := x) (cs := cs) (hown := ho) (hsm := by simp at hlen; omega)
          · rfl
          · rfl
          intro vs2 w7 pb e6 hpb hb7 hm7
          rw [hy] at hb7 hC
          have hLI7 := hLI.later hm7
          have hC7 := hC.mod hm7
          simp only [List.foldl_cons, List.foldl_nil, e6, Act.put, List.setIfInBounds_toArray, List.set_cons_succ, List.set_cons_zero]
          go_wp2_with fail
          apply region_keep (bb := bb) (gb := gb) (n := l.length) (cap := l.length) (i := i) (m1 := w.heap.size) (mb := mb + i) (pb := pb) (f := bestR d (l.drop i)) (ao := ao) (nn := d.bl.length) (acap := cap) (d := d) (oo := oo) (oc := oc) (r := r) (y := y) (hbb := cellsAt hLI7.me.hb 0) (hgb := hLI7.me.at_ hi) (hm1 := hLI7.a) (hpb := hb7) (hM := hLI7.me.memo i hi) (hz := HZ.out.1) (hr := HZ.out.2.2) (hi := hi) (hC := hC7)
          · rfl
          · rfl
          · rfl
          · rfl
          · rfl
          intro vs3 w8 hM8 hm8
          have hin : InT mb l.length (mb + i) := ⟨by omega, by omega⟩
          have hMe8 := hLI7.me.put hi hM8 hm8
          have hb8 := hm8.at hb7 (fun e => hLI7.me.notc hb7 (e ▸ hin))
          have hz8 := hm8.at hLI7.z (fun e => hLI7.me.notc hLI7.z (e ▸ hin))
          have hC8 := hC7.modT hm8 (fun q hq cs' hc => hLI7.me.notc hc (hq ▸ hin))
          have hmm : Mod (InT mb l.length) w w8 := hLI7.m.then hm8 (fun q _ hq => hq ▸ hin)
          simp only [List.foldl_cons, List.foldl_nil, Act.put, List.setIfInBounds_toArray, List.set_cons_succ, List.set_cons_zero]
          have H8 := Hold.mk (And.intro hb8 (And.intro hz8 (And.intro hMe8 (And.intro hC8 hmm))))
          clear hMe8 hz8 hC8 hmm hm8 hM8 hLI7 hC7 hm7 hb7 hC hm2 hbest hlen hL1 hma ho hLI hpb e6 hk2 hy
          obtain ⟨yc, ya, yn, yk⟩ := y
          have e0 := cellsAt hb8 0; have e1 := cellsAt hb8 1
          clear hb8
          go_wp2_with (first
            | (refine wpList_store_row rfl 97 (.tmp 7) (.tmp 97) rfl (w.heap.size + 1) #[.int .i64 yc, .slice ya yn yk] rfl rfl 97 _ H8.out.2.1 info97 rfl (by simp [Value.oneCell']) ?_; rw [setRow_put H8.out.2.1]))
          try rw [Exit.noGoto_ret]
          obtain ⟨hb8, hz8, hMe8, hC8, hmm⟩ := H8.out
          have hm9 : Mod (fun k => k = w.heap.size + 1) w8 (w8.putObj (w.heap.size + 1) (.cells #[.int .i64 yc, .slice ya yn yk] 97)) := (Mod.refl (fun k => k = w.heap.size + 1) w8).putObj (fun _ => rfl) _
          have hb9 : (w8.putObj (w.heap.size + 1) (.cells #[.int .i64 yc, .slice ya yn yk] 97)).heap[w.heap.size + 1]? = some (.cells #[.int .i64 yc, .slice ya yn yk] 97) := World.putObj_heap_same (at_ltS hz8)
          exact bodyPost_ret (results_cell_row (fn := Tryd.f73) rfl _ _ (w.heap.size + 1) 97 _ (0, 0) _ rfl hb9 Tryd.underlying97 rfl info97) rfl
            ⟨(yc, ya, yn, yk), rfl, hC8.modT hm9 (fun q hq cs hc => by rw [hq, hz8] at hc; cases hc), hMe8.modN hm9 (fun q hq => ⟨_, hq ▸ hz8⟩), hmm.then hm9 (fun i h1 h2 => by omega)⟩
      | succ g =>
        have hkz : (k : Int) < (allS d : Int) + 1 := by omega
        have hk32 : k < 32 := by omega
        have HM1 : Hold (∀ W, Mod (InT mb l.length) w W → Mnt B W oo d ∧ StintsAt B W (some ⟨sb, off, none⟩) l) := ⟨fun W h => by
          have hlow := low_in h HM.out.1.le H1.out.2.2.2.le
          exact ⟨HM.out.1.low hlow, HM.out.2.low hlow⟩⟩
        have HBt : Hold (∀ W, Mod (InT mb l.length) w W → Calls Tryd.prog 50 #[mtV ao d.bl.length cap d oo oc r, .int .i64 k] W fun e w' => e = .returned (mtV ao d.bl.length cap d oo oc (bentR r k)) ∧ Mod noB W w') :=
          ⟨fun W h => bent_any ao d.bl.length cap d oo oc r k W hk32 (HM1.out W h).1.tab⟩
        have HV := Hold.mk (@mtC_info ao d.bl.length cap d oo oc (bentR r k))
        go_wp2_with (first
          | (refine wpList_load_row rfl 87 (.tmp 6) rfl w.heap.size rfl 87 _ (0, 0) _ HI.out.a Tryd.underlying87 rfl info87 ?_)
          | (go_at_call 50; refine (HBt.out _ HI.out.m).mono ?_; rintro e w5 ⟨rfl, hM5⟩; have HI5 := Hold.mk (HI.out.later hM5); clear hM5)
          | (refine wpList_store_row rfl 87 (.tmp 12) (.tmp 42) rfl w5.heap.size (mtC ao d.bl.length cap d oo oc (bentR r k)) rfl rfl 87 zeroM (World.alloc_heap_new _ _) info87 rfl HV.out.2.2 ?_
             rw [setRow_put (World.alloc_heap_new _ _)]
             have hb6 : ((w5.alloc (.cells zeroM 87)).putObj w5.heap.size (.cells (mtC ao d.bl.length cap d oo oc (bentR r k)) 87)).heap[w5.heap.size]? = some (.cells (mtC ao d.bl.length cap d oo oc (bentR r k)) 87) := World.putObj_heap_same (by simp)
             have hm6 : Mod noB w5 ((w5.alloc (.cells zeroM 87)).putObj w5.heap.size (.cells (mtC ao d.bl.length cap d oo oc (bentR r k)) 87)) := ((Mod.refl _ _).alloc _).putObj (fun h => by omega) _
             generalize (w5.alloc (.cells zeroM 87)).putObj w5.heap.size (.cells (mtC ao d.bl.length cap d oo oc (bentR r k)) 87) = W6 at *
             have HI6 := Hold.mk (And.intro (HI5.out.later hm6) hb6)
             have c0 := cellsAt hb6 0
             clear hb6 hm6 HI5))
        clear c0
        go_loopg [47] d.bl.length (fun g2 s47 wy => ∃ b : Nat, b + g2 = d.bl.length ∧ s47 = .int .i64 b ∧ (∀ b', b' < b → failsB d (bentR r k) b' s = false) ∧ Mod noB W6 wy)
        case atStart => exact ⟨0, by omega, rfl, fun b' h => absurd h (Nat.not_lt_zero _), Mod.refl _ _⟩
        case round =>
          obtain ⟨b, hbg, rfl, hnf, hmy⟩ := hrel
          have HNF := Hold.mk hnf
          have HMY := Hold.mk hmy
          have HI7 := Hold.mk (And.intro (HI6.out.1.later hmy) (hmy.at HI6.out.2 id))
          have hrb : RunB (1000 * i) (bentR r k) := HZ.out.2.1.bent (by omega) k
          have HRB := Hold.mk (And.intro hrb (hrb.mono (m' := 10000) (by omega)))
          clear hnf hmy hrb
          cases gk with
          | zero =>
            have hbz : ¬ ((b : Int) < (d.bl.length : Int)) := by omega
            have HF : Hold (failing d (bentR r k) s = none) := ⟨failing_iff.2 (fun b' hb' => HNF.out b' (by omega))⟩
            go_wp2_with fail
            obtain ⟨hLI, hm2⟩ := HI7.out
            obtain ⟨hMw, hSw⟩ := HM1.out _ hLI.m
            obtain ⟨sb', off', e, _, q0, q1⟩ := hSw.stint HS.out.2.2.2.1
            cases e
            have hr2 : RunB (1000 * (i + 1 : Nat)) (runR d (bentR r k) s) := by
              have hs1 : 0 ≤ s.1 ∧ s.1 ≤ 1000 := by
                have := HS.out.1
                simp only [stintB, fromB, Bool.and_eq_true, decide_eq_true_eq] at this
                omega
              exact (HRB.out.1.run d hs1).mono (by omega)
            have hz2 : Zer (runR d (bentR r k) s) := (HZ.out.1.bent k).run hn5 s
            refine region_next (sb := sb) (off := off) (lo := 0) (n := l.length) (cap := lcap) (i := i) (m2 := w5.heap.size) (lb := lb) (bb := bb) (fb := fb) (ao := ao) (acap := cap) (d := d) (oo := oo) (oc := oc) (r := bentR r k) (s := s) rfl rfl rfl rfl rfl (cellsAt hLI.me.hf 0) (cellsAt hLI.me.hl 0) q0 q1 hm2 HRB.out.2 HS.out.1 hn5 hi (by omega)
              (InT mb l.length) (fun v W => CrV (bestR d (l.drop (i + 1)) (runR d (bentR r k) s)) v W ∧ Memo B d l (some ⟨sb, off, none⟩) lcap lb bb fb gb mb W) (fun q hq => hLI.me.lt hq) ?_ ?_ ?_ ?_
            · rintro v wa wb q cs ⟨ha, hb⟩ _ hq hm
              exact ⟨ha.modT hm (fun q' hq' cs' hc => by rw [hq', hq] at hc; cases hc), hb.modN hm (fun q' hq' => ⟨_, hq' ▸ hq⟩)⟩
            · rintro v wa wb ⟨ha, hb⟩ hm
              exact ⟨ha.mod hm, hb.mod hm⟩
            · intro wa hma
              obtain ⟨hMa, hSa⟩ := HM1.out wa (hLI.m.then hma (fun _ _ h => h.elim))
              refine (HNN.out _ wa hz2 hr2 hMa hSa (hLI.me.mod hma)).mono ?_
              rintro e w' ⟨x, rfl, hc, hme, hmod⟩
              exact ⟨x.1, x.2.1, x.2.2.1, x.2.2.2, rfl, ⟨hc, hme⟩, hmod⟩
            · intro vs2 w7 c1 so1 k1 cp1 pb e10 hpb hb7 hR7 hm7
              obtain ⟨hC7, hMe7⟩ := hR7
              have hLI7 := hLI.called hm7 hMe7
              have hc1 : c1 = (bestR d (l.drop (i + 1)) (runR d (bentR r k) s)).1 := CrV.cost (x := (c1, so1, k1, cp1)) hC7
              obtain ⟨hbd, hbl⟩ := best_bd hn5 hstop hbend (l.drop (i + 1)) (runR d (bentR r k) s)
              have hdl : (l.drop (i + 1)).length ≤ 7 := by rw [List.length_drop]; omega
              have hC7' : CrV (c1, (bestR d (l.drop (i + 1)) (runR d (bentR r k) s)).2) (.agg #[.int .i64 c1, .slice so1 k1 cp1]) w7 := by
                rw [hc1]; rw [hc1] at hC7; exact hC7
              have hTab := (HM1.out _ hLI7.m).1.tab
              obtain ⟨cs, ho, hma⟩ := hLI7.ex
              have hcl : cs.length ≤ 100 := by
                have h1 := hma.1
                have h2 := @tries_len d (l.drop (i + 1)) s r k
                omega
              simp only [List.foldl_cons, List.foldl_nil, e10, Act.put, List.setIfInBounds_toArray, List.set_cons_succ, List.set_cons_zero]
              go_wp2_with fail
              have hc1b : 0 ≤ c1 ∧ c1 ≤ 1000000000 := by omega
              have hLb : (bestR d (l.drop (i + 1)) (runR d (bentR r k) s)).2.length ≤ 100 := by omega
              apply region_add (m1 := w.heap.size) (pb := pb) (set := k) (base := w.heap.size + 2) (na := cs.length) (vA := u10) (ao := ao) (nn := d.bl.length) (acap := cap) (d := d) (oo := oo) (oc := oc) (r := r) (c1 := c1) (so := so1) (k := k1) (cp := cp1) (L := (bestR d (l.drop (i + 1)) (runR d (bentR r k) s)).2) (xs := crL cs) (hown := ho) (hm1 := hLI7.a) (hpb := hb7) (hC := hC7') (hT := hTab) (hs := hk32) (hst := hstop) (hbe := hbend) (hc1 := hc1b) (hna := hcl) (hL := hLb) (hbase := hLI7.le)
              · rfl
              · rfl
              · rfl
              · rfl
              · rfl
              intro vs3 w8 v11 ho8 hC8 hm8
              have HN8 := Hold.mk (hLI7.yes HF.out hma ho (by rw [hc1]) ho8 hC8 hm8)
              simp only [List.foldl_cons, List.foldl_nil, Act.put, List.setIfInBounds_toArray, List.set_cons_succ, List.set_cons_zero]
              go_wp2_with fail
              go_roundg g
              case measure => omega
              case rel => exact ⟨k + 1, by omega, by go_num, HN8.out⟩
          | succ g2 =>
            have hbz : (b : Int) < (d.bl.length : Int) := by omega
            have hiI : (i : Int) < (l.length : Int) := by omega
            have hi0 : (0 : Int) ≤ (i : Int) := by omega
            obtain ⟨fb1, hfb⟩ : ∃ fb1, failsB d (bentR r k) b s = fb1 := ⟨_, rfl⟩
            have HFB := Hold.mk hfb
            have FIN : Hold (∀ W', Mod noB wr W' → (Mnt B W' oo d ∧ W'.heap[w5.heap.size]? = some (.cells (mtC ao d.bl.length cap d oo oc (bentR r k)) 87)) ∧ W'.cell? ⟨lb, 0, none⟩ = some (.slice (some ⟨sb, off, none⟩) l.length lcap) ∧ W'.cell? ⟨sb, off + i * 2, none⟩ = some (.int .i64 s.1) ∧ W'.cell? ⟨sb, off + i * 2 + 1, none⟩ = some (.int .i64 s.2)) := ⟨fun W' h => by
              have hLI := HI7.out.1.later h
              obtain ⟨hMw, hSw⟩ := HM1.out _ hLI.m
              obtain ⟨sb', off', e, _, q0, q1⟩ := hSw.stint HS.out.2.2.2.1
              cases e
              exact ⟨⟨hMw, h.at HI7.out.2 id⟩, cellsAt hLI.me.hl 0, q0, q1⟩⟩
            have HC : Hold (∀ W', Mod noB wr W' → Calls Tryd.prog 72 #[mtV ao d.bl.length cap d oo oc (bentR r k), .int .i64 b, spV s] W' fun e w' => e = .returned (.bool fb1) ∧ Mod noB W' w') := ⟨fun W' h => by
              rw [← HFB.out]
              exact fails_any B ao cap d oo oc (bentR r k) b s W' (FIN.out W' h).1.1 (by omega) HRB.out.2 HS.out.1⟩
            clear hfb
            obtain ⟨s1, s2⟩ := s
            go_wp2_with fail
            refine region_quietP (by kernel_rfl) (by kernel_rfl) (fun W' => Mod noB wr W') ((Mod.refl _ _).drew) ?_
            repeat
              (first
                | go_big_quiet_skip
                | (go_big_quiet_want
                   go_simp
                   first
                     | go_big_quiet_on
                     | (apply Exists.intro
                        refine ⟨fun W' hC => ?_, ?_⟩
                        · obtain ⟨⟨gm, gb5⟩, p0, q0, q1⟩ := FIN.out W' hC
                          obtain ⟨c0, c1, c2, c3, c4, c5, c6, c7, c8, c9⟩ := mt_cells gb5
                          first
                            | (go_at_call 72; (with_reducible refine (HC.out _ hC).mono ?_); exact fun e w'' he => ⟨he.1, hC.trans he.2⟩)
                            | with_reducible rfl
                            | (clear gm gb5; go_simp; first | rfl | exact ⟨rfl, rfl⟩)
                        go_big_quiet_on)
                     | (refine ⟨⟨_, fun _ _ => rfl⟩, ?_⟩; go_big_quiet_on)))
            refine wpQuiet_nil ?_
            intro Wq hq
            have HQ := Hold.mk (And.intro (HI7.out.1.later hq) (HMY.out.trans hq))
            clear hq
            cases fb1 with
            | true =>
              have HN8 := Hold.mk (HQ.out.1.no (failing_if (by omega) HFB.out))
              go_wp2_with fail
              go_roundg g
              case measure => omega
              case rel => exact ⟨k + 1, by omega, by go_num, HN8.out⟩
            | false =>
              go_wp2_with fail
              go_roundg g2
              case measure => omega
              case rel => exact ⟨b + 1, by omega, by go_num, fun b' h => (by
                by_cases hb' : b' < b
                · exact HNF.out b' hb'
                · obtain rfl : b' = b := by omega
                  exact HFB.out), HQ.out.2⟩
end Go.Proofs.YtdncppempgpooaaDoor

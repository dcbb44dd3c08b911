/- The document's side: Join. -/
import Derived.Test.YtogalmkeipigeaaJoin
set_option linter.unusedSimpArgs false
set_option linter.unusedVariables false
namespace Go.Proofs.Ytogalmkeipigeaa
open Go.RowKit

theorem own_slice {w : World} {base : Nat} {e : TypeId} {size : Nat} {v : Value} {n : Nat} {xs : List Value} (h : w.ownsRow base e size v n xs) : ∃ a c, v = .slice a n c := by
  obtain ⟨_, ⟨rfl, rfl⟩ | ⟨g, cap, cur, rfl, _⟩⟩ := h
  · exact ⟨_, _, rfl⟩
  · exact ⟨_, _, rfl⟩
theorem joinR_no {W H : Int} {zs : List Int} {a b : Int} (h : (checkR W H zs).2 ≠ 0) : joinR W H zs a b = ((0, 0, []), (checkR W H zs).2) := by unfold joinR; rw [if_pos h]
theorem joinR_yes {W H : Nat} {zs : List Int} {a b : Int} (h : (checkR W H zs).2 = 0) : joinR W H zs a b =
    if ¬ (0 ≤ a ∧ a < many zs) ∨ ¬ (0 ≤ b ∧ b < many zs) ∨ a = b then ((0, 0, []), 2) else if edgesTo (laidG W zs zs.length) W a b (H * W) = 0 then ((0, 0, []), 6) else (((W : Int), (H : Int), zs.map (jf (min a b) (max a b))), 0) := by
  unfold joinR
  rw [if_neg (fun h' => h' h)]
  split
  · rfl
  · rename_i h1
    rw [edgesTo_faced _ _ _ _ _ (fun e => h1 (.inr (.inr e.symm)))]
    rfl

theorem results_cut {fn : Func} (hf : fn.results = #[.cell 6 24, .tmp 7]) (tmps : Array Value) (w : World) (r : Nat) (cs : Array Value) (hp : tmps.getD 6 undef = .pointer (some ⟨r, 0, none⟩)) (hb : w.heap[r]? = some (.cells cs 24)) (hs : cs.size = 3) :
    (results fn tmps).run Try.prog w = .ok (.tuple #[.agg cs, tmps.getD 7 undef]) w :=
  results_row_tmp hf _ _ r _ _ hp hb Try.underlying24 rfl (by rw [hs]; kernel_rfl)
theorem cut_end {fn : Func} (hf : fn.results = #[.cell 6 24, .tmp 7]) {L : List Int} {n : Nat} (hL : L.length = n) {tmps : Array Value} {w Wj : World} {r : Nat} {x y z : Value} (e : Int) (hr : w.heap.size ≤ r) (h0 : Wj.heap[r]? = some (.cells #[x, y, z] 24)) (hM : Mod noB w Wj)
    (h6 : tmps.getD 6 undef = .pointer (some ⟨r, 0, none⟩)) (h7 : tmps.getD 7 undef = .int .i64 e) (W' H' : Int) (ao : Option Addr) (cap : Nat) (hI : IntsAt Wj ao L) (hn : ∀ b off, L ≠ [] → ao = some ⟨b, off, none⟩ → b ≠ r ∧ w.heap.size ≤ b) :
    bodyPost Try.prog fn (fun e' w' => JoinOut e' w w' ((W', H', L), e)) Exit.ret { tmps := tmps, defers := [] } (((Wj.setCell ⟨r, 0, none⟩ (.int .i64 W')).setCell ⟨r, 1, none⟩ (.int .i64 H')).setCell ⟨r, 2, none⟩ (.slice ao n cap)) := by
  subst hL
  obtain ⟨h1, h2, h3⟩ := cut_stored hM hr h0 (.int .i64 W') (.int .i64 H') (.slice ao L.length cap)
  refine bodyPost_ret (v := .tuple #[cutV W' H' ao L.length cap, .int .i64 e]) ((results_cut hf _ _ r _ h6 h1 rfl).trans (by rw [h7])) rfl ?_
  exact ⟨ao, cap, rfl, hI.mod h2 (fun b off hne e => (hn b off hne e).1), fun b off hne e => (hn b off hne e).2, h3⟩

set_option maxRecDepth 100000 in
set_option maxHeartbeats 4000000 in
theorem refJoin_no (W H : Int) (ao : Option Addr) (zs : List Int) (cap : Nat) (a b : Int) (w : World) (hs : IntsAt w ao zs) (h : (checkR W H zs).2 ≠ 0) :
    Calls Try.prog 28 #[cutV W H ao zs.length cap, .int .i64 a, .int .i64 b] w fun e w' => JoinOut e w w' (joinR W H zs a b) := by
  rw [joinR_no h]
  have HO := Hold.mk (refCheck_any W H ao zs cap _ ((hs.alloc (.cells #[.int .i64 W, .int .i64 H, .slice ao zs.length cap] 24)).alloc (.cells #[.int .i64 0, .int .i64 0, .slice none 0 0] 24)))
  have HM0 := Hold.mk (((Mod.refl noB w).alloc (.cells #[.int .i64 W, .int .i64 H, .slice ao zs.length cap] 24)).alloc (.cells #[.int .i64 0, .int .i64 0, .slice none 0 0] 24))
  have HB := Hold.mk (cut_facts (w := w) (W := W) (H := H) (ao := ao) (n := zs.length) (cap := cap))
  generalize (checkR W H zs).2 = e at *
  generalize (checkR W H zs).1 = e1 at *
  have he : (e != 0) = true := by simpa using h
  clear hs h
  go_enter Try.func28, Try.ntmps28
  go_wp2_with (go_at_call 15; refine HO.out.mono ?_; rintro e w1 ⟨rfl, hM1⟩; obtain ⟨r0, r1, r2, q0, q1, q2⟩ := resAt_of (HB.out _ hM1).2; have HM1 := Hold.mk hM1; clear hM1)
  exact cut_end rfl rfl _ (Nat.le_succ _) (HB.out _ HM1.out).2 (HM0.out.trans HM1.out) rfl rfl 0 0 none 0 ⟨fun h => absurd rfl h, Nat.zero_le _⟩ (fun _ _ h => absurd rfl h)

set_option maxRecDepth 100000 in
set_option maxHeartbeats 4000000 in
theorem refJoin_yes {W H : Nat} {zs : List Int} (C : CutN W H zs) (ao : Option Addr) (cap : Nat) (a b : Int) (w : World) (hs : IntsAt w ao zs) (h : (checkR W H zs).2 = 0) :
    Calls Try.prog 28 #[cutV W H ao zs.length cap, .int .i64 a, .int .i64 b] w fun e w' => JoinOut e w w' (joinR W H zs a b) := by
  rw [joinR_yes h]
  have HO := refCheck_any W H ao zs cap _ ((hs.alloc (.cells #[.int .i64 W, .int .i64 H, .slice ao zs.length cap] 24)).alloc (.cells #[.int .i64 0, .int .i64 0, .slice none 0 0] 24))
  rw [(checkR_ok h).2] at HO
  replace HO := Hold.mk HO
  have HI := Hold.mk hs
  have HC := Hold.mk C
  have HM0 := Hold.mk (((Mod.refl noB w).alloc (.cells #[.int .i64 W, .int .i64 H, .slice ao zs.length cap] 24)).alloc (.cells #[.int .i64 0, .int .i64 0, .slice none 0 0] 24))
  have HB := Hold.mk (cut_facts (w := w) (W := W) (H := H) (ao := ao) (n := zs.length) (cap := cap))
  have hN1 := C.many_le.1
  have hN2 := C.many_le.2
  obtain ⟨N, hN⟩ : ∃ N, many zs = N := ⟨_, rfl⟩
  rw [hN] at HO hN1 hN2 ⊢
  clear hs h hN C
  have hNi : (N : Int) ≤ 40 := by omega
  obtain ⟨va, hva⟩ : ∃ va, (decide (0 ≤ a) && decide (a ≤ (N : Int) - 1)) = va := ⟨_, rfl⟩
  obtain ⟨vb, hvb⟩ : ∃ vb, (decide (0 ≤ b) && decide (b ≤ (N : Int) - 1)) = vb := ⟨_, rfl⟩
  have Ha := Hold.mk hva
  have Hb := Hold.mk hvb
  have HA := Hold.mk (in_is a 0 ((N : Int) - 1) va hva)
  have HBb := Hold.mk (in_is b 0 ((N : Int) - 1) vb hvb)
  clear hva hvb
  cases va with
  | false =>
    rw [if_pos (.inl (fun h => by have := Ha.out; simp at this; omega))]
    clear Hb HBb
    go_enter Try.func28, Try.ntmps28
    go_wp2_with (first
      | (go_at_call 15; refine HO.out.mono ?_; rintro e w1 ⟨rfl, hM1⟩; obtain ⟨r0, r1, r2, q0, q1, q2⟩ := resAt_of (HB.out _ hM1).2; have HM1 := Hold.mk hM1; clear hM1)
      | (go_at_call 59; refine (HA.out _).mono ?_; rintro e w2 ⟨rfl, rfl⟩))
    exact cut_end rfl rfl _ (Nat.le_succ _) (HB.out _ HM1.out).2 (HM0.out.trans HM1.out) rfl rfl 0 0 none 0 ⟨fun h => absurd rfl h, Nat.zero_le _⟩ (fun _ _ h => absurd rfl h)
  | true =>
    have hab0 : 0 ≤ a ∧ a < N := by have := Ha.out; simp at this; omega
    by_cases hab : a = b
    · subst hab
      rw [if_pos (.inr (.inr rfl))]
      clear Hb HBb
      go_enter Try.func28, Try.ntmps28
      go_wp2_with (first
        | (go_at_call 15; refine HO.out.mono ?_; rintro e w1 ⟨rfl, hM1⟩; obtain ⟨r0, r1, r2, q0, q1, q2⟩ := resAt_of (HB.out _ hM1).2; have HM1 := Hold.mk hM1; clear hM1)
        | (go_at_call 59; refine (HA.out _).mono ?_; rintro e w2 ⟨rfl, rfl⟩))
      exact cut_end rfl rfl _ (Nat.le_succ _) (HB.out _ HM1.out).2 (HM0.out.trans HM1.out) rfl rfl 0 0 none 0 ⟨fun h => absurd rfl h, Nat.zero_le _⟩ (fun _ _ h => absurd rfl h)
    · have hb1 : (a == b) = false := by simpa using hab
      cases vb with
      | false =>
        rw [if_pos (.inr (.inl (fun h => by have := Hb.out; simp at this; omega)))]
        clear hb1 hab
        go_enter Try.func28, Try.ntmps28
        go_wp2_with (first
          | (go_at_call 15; refine HO.out.mono ?_; rintro e w1 ⟨rfl, hM1⟩; obtain ⟨r0, r1, r2, q0, q1, q2⟩ := resAt_of (HB.out _ hM1).2; have HM1 := Hold.mk hM1; clear hM1)
          | (go_at_call 59; refine (HA.out _).mono ?_; rintro e w2 ⟨rfl, rfl⟩; clear HA)
          | (go_at_call 59; refine (HBb.out _).mono ?_; rintro e w2 ⟨rfl, rfl⟩; clear HBb))
        exact cut_end rfl rfl _ (Nat.le_succ _) (HB.out _ HM1.out).2 (HM0.out.trans HM1.out) rfl rfl 0 0 none 0 ⟨fun h => absurd rfl h, Nat.zero_le _⟩ (fun _ _ h => absurd rfl h)
      | true =>
        have hbb0 : 0 ≤ b ∧ b < N := by have := Hb.out; simp at this; omega
        rw [if_neg (fun h => h.elim (fun h => h hab0) (fun h => h.elim (fun h => h hbb0) hab))]
        obtain ⟨n, hn⟩ : ∃ n : Nat, edgesTo (laidG W zs zs.length) W a b (H * W) = n := ⟨_, rfl⟩
        have HED : Hold (∀ w1, IntsAt w1 ao zs → Calls Try.prog 37 #[cutV W H ao zs.length cap, .int .i64 a, .int .i64 b] w1 fun e w' => e = .returned (.int .i64 n) ∧ Mod noB w1 w') := ⟨fun w1 h => by rw [← hn]; exact refEdges_any HC.out ao cap a b w1 h⟩
        rw [hn]
        clear hn
        by_cases hc : n = 0
        · have hcb : ((n : Int) == 0) = true := by simpa using hc
          rw [if_pos hc]
          clear hc
          go_enter Try.func28, Try.ntmps28
          go_wp2_with (first
            | (go_at_call 15; refine HO.out.mono ?_; rintro e w1 ⟨rfl, hM1⟩; obtain ⟨c0, c1, c2⟩ := cutAt_of (HB.out _ hM1).1; have HM1 := Hold.mk hM1; clear hM1)
            | (go_at_call 59; refine (HA.out _).mono ?_; rintro e w2 ⟨rfl, rfl⟩; clear HA)
            | (go_at_call 59; refine (HBb.out _).mono ?_; rintro e w2 ⟨rfl, rfl⟩; clear HBb)
            | (go_at_call 37; refine (HED.out _ (HI.out.mod (HM0.out.trans HM1.out) (fun _ _ _ _ h => h))).mono ?_; rintro e w2 ⟨rfl, hM2⟩; obtain ⟨r0, r1, r2, q0, q1, q2⟩ := resAt_of (HB.out _ (HM1.out.trans hM2)).2; have HM2 := Hold.mk hM2; clear hM2 c0 c1 c2))
          exact cut_end rfl rfl _ (Nat.le_succ _) (HB.out _ (HM1.out.trans HM2.out)).2 (HM0.out.trans (HM1.out.trans HM2.out)) rfl rfl 0 0 none 0 ⟨fun h => absurd rfl h, Nat.zero_le _⟩ (fun _ _ h => absurd rfl h)
        · have hcb : ((n : Int) == 0) = false := by simpa using hc
          rw [if_neg hc]
          clear hc
          have hl : (a < b ∧ ¬ b < a ∧ min a b = a ∧ max a b = b) ∨ (b < a ∧ ¬ a < b ∧ min a b = b ∧ max a b = a) := by omega
          rcases hl with ⟨l1, l2, l3, l4⟩ | ⟨l1, l2, l3, l4⟩
          · rw [l3, l4]
            clear l3 l4
            go_enter Try.func28, Try.ntmps28
            go_wp2_with (first
              | (go_at_call 15; refine HO.out.mono ?_; rintro e w1 ⟨rfl, hM1⟩; obtain ⟨c0, c1, c2⟩ := cutAt_of (HB.out _ hM1).1; have HM1 := Hold.mk hM1; clear hM1)
              | (go_at_call 59; refine (HA.out _).mono ?_; rintro e w2 ⟨rfl, rfl⟩; clear HA)
              | (go_at_call 59; refine (HBb.out _).mono ?_; rintro e w2 ⟨rfl, rfl⟩; clear HBb)
              | (go_at_call 37; refine (HED.out _ (HI.out.mod (HM0.out.trans HM1.out) (fun _ _ _ _ h => h))).mono ?_; rintro e w2 ⟨rfl, hM2⟩; obtain ⟨d0, d1, d2⟩ := cutAt_of (HB.out _ (HM1.out.trans hM2)).1; have HM2 := Hold.mk hM2; clear hM2 c0 c1 c2))
            clear HED HO d0 d1 d2 hcb hb1 Ha Hb
            obtain ⟨w5, hw5⟩ : ∃ w5, w2.alloc (.cells #[.int .i64 W, .int .i64 H, .slice none 0 0] 24) = w5 := ⟨_, rfl⟩
            have HM5 : Hold (Mod noB w2 w5) := ⟨by rw [← hw5]; exact (Mod.refl _ _).alloc _⟩
            have HB5 : Hold (w5.heap[w2.heap.size]? = some (.cells #[.int .i64 W, .int .i64 H, .slice none 0 0] 24)) := ⟨by rw [← hw5]; exact World.alloc_heap_new _ _⟩
            have hz5 : w5.heap.size = w2.heap.size + 1 := by rw [← hw5]; simp
            have HM2' := Hold.mk ((HM1.out.trans HM2.out).trans HM5.out)
            have hlt2 : w.heap.size + 2 ≤ w2.heap.size := by have := (HM1.out.trans HM2.out).size; simp only [World.size_alloc] at this; omega
            rw [hw5]
            clear hw5
            have hsm := HI.out.small
            go_loopw [11, 12] (fun i kk wr => ∃ k : Nat, k ≤ zs.length ∧ i = .int .i64 k ∧ ∃ v, wr.heap[w2.heap.size]? = some (.cells #[.int .i64 W, .int .i64 H, v] 24) ∧ wr.ownsRow w5.heap.size 3 1 v k (((zs.take k).map (jf a b)).map (Value.int .i64)) ∧ Mod (fun b => b = w2.heap.size) w5 wr) (fun i _ _ => zs.length - (intOf i).toNat)
            case atStart => exact ⟨0, Nat.zero_le _, rfl, _, HB5.out, World.ownsRow_nil _ _ _ _, Mod.refl _ _⟩
            case round =>
              obtain ⟨k, hk, rfl, v, hob, hown, hmr⟩ := hrel
              obtain ⟨hcb, hrb⟩ := HB.out w5 HM2'.out
              obtain ⟨c0, c1, c2⟩ := cutAt_of (hmr.at hcb (by omega))
              have hrr := hmr.at hrb (by omega)
              by_cases hlt : k < zs.length
              · obtain ⟨b', off, rfl, hbl, hc⟩ := HI.out.lies (fun e => by simp [e] at hlt)
                obtain ⟨z, hz⟩ : ∃ z, z = zs[k]?.getD 0 := ⟨_, rfl⟩
                have hcell : wr.cell? ⟨b', off + k, none⟩ = some (.int .i64 z) := by
                  rw [cell_same (hmr.block b' (by have := HM2'.out.size; simp only [World.size_alloc] at this; omega) (by omega)), cell_same ((HM0.out.trans HM2'.out).block b' hbl id), hc k hlt, hz]
                have hz01 : 0 ≤ z ∧ z < 40 := by rw [hz, List.getElem?_eq_getElem hlt]; exact HC.out.num _ (List.getElem_mem hlt)
                obtain ⟨hz1, hz2⟩ := hz01
                have HT : Hold (((zs.take (k + 1)).map (jf a b)).map (Value.int .i64) = ((zs.take k).map (jf a b)).map (Value.int .i64) ++ [.int .i64 (jf a b z)]) := ⟨by rw [take_snoc hlt, ← hz]; simp⟩
                have o2 : wr.cell? ⟨w2.heap.size, 2, none⟩ = some v := by simp [World.cell?, hob]
                have HOB := Hold.mk (And.intro hob (And.intro hown hmr))
                have hmz := hmr.size
                clear hc hob hown hmr hrr hcb hrb hz c0 c1
                have STEP : Hold (∀ q : Int, jf a b z = q → ∀ (j : Nat) (u : Value), [Value.int .i64 q][j]? = some u → (wr.alloc (.cells #[.int .i64 q] 3)).cell? (Addr.add ⟨wr.heap.size, 0, none⟩ j) = some u) := ⟨fun q _ j u hj => by
                  have hnw := World.alloc_heap_new wr (.cells #[.int .i64 q] 3)
                  have ea : Addr.add ⟨wr.heap.size, 0, none⟩ j = ⟨wr.heap.size, j, none⟩ := by simp [Addr.add]; omega
                  rw [ea]
                  simp only [World.cell?, hnw]
                  rcases j with _ | j
                  · simpa using hj
                  · simp at hj⟩
                have AFTER : Hold (∀ (q : Int) (v' : Value) (wa : World), jf a b z = q → wa.ownsRow w5.heap.size 3 1 v' (k + 1) (((zs.take k).map (jf a b)).map (Value.int .i64) ++ [.int .i64 q]) → (wr.alloc (.cells #[.int .i64 q] 3)).grownBy wa v.ownBlock →
                    wa.heap[w2.heap.size]? = some (.cells #[.int .i64 W, .int .i64 H, v] 24) ∧ ∃ v'', (wa.setCell ⟨w2.heap.size, 2, none⟩ v').heap[w2.heap.size]? = some (.cells #[.int .i64 W, .int .i64 H, v''] 24) ∧ (wa.setCell ⟨w2.heap.size, 2, none⟩ v').ownsRow w5.heap.size 3 1 v'' (k + 1) (((zs.take (k + 1)).map (jf a b)).map (Value.int .i64)) ∧ Mod (fun b => b = w2.heap.size) w5 (wa.setCell ⟨w2.heap.size, 2, none⟩ v')) := ⟨fun q v' wa hq hown' hgr => by
                  obtain ⟨hob, hown, hmr⟩ := HOB.out
                  have hm1 : Mod (fun b => w5.heap.size ≤ b) wr wa := ((Mod.refl _ wr).alloc _).trans (Mod.of_grownBy hgr (fun r hr _ => own_ge hown hr))
                  have hoba := hm1.at hob (by omega)
                  refine ⟨hoba, v', by have := setCell_at hoba 2 v'; simpa using this, ?_, ?_⟩
                  · rw [HT.out, hq]; exact ownsRow_setCell_below hown' (by show w2.heap.size < _; omega) _
                  · exact (hmr.then hm1 (fun i h1 h2 => absurd h1 (Nat.not_lt.2 h2))).setCell (p := ⟨w2.heap.size, 2, none⟩) (fun _ => rfl) _⟩
                obtain ⟨i0, hi, hz0, hz1', hz2'⟩ := info_parts info3
                by_cases d1 : z = b
                · have hb1 : (z == b) = true := by simpa using d1
                  have HJ : Hold (jf a b z = a) := ⟨by unfold jf; rw [if_pos d1]⟩
                  clear d1
                  go_wp2_with (at_builtin; refine wpList_append_own _ rfl (.tmp 79) (.tmp 81) 22 rfl w5.heap.size 3 i0 (.int .i64 0) 1 8 Try.underlying22 hi hz0 hz1' hz2' rfl (by decide) _ _ _ rfl (HOB.out.2.1.alloc _) ⟨wr.heap.size, 0, none⟩ 1 1 [.int .i64 a] rfl rfl (STEP.out _ HJ.out) (by simp [Value.oneCell']) (by unfold maxLen; omega) (by omega) (by simp; omega) ?_; intro v' wa hown' hgr _; obtain ⟨sa, sc, rfl⟩ := own_slice hown'; have HW := Hold.mk (AFTER.out _ _ wa HJ.out hown' hgr).2; have hoba := (AFTER.out _ _ wa HJ.out hown' hgr).1; have o2' : wa.cell? ⟨w2.heap.size, 2, none⟩ = some v := (by simp [World.cell?, hoba]); have q2' := cells_frozen hoba 2; clear hown' hgr hoba)
                  go_roundw
                  case rel => exact ⟨k + 1, by omega, by go_num, HW.out⟩
                  case measure => simp [intOf]; omega
                · have hb1 : (z == b) = false := by simpa using d1
                  by_cases d2 : b < z
                  · have HJ : Hold (jf a b z = z - 1) := ⟨by unfold jf; rw [if_neg d1, if_pos d2]⟩
                    clear d1
                    go_wp2_with (at_builtin; refine wpList_append_own _ rfl (.tmp 79) (.tmp 81) 22 rfl w5.heap.size 3 i0 (.int .i64 0) 1 8 Try.underlying22 hi hz0 hz1' hz2' rfl (by decide) _ _ _ rfl (HOB.out.2.1.alloc _) ⟨wr.heap.size, 0, none⟩ 1 1 [.int .i64 (z - 1)] rfl rfl (STEP.out _ HJ.out) (by simp [Value.oneCell']) (by unfold maxLen; omega) (by omega) (by simp; omega) ?_; intro v' wa hown' hgr _; obtain ⟨sa, sc, rfl⟩ := own_slice hown'; have HW := Hold.mk (AFTER.out _ _ wa HJ.out hown' hgr).2; have hoba := (AFTER.out _ _ wa HJ.out hown' hgr).1; have o2' : wa.cell? ⟨w2.heap.size, 2, none⟩ = some v := (by simp [World.cell?, hoba]); have q2' := cells_frozen hoba 2; clear hown' hgr hoba)
                    go_roundw
                    case rel => exact ⟨k + 1, by omega, by go_num, HW.out⟩
                    case measure => simp [intOf]; omega
                  · have HJ : Hold (jf a b z = z) := ⟨by unfold jf; rw [if_neg d1, if_neg d2]⟩
                    clear d1
                    go_wp2_with (at_builtin; refine wpList_append_own _ rfl (.tmp 79) (.tmp 81) 22 rfl w5.heap.size 3 i0 (.int .i64 0) 1 8 Try.underlying22 hi hz0 hz1' hz2' rfl (by decide) _ _ _ rfl (HOB.out.2.1.alloc _) ⟨wr.heap.size, 0, none⟩ 1 1 [.int .i64 z] rfl rfl (STEP.out _ HJ.out) (by simp [Value.oneCell']) (by unfold maxLen; omega) (by omega) (by simp; omega) ?_; intro v' wa hown' hgr _; obtain ⟨sa, sc, rfl⟩ := own_slice hown'; have HW := Hold.mk (AFTER.out _ _ wa HJ.out hown' hgr).2; have hoba := (AFTER.out _ _ wa HJ.out hown' hgr).1; have o2' : wa.cell? ⟨w2.heap.size, 2, none⟩ = some v := (by simp [World.cell?, hoba]); have q2' := cells_frozen hoba 2; clear hown' hgr hoba)
                    go_roundw
                    case rel => exact ⟨k + 1, by omega, by go_num, HW.out⟩
                    case measure => simp [intOf]; omega
              · obtain rfl : k = zs.length := by omega
                have o0 : wr.cell? ⟨w2.heap.size, 0, none⟩ = some (.int .i64 W) := by simp [World.cell?, hob]
                have o1 : wr.cell? ⟨w2.heap.size, 1, none⟩ = some (.int .i64 H) := by simp [World.cell?, hob]
                have o2 : wr.cell? ⟨w2.heap.size, 2, none⟩ = some v := by simp [World.cell?, hob]
                obtain ⟨r0, r1, r2, q0, q1, q2⟩ := resAt_of hrr
                rw [List.take_length] at hown
                obtain ⟨ao', cap', rfl, hI', hge'⟩ := ints_of_owns hown (by simp) (by simp; omega)
                have HFI := Hold.mk (And.intro hI' (And.intro hge' (And.intro hmr hrr)))
                clear hob hown hmr hI' hge' hrr hcb hrb c0 c1
                go_wp2
                obtain ⟨hI', hge', hmr, hrr⟩ := HFI.out
                refine cut_end rfl (by simp) _ (Nat.le_succ _) hrr ((HM0.out.trans HM2'.out).then hmr (fun i h1 h2 => by omega)) rfl rfl W H ao' cap' hI' (fun b off hne e => ?_)
                have := hge' b off hne e
                omega
          · rw [l3, l4]
            clear l3 l4
            go_enter Try.func28, Try.ntmps28
            go_wp2_with (first
              | (go_at_call 15; refine HO.out.mono ?_; rintro e w1 ⟨rfl, hM1⟩; obtain ⟨c0, c1, c2⟩ := cutAt_of (HB.out _ hM1).1; have HM1 := Hold.mk hM1; clear hM1)
              | (go_at_call 59; refine (HA.out _).mono ?_; rintro e w2 ⟨rfl, rfl⟩; clear HA)
              | (go_at_call 59; refine (HBb.out _).mono ?_; rintro e w2 ⟨rfl, rfl⟩; clear HBb)
              | (go_at_call 37; refine (HED.out _ (HI.out.mod (HM0.out.trans HM1.out) (fun _ _ _ _ h => h))).mono ?_; rintro e w2 ⟨rfl, hM2⟩; obtain ⟨d0, d1, d2⟩ := cutAt_of (HB.out _ (HM1.out.trans hM2)).1; have HM2 := Hold.mk hM2; clear hM2 c0 c1 c2))
            clear HED HO d0 d1 d2 hcb hb1 Ha Hb
            obtain ⟨w5, hw5⟩ : ∃ w5, w2.alloc (.cells #[.int .i64 W, .int .i64 H, .slice none 0 0] 24) = w5 := ⟨_, rfl⟩
            have HM5 : Hold (Mod noB w2 w5) := ⟨by rw [← hw5]; exact (Mod.refl _ _).alloc _⟩
            have HB5 : Hold (w5.heap[w2.heap.size]? = some (.cells #[.int .i64 W, .int .i64 H, .slice none 0 0] 24)) := ⟨by rw [← hw5]; exact World.alloc_heap_new _ _⟩
            have hz5 : w5.heap.size = w2.heap.size + 1 := by rw [← hw5]; simp
            have HM2' := Hold.mk ((HM1.out.trans HM2.out).trans HM5.out)
            have hlt2 : w.heap.size + 2 ≤ w2.heap.size := by have := (HM1.out.trans HM2.out).size; simp only [World.size_alloc] at this; omega
            rw [hw5]
            clear hw5
            have hsm := HI.out.small
            go_loopw [11, 12] (fun i kk wr => ∃ k : Nat, k ≤ zs.length ∧ i = .int .i64 k ∧ ∃ v, wr.heap[w2.heap.size]? = some (.cells #[.int .i64 W, .int .i64 H, v] 24) ∧ wr.ownsRow w5.heap.size 3 1 v k (((zs.take k).map (jf b a)).map (Value.int .i64)) ∧ Mod (fun b => b = w2.heap.size) w5 wr) (fun i _ _ => zs.length - (intOf i).toNat)
            case atStart => exact ⟨0, Nat.zero_le _, rfl, _, HB5.out, World.ownsRow_nil _ _ _ _, Mod.refl _ _⟩
            case round =>
              obtain ⟨k, hk, rfl, v, hob, hown, hmr⟩ := hrel
              obtain ⟨hcb, hrb⟩ := HB.out w5 HM2'.out
              obtain ⟨c0, c1, c2⟩ := cutAt_of (hmr.at hcb (by omega))
              have hrr := hmr.at hrb (by omega)
              by_cases hlt : k < zs.length
              · obtain ⟨b', off, rfl, hbl, hc⟩ := HI.out.lies (fun e => by simp [e] at hlt)
                obtain ⟨z, hz⟩ : ∃ z, z = zs[k]?.getD 0 := ⟨_, rfl⟩
                have hcell : wr.cell? ⟨b', off + k, none⟩ = some (.int .i64 z) := by
                  rw [cell_same (hmr.block b' (by have := HM2'.out.size; simp only [World.size_alloc] at this; omega) (by omega)), cell_same ((HM0.out.trans HM2'.out).block b' hbl id), hc k hlt, hz]
                have hz01 : 0 ≤ z ∧ z < 40 := by rw [hz, List.getElem?_eq_getElem hlt]; exact HC.out.num _ (List.getElem_mem hlt)
                obtain ⟨hz1, hz2⟩ := hz01
                have HT : Hold (((zs.take (k + 1)).map (jf b a)).map (Value.int .i64) = ((zs.take k).map (jf b a)).map (Value.int .i64) ++ [.int .i64 (jf b a z)]) := ⟨by rw [take_snoc hlt, ← hz]; simp⟩
                have o2 : wr.cell? ⟨w2.heap.size, 2, none⟩ = some v := by simp [World.cell?, hob]
                have HOB := Hold.mk (And.intro hob (And.intro hown hmr))
                have hmz := hmr.size
                clear hc hob hown hmr hrr hcb hrb hz c0 c1
                have STEP : Hold (∀ q : Int, jf b a z = q → ∀ (j : Nat) (u : Value), [Value.int .i64 q][j]? = some u → (wr.alloc (.cells #[.int .i64 q] 3)).cell? (Addr.add ⟨wr.heap.size, 0, none⟩ j) = some u) := ⟨fun q _ j u hj => by
                  have hnw := World.alloc_heap_new wr (.cells #[.int .i64 q] 3)
                  have ea : Addr.add ⟨wr.heap.size, 0, none⟩ j = ⟨wr.heap.size, j, none⟩ := by simp [Addr.add]; omega
                  rw [ea]
                  simp only [World.cell?, hnw]
                  rcases j with _ | j
                  · simpa using hj
                  · simp at hj⟩
                have AFTER : Hold (∀ (q : Int) (v' : Value) (wa : World), jf b a z = q → wa.ownsRow w5.heap.size 3 1 v' (k + 1) (((zs.take k).map (jf b a)).map (Value.int .i64) ++ [.int .i64 q]) → (wr.alloc (.cells #[.int .i64 q] 3)).grownBy wa v.ownBlock →
                    wa.heap[w2.heap.size]? = some (.cells #[.int .i64 W, .int .i64 H, v] 24) ∧ ∃ v'', (wa.setCell ⟨w2.heap.size, 2, none⟩ v').heap[w2.heap.size]? = some (.cells #[.int .i64 W, .int .i64 H, v''] 24) ∧ (wa.setCell ⟨w2.heap.size, 2, none⟩ v').ownsRow w5.heap.size 3 1 v'' (k + 1) (((zs.take (k + 1)).map (jf b a)).map (Value.int .i64)) ∧ Mod (fun b => b = w2.heap.size) w5 (wa.setCell ⟨w2.heap.size, 2, none⟩ v')) := ⟨fun q v' wa hq hown' hgr => by
                  obtain ⟨hob, hown, hmr⟩ := HOB.out
                  have hm1 : Mod (fun b => w5.heap.size ≤ b) wr wa := ((Mod.refl _ wr).alloc _).trans (Mod.of_grownBy hgr (fun r hr _ => own_ge hown hr))
                  have hoba := hm1.at hob (by omega)
                  refine ⟨hoba, v', by have := setCell_at hoba 2 v'; simpa using this, ?_, ?_⟩
                  · rw [HT.out, hq]; exact ownsRow_setCell_below hown' (by show w2.heap.size < _; omega) _
                  · exact (hmr.then hm1 (fun i h1 h2 => absurd h1 (Nat.not_lt.2 h2))).setCell (p := ⟨w2.heap.size, 2, none⟩) (fun _ => rfl) _⟩
                obtain ⟨i0, hi, hz0, hz1', hz2'⟩ := info_parts info3
                by_cases d1 : z = a
                · have hb1 : (z == a) = true := by simpa using d1
                  have HJ : Hold (jf b a z = b) := ⟨by unfold jf; rw [if_pos d1]⟩
                  clear d1
                  go_wp2_with (at_builtin; refine wpList_append_own _ rfl (.tmp 79) (.tmp 81) 22 rfl w5.heap.size 3 i0 (.int .i64 0) 1 8 Try.underlying22 hi hz0 hz1' hz2' rfl (by decide) _ _ _ rfl (HOB.out.2.1.alloc _) ⟨wr.heap.size, 0, none⟩ 1 1 [.int .i64 b] rfl rfl (STEP.out _ HJ.out) (by simp [Value.oneCell']) (by unfold maxLen; omega) (by omega) (by simp; omega) ?_; intro v' wa hown' hgr _; obtain ⟨sa, sc, rfl⟩ := own_slice hown'; have HW := Hold.mk (AFTER.out _ _ wa HJ.out hown' hgr).2; have hoba := (AFTER.out _ _ wa HJ.out hown' hgr).1; have o2' : wa.cell? ⟨w2.heap.size, 2, none⟩ = some v := (by simp [World.cell?, hoba]); have q2' := cells_frozen hoba 2; clear hown' hgr hoba)
                  go_roundw
                  case rel => exact ⟨k + 1, by omega, by go_num, HW.out⟩
                  case measure => simp [intOf]; omega
                · have hb1 : (z == a) = false := by simpa using d1
                  by_cases d2 : a < z
                  · have HJ : Hold (jf b a z = z - 1) := ⟨by unfold jf; rw [if_neg d1, if_pos d2]⟩
                    clear d1
                    go_wp2_with (at_builtin; refine wpList_append_own _ rfl (.tmp 79) (.tmp 81) 22 rfl w5.heap.size 3 i0 (.int .i64 0) 1 8 Try.underlying22 hi hz0 hz1' hz2' rfl (by decide) _ _ _ rfl (HOB.out.2.1.alloc _) ⟨wr.heap.size, 0, none⟩ 1 1 [.int .i64 (z - 1)] rfl rfl (STEP.out _ HJ.out) (by simp [Value.oneCell']) (by unfold maxLen; omega) (by omega) (by simp; omega) ?_; intro v' wa hown' hgr _; obtain ⟨sa, sc, rfl⟩ := own_slice hown'; have HW := Hold.mk (AFTER.out _ _ wa HJ.out hown' hgr).2; have hoba := (AFTER.out _ _ wa HJ.out hown' hgr).1; have o2' : wa.cell? ⟨w2.heap.size, 2, none⟩ = some v := (by simp [World.cell?, hoba]); have q2' := cells_frozen hoba 2; clear hown' hgr hoba)
                    go_roundw
                    case rel => exact ⟨k + 1, by omega, by go_num, HW.out⟩
                    case measure => simp [intOf]; omega
                  · have HJ : Hold (jf b a z = z) := ⟨by unfold jf; rw [if_neg d1, if_neg d2]⟩
                    clear d1
                    go_wp2_with (at_builtin; refine wpList_append_own _ rfl (.tmp 79) (.tmp 81) 22 rfl w5.heap.size 3 i0 (.int .i64 0) 1 8 Try.underlying22 hi hz0 hz1' hz2' rfl (by decide) _ _ _ rfl (HOB.out.2.1.alloc _) ⟨wr.heap.size, 0, none⟩ 1 1 [.int .i64 z] rfl rfl (STEP.out _ HJ.out) (by simp [Value.oneCell']) (by unfold maxLen; omega) (by omega) (by simp; omega) ?_; intro v' wa hown' hgr _; obtain ⟨sa, sc, rfl⟩ := own_slice hown'; have HW := Hold.mk (AFTER.out _ _ wa HJ.out hown' hgr).2; have hoba := (AFTER.out _ _ wa HJ.out hown' hgr).1; have o2' : wa.cell? ⟨w2.heap.size, 2, none⟩ = some v := (by simp [World.cell?, hoba]); have q2' := cells_frozen hoba 2; clear hown' hgr hoba)
                    go_roundw
                    case rel => exact ⟨k + 1, by omega, by go_num, HW.out⟩
                    case measure => simp [intOf]; omega
              · obtain rfl : k = zs.length := by omega
                have o0 : wr.cell? ⟨w2.heap.size, 0, none⟩ = some (.int .i64 W) := by simp [World.cell?, hob]
                have o1 : wr.cell? ⟨w2.heap.size, 1, none⟩ = some (.int .i64 H) := by simp [World.cell?, hob]
                have o2 : wr.cell? ⟨w2.heap.size, 2, none⟩ = some v := by simp [World.cell?, hob]
                obtain ⟨r0, r1, r2, q0, q1, q2⟩ := resAt_of hrr
                rw [List.take_length] at hown
                obtain ⟨ao', cap', rfl, hI', hge'⟩ := ints_of_owns hown (by simp) (by simp; omega)
                have HFI := Hold.mk (And.intro hI' (And.intro hge' (And.intro hmr hrr)))
                clear hob hown hmr hI' hge' hrr hcb hrb c0 c1
                go_wp2
                obtain ⟨hI', hge', hmr, hrr⟩ := HFI.out
                refine cut_end rfl (by simp) _ (Nat.le_succ _) hrr ((HM0.out.trans HM2'.out).then hmr (fun i h1 h2 => by omega)) rfl rfl W H ao' cap' hI' (fun b off hne e => ?_)
                have := hge' b off hne e
                omega
end Go.Proofs.Ytogalmkeipigeaa

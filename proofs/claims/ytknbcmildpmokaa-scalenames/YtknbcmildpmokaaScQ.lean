/- fitting: the walk. -/
import Derived.Test.YtknbcmildpmokaaScP
set_option linter.unusedSimpArgs false
set_option linter.unusedVariables false
namespace Go.Proofs.Ytknbcmildpmokaa
open Go.RowKit Go.Shelf


attribute [local go_sem] Oper.semAt_some

theorem flatMap_len {α β : Type} {c : Nat} (f : α → List β) : ∀ (l : List α), (∀ x ∈ l, (f x).length ≤ c) → (l.flatMap f).length ≤ l.length * c := by
  intro l
  induction l with
  | nil => intro _; simp
  | cons x l ih =>
    intro h
    rw [List.flatMap_cons, List.length_append, List.length_cons, Nat.succ_mul]
    have := h x (by simp)
    have := ih (fun y hy => h y (by simp [hy]))
    omega
theorem fillL_len : ∀ (ks : List Knd) (l e : Int), 0 ≤ l → l ≤ 4 → 0 ≤ e → e ≤ 3 → (∀ k ∈ ks, 0 ≤ k.many) → (fillL ks l e).length ≤ 8 ^ ks.length := by
  intro ks
  induction ks with
  | nil => intro l e _ _ _ _ _; simp [fillL]
  | cons k ks ih =>
    intro l e h1 h2 h3 h4 hk
    have hk0 := hk k (by simp)
    have := flatMap_len (c := 8 ^ ks.length) (fun n => (fillL ks (l + min n 0) (e - max n 0)).map (n :: ·)) (ints (-(min l k.many)) e) (fun z hz => by
      unfold ints at hz
      obtain ⟨i, hi, rfl⟩ := List.mem_map.1 hz
      have hi' := List.mem_range.1 hi
      rw [List.length_map]
      exact ih _ _ (by omega) (by omega) (by omega) (by omega) (fun q hq => hk q (by simp [hq])))
    have hl : (ints (-(min l k.many)) e).length ≤ 8 := by unfold ints; rw [List.length_map, List.length_range]; omega
    rw [fillL, List.length_cons, Nat.pow_succ, Nat.mul_comm]
    exact Nat.le_trans this (Nat.mul_le_mul_right _ hl)
theorem allL_len {b : Bx} (hb : boxB b = true) : (allL b).length ≤ 4096 := by
  have hks := boxB_ks hb
  have := fillL_len b.ks b.lost b.extra hks.2.2.2.2.1.1 hks.2.2.2.2.1.2 hks.2.2.2.2.2.1 hks.2.2.2.2.2.2 (fun k hk => (hks.2.2.1 k hk).1)
  have h8 : 8 ^ b.ks.length ≤ 8 ^ 4 := Nat.pow_le_pow_right (by decide) hks.2.1
  have : (allL b).length ≤ 8 ^ b.ks.length := this
  omega
/-- What fitting returns: two lists of its own. -/
def FitOut (L1 L2 : List (List Int)) (w : World) (e : Ending) (w' : World) : Prop :=
  ∃ v1 v2, e = .returned (.tuple #[v1, v2]) ∧ w'.ownsRow w.heap.size 77 4 v1 L1.length (flatC liC L1) ∧ w'.ownsRow w.heap.size 77 4 v2 L2.length (flatC liC L2) ∧ (∀ r, v1.ownBlock = some r → v2.ownBlock ≠ some r) ∧ Mod noB w w'
def c1B (b : Bx) (l : List Rdg) (has : List Int) : Bool := fitsB b l has && wholeB has
def c2B (b : Bx) (l : List Rdg) (has : List Int) : Bool := fitsB b l has && !wholeB has
/-- What is said between two rounds. -/
def FtI (B : Nat) (w : World) (ao : Option Addr) (cap : Nat) (b : Bx) (ro : Option Addr) (rcap : Nat) (l : List Rdg) (pre : List (List Int)) (W : World) : Prop :=
  ∃ n1 n2 v1 v2, FtS B w ao cap b ro rcap l (pre.filter (c1B b l)) (pre.filter (c2B b l)) n1 n2 v1 v2 W

theorem results49 {tmps : Array Value} {W : World} {b4 b5 : Nat} {a1 a2 : Option Addr} {n1 n2 c1 c2 : Nat} (h4 : tmps.getD 4 undef = .pointer (some ⟨b4, 0, none⟩)) (h5 : tmps.getD 5 undef = .pointer (some ⟨b5, 0, none⟩))
    (k4 : W.heap[b4]? = some (.cells #[.slice a1 n1 c1] 85)) (k5 : W.heap[b5]? = some (.cells #[.slice a2 n2 c2] 85)) : (results Try.f49 tmps).run Try.prog W = .ok (.tuple #[.slice a1 n1 c1, .slice a2 n2 c2]) W := by
  have c4 := cellsAt k4 0
  have c5 := cellsAt k5 0
  have h4' : tmps[4]?.getD undef = .pointer (some ⟨b4, 0, none⟩) := by simpa using h4
  have h5' : tmps[5]?.getD undef = .pointer (some ⟨b5, 0, none⟩) := by simpa using h5
  simp [results, Try.results49, go_sem, *]
theorem set_id {W : World} {b : Nat} {v : Value} {t : TypeId} (h : W.heap[b]? = some (.cells #[v] t)) : Mod noB W (W.setCell ⟨b, 0, none⟩ v) := by
  have hm : Mod (fun k => k = b) W (W.setCell ⟨b, 0, none⟩ v) := (Mod.refl (fun k => k = b) W).setCell (p := ⟨b, 0, none⟩) (fun _ => rfl) v
  refine ⟨hm.os, hm.tape, hm.output, hm.size, fun k hk _ => ?_⟩
  by_cases e : k = b
  · subst e
    rw [setCell_at h 0, h]; rfl
  · exact hm.block k hk e

set_option maxRecDepth 100000 in
set_option maxHeartbeats 8000000 in
theorem fitting_any (B : Nat) (ao ro : Option Addr) (cap rcap : Nat) (b : Bx) (l : List Rdg) (w : World) (hB : B ≤ w.heap.size) (hb : boxB b = true) (ht : ∀ r ∈ l, testB b.ks.length r.t = true) (hs : KindsAt B w ao b.ks) (hr : ReadsAt B w ro l) :
    Calls Try.prog 49 #[bxV ao b.ks.length cap b, .slice ro l.length rcap] w (FitOut (completeL b l) (othersL b l) w) := by
  obtain ⟨i0, hi, hz0, hz1, hz2⟩ := info_parts info77
  obtain ⟨W1, hW1⟩ : ∃ W1, allocL w [.cells (bxC ao b.ks.length cap b) 26, .cells #[.slice ro l.length rcap] 30, .cells #[.slice none 0 0] 85, .cells #[.slice none 0 0] 85, .cells (bxC ao b.ks.length cap b) 26] = W1 := ⟨_, rfl⟩
  have hM1 : Mod noB w W1 := by rw [← hW1]; exact allocL_mod _ _ _
  have hsz1 : W1.heap.size = w.heap.size + 5 := by rw [← hW1]; exact allocL_size _ _
  have a0 : W1.heap[w.heap.size]? = some (.cells (bxC ao b.ks.length cap b) 26) := by rw [← hW1]; exact allocL_at _ w 0 _ rfl
  have a1 : W1.heap[w.heap.size + 1]? = some (.cells #[.slice ro l.length rcap] 30) := by rw [← hW1]; exact allocL_at _ w 1 _ rfl
  have a2 : W1.heap[w.heap.size + 1 + 1]? = some (.cells #[.slice none 0 0] 85) := by rw [← hW1]; exact allocL_at _ w 2 _ rfl
  have a3 : W1.heap[w.heap.size + 1 + 1 + 1]? = some (.cells #[.slice none 0 0] 85) := by rw [← hW1]; exact allocL_at _ w 3 _ rfl
  have a4 : W1.heap[w.heap.size + 1 + 1 + 1 + 1]? = some (.cells (bxC ao b.ks.length cap b) 26) := by rw [← hW1]; exact allocL_at _ w 4 _ rfl
  have hs1 := hs.low (Low.ofN hM1 hB)
  have hr1 := hr.low (Low.ofN hM1 hB)
  have hI0 : FtI B w ao cap b ro rcap l [] W1 := ⟨0, 0, _, _, ⟨a0, hs1⟩, a1, hr1, a2, a3, ⟨rfl, .inl ⟨rfl, rfl⟩⟩, ⟨rfl, .inl ⟨rfl, rfl⟩⟩, (fun r h => by cases h), rfl, rfl, by omega, hM1⟩
  have hrun := lists_runs B (w.heap.size + 1 + 1 + 1 + 1) ao cap b W1 hb (by omega) ⟨a4, hs1⟩
  have HC := Hold.mk (fun (W : World) (x : List Int) (hx : x ∈ allL b) (hh : KindsAt B W ao b.ks) (hh2 : ReadsAt B W ro l) (hz : B ≤ W.heap.size) => fits_any B ao ro cap rcap b l x W hz hb ht hh hh2 (allL_mem hb hx).1 (fun n hn => by have := (allL_mem hb hx).2 n hn; omega))
  have HIC := Hold.mk (fun (W : World) (x : List Int) (hx : x ∈ allL b) => isComplete_any x W (by rw [(allL_mem hb hx).1]; exact (boxB_ks hb).2.1))
  have HN := Hold.mk (allL_len hb)
  have HB := Hold.mk hB
  clear a0 a1 a2 a3 a4 hs hr hs1 hr1 ht
  refine callsIn_wide (n := 3) |>.1 ?_
  refine callsIn_of_wp_marks Try.func49 rfl trivial ?_ rfl
  simp only [Try.ntmps49, List.size_toArray, List.length_cons, List.length_nil, Nat.reduceAdd, Nat.reduceSub, Array.replicate_succ, Array.replicate_zero, List.push_toArray, List.append_toArray, List.nil_append, List.cons_append]
  gi_wp2_with (refine ⟨trivial, ?_⟩; gi_at_call 68; refine (callsIn_wide.2 (lists_any _ _ _ b _)).mono ?_; rintro e w' ⟨rfl, rfl⟩)
  have hW1' : ((((w.alloc (.cells (bxC ao b.ks.length cap b) 26)).alloc (.cells #[.slice ro l.length rcap] 30)).alloc (.cells #[.slice none 0 0] 85)).alloc (.cells #[.slice none 0 0] 85)).alloc (.cells (bxC ao b.ks.length cap b) 26) = W1 := hW1
  (try simp only [World.size_alloc])
  rw [hW1']
  clear hW1 hW1'
  refine range_plainB (gf := 81) (lb := #[.pointer (some ⟨w.heap.size + 1 + 1 + 1 + 1, 0, none⟩)]) rfl rfl enter81 hrun
    (by rintro k (h | h) <;> omega) (fun k => (k = w.heap.size + 1 + 1 ∨ k = w.heap.size + 1 + 1 + 1) ∨ w.heap.size + 5 + 2 + 3 ≤ k) (by rintro k ((h | h) | h) <;> exact ⟨by omega, by omega⟩)
    (FtI B w ao cap b ro rcap l) (fun _ _ _ => False)
    (fun s A A' h hg => by
      obtain ⟨n1, n2, v1, v2, h⟩ := h
      exact ⟨n1, n2, v1, v2, h.turn hB (hg.wider (fun i _ hk => by omega))⟩)
    (fun _ _ _ _ h _ => h) hI0
    (some (77, fun x => liC x))
    (fun Bx x => { tmps := #[bxV ao b.ks.length cap b, .slice ro l.length rcap, .pointer (some ⟨w.heap.size, 0, none⟩), .pointer (some ⟨w.heap.size + 1, 0, none⟩), .pointer (some ⟨w.heap.size + 1 + 1, 0, none⟩), .pointer (some ⟨w.heap.size + 1 + 1 + 1, 0, none⟩), .pointer (some ⟨Bx, 0, none⟩), bxV ao b.ks.length cap b,
      .func (.func 81) #[] #[.pointer (some ⟨w.heap.size + 1 + 1 + 1 + 1, 0, none⟩)], liV x, undef, undef, undef, undef, undef, undef, undef, undef, undef, undef, undef, undef, undef, undef, undef, undef, undef, undef, undef], defers := [] })
    ?assign ?body ?done ?stop
  case assign =>
    intro l x W K hK
    gi_wp2
    exact hK
  case body =>
    rintro l2 pre x rest a' Wr hL hl2 hr2 hzr hI ⟨Bx, hBx, hbx, rfl⟩
    obtain ⟨n1, n2, v1, v2, hS⟩ := hI
    have hx : x ∈ allL b := by rw [hL]; simp
    have hpl : pre.length ≤ 4096 := by have := HN.out; rw [hL, List.length_append] at this; omega
    have hn1 : n1 ≤ 4096 := by rw [hS.e1]; exact Nat.le_trans (List.length_filter_le _ _) hpl
    have hn2 : n2 ≤ 4096 := by rw [hS.e2]; exact Nat.le_trans (List.length_filter_le _ _) hpl
    have HF : Hold (Kept Wr (fun W => FtS B w ao cap b ro rcap l (pre.filter (c1B b l)) (pre.filter (c2B b l)) n1 n2 v1 v2 W ∧ W.heap[Bx]? = some (.cells (liC x) 77) ∧ w.heap.size + 10 ≤ W.heap.size)) := ⟨fun W h => ⟨hS.mod HB.out h, h.at hbx id, by have := h.size; omega⟩⟩
    obtain ⟨vf, hvf⟩ : ∃ v, fitsB b l x = v := ⟨_, rfl⟩
    obtain ⟨vw, hvw⟩ : ∃ v, wholeB x = v := ⟨_, rfl⟩
    have H69 : Hold (∀ W, Mod noB Wr W → Calls Try.prog 69 #[bxV ao b.ks.length cap b, .slice ro l.length rcap, liV x] W fun e w' => e = .returned (.bool vf) ∧ Mod noB W w') := ⟨fun W h => by
      rw [← hvf]
      have g := (HF.out W h).1
      exact HC.out W x hx g.b.k g.ra (Nat.le_trans HB.out g.m.size)⟩
    have H70 : Hold (∀ W, Calls Try.prog 70 #[liV x] W fun e w' => e = .returned (.bool vw) ∧ Mod noB W w') := ⟨fun W => by rw [← hvw]; exact HIC.out W x hx⟩
    have HV := Hold.mk (And.intro hvf hvw)
    have HL := Hold.mk (And.intro hL hl2)
    obtain ⟨b0, b1, b2, b3, b4⟩ := HF.out.now.1.b.cells
    have r0 := cellsAt HF.out.now.1.r 0
    obtain ⟨x0, x1, x2, x3⟩ := li_cells HF.out.now.2.1
    clear hr2 hS hbx hvf hvw hx hpl hrun hI0 hM1 hL hb hzr
    have A69 : True := trivial
    cases vf with
    | false =>
      gi_wp2_with (first
        | (refine ⟨trivial, ?_⟩; gi_at_call 69; refine (CallsIn.inRound l2 (callsIn_wide.2 (H69.out _ (Mod.refl _ _)))).mono ?_; rintro e w2 ⟨rfl, hM⟩; have HM2 := Hold.mk hM; clear hM))
      refine ⟨HM2.out.wider (fun _ _ h => h.elim), ?_⟩
      have e1 : (pre ++ [x]).filter (c1B b l) = pre.filter (c1B b l) := by rw [List.filter_append]; simp [c1B, HV.out.1]
      have e2 : (pre ++ [x]).filter (c2B b l) = pre.filter (c2B b l) := by rw [List.filter_append]; simp [c2B, HV.out.1]
      exact ⟨n1, n2, v1, v2, by rw [e1, e2]; exact (HF.out _ HM2.out).1⟩
    | true =>
      cases vw with
      | true =>
        gi_wp2_with (first
          | (refine ⟨trivial, ?_⟩; gi_at_call 69; refine (CallsIn.inRound l2 (callsIn_wide.2 (H69.out _ (Mod.refl _ _)))).mono ?_; rintro e w2 ⟨rfl, hM⟩; have HF2 := Hold.mk (HF.out.later hM); obtain ⟨y0, y1, y2, y3⟩ := li_cells HF2.out.now.2.1; have HM2 := Hold.mk hM; clear hM)
          | (refine ⟨trivial, ?_⟩; gi_at_call 70; refine (CallsIn.inRound l2 (callsIn_wide.2 (H70.out _))).mono ?_; rintro e w3 ⟨rfl, hM⟩; have HF3 := Hold.mk (HF2.out.later hM); obtain ⟨z0, z1, z2, z3⟩ := li_cells HF3.out.now.2.1; have zc := cellsAt HF3.out.now.1.c 0; have HM3 := Hold.mk (HM2.out.trans hM); clear hM)
          | (gi_at_builtin; refine wpListIn_append_own_at _ rfl (.tmp 23) (.tmp 25) 85 rfl (w.heap.size + 10) 77 i0 (liV []) 4 32 Try.underlying85 hi hz0 hz1 hz2 rfl (by decide) v1 n1 (flatC liC (pre.filter (c1B b l))) rfl (World.ownsRow.alloc HF3.out.now.1.oc _) ⟨w3.heap.size, 0, none⟩ 1 1 (liC x).toList rfl rfl (new_cells w3 (liC x) 77) (by simp [Value.oneCell']) (by unfold maxLen; omega) (by omega) (by have := HF3.out.now.2.2; simp; omega) ?_; intro v3 wb hown hgr _ hat
             obtain ⟨ao3, cap3, rfl⟩ := own_form hown
             have HA := Hold.mk (FtS.add1 HB.out HF3.out.now.1 HF3.out.now.2.2 hown hgr hat)
             have hcb : wb.heap[w.heap.size + 1 + 1]? = some (.cells #[v1] 85) := (hgr.block _ (by have := HF3.out.now.2.2; simp; omega) (fun e => by have := (own_block HF3.out.now.1.oc e.symm).1; omega)).trans (Below.heap_alloc _ _ _ (by have := HF3.out.now.2.2; omega) |>.trans HF3.out.now.1.c)
             have cb0 := cellsAt hcb 0
             have fb0 := frozen_at hcb 0
             clear hown hgr hat hcb))
        have e1 : (pre ++ [x]).filter (c1B b l) = pre.filter (c1B b l) ++ [x] := by rw [List.filter_append]; simp [c1B, HV.out.1, HV.out.2]
        have e2 : (pre ++ [x]).filter (c2B b l) = pre.filter (c2B b l) := by rw [List.filter_append]; simp [c2B, HV.out.1, HV.out.2]
        exact ⟨(HM3.out.wider (fun _ _ h => h.elim)).trans HA.out.2, _, _, _, _, by rw [e1, e2]; exact HA.out.1⟩
      | false =>
        gi_wp2_with (first
          | (refine ⟨trivial, ?_⟩; gi_at_call 69; refine (CallsIn.inRound l2 (callsIn_wide.2 (H69.out _ (Mod.refl _ _)))).mono ?_; rintro e w2 ⟨rfl, hM⟩; have HF2 := Hold.mk (HF.out.later hM); obtain ⟨y0, y1, y2, y3⟩ := li_cells HF2.out.now.2.1; have HM2 := Hold.mk hM; clear hM)
          | (refine ⟨trivial, ?_⟩; gi_at_call 70; refine (CallsIn.inRound l2 (callsIn_wide.2 (H70.out _))).mono ?_; rintro e w3 ⟨rfl, hM⟩; have HF3 := Hold.mk (HF2.out.later hM); obtain ⟨z0, z1, z2, z3⟩ := li_cells HF3.out.now.2.1; have zc := cellsAt HF3.out.now.1.o 0; have HM3 := Hold.mk (HM2.out.trans hM); clear hM)
          | (gi_at_builtin; refine wpListIn_append_own_at _ rfl (.tmp 10) (.tmp 12) 85 rfl (w.heap.size + 10) 77 i0 (liV []) 4 32 Try.underlying85 hi hz0 hz1 hz2 rfl (by decide) v2 n2 (flatC liC (pre.filter (c2B b l))) rfl (World.ownsRow.alloc HF3.out.now.1.oo _) ⟨w3.heap.size, 0, none⟩ 1 1 (liC x).toList rfl rfl (new_cells w3 (liC x) 77) (by simp [Value.oneCell']) (by unfold maxLen; omega) (by omega) (by have := HF3.out.now.2.2; simp; omega) ?_; intro v3 wb hown hgr _ hat
             obtain ⟨ao3, cap3, rfl⟩ := own_form hown
             have HA := Hold.mk (FtS.add2 HB.out HF3.out.now.1 HF3.out.now.2.2 hown hgr hat)
             have hcb : wb.heap[w.heap.size + 1 + 1 + 1]? = some (.cells #[v2] 85) := (hgr.block _ (by have := HF3.out.now.2.2; simp; omega) (fun e => by have := (own_block HF3.out.now.1.oo e.symm).1; omega)).trans (Below.heap_alloc _ _ _ (by have := HF3.out.now.2.2; omega) |>.trans HF3.out.now.1.o)
             have cb0 := cellsAt hcb 0
             have fb0 := frozen_at hcb 0
             clear hown hgr hat hcb))
        have e1 : (pre ++ [x]).filter (c1B b l) = pre.filter (c1B b l) := by rw [List.filter_append]; simp [c1B, HV.out.1, HV.out.2]
        have e2 : (pre ++ [x]).filter (c2B b l) = pre.filter (c2B b l) ++ [x] := by rw [List.filter_append]; simp [c2B, HV.out.1, HV.out.2]
        exact ⟨(HM3.out.wider (fun _ _ h => h.elim)).trans HA.out.2, _, _, _, _, by rw [e1, e2]; exact HA.out.1⟩
  case done =>
    rintro D W' hD hz hI hK
    obtain ⟨n1, n2, v1, v2, hS⟩ := hI
    obtain ⟨ao1, cap1, rfl⟩ := own_form hS.oc
    obtain ⟨ao2, cap2, rfl⟩ := own_form hS.oo
    have c0 := cellsAt hS.c 0
    have d0 := cellsAt hS.o 0
    have f0 := frozen_at hS.c 0
    have f1 := frozen_at hS.o 0
    have HS := Hold.mk hS
    have HK := Hold.mk (And.intro hK hD)
    clear hS hK hz hD hrun hI0 hM1 hb
    gi_wp2
    gi_region_with (fail)
    all_goals
      gi_wp2
      obtain ⟨hK, hD⟩ := HK.out
      have m1 := set_id HS.out.c
      have S1 := HS.out.mod HB.out m1
      have m2 := (m1.trans (set_id S1.o)).drew
      have S2 := HS.out.mod HB.out m2
      have hK2 := m2.at hK id
      refine ⟨by simp, .inl ⟨_, _, rfl, run_takeDeferred hK2, ?_⟩⟩
      have S3 : ∀ {base n : Nat} {v : Value} {xs : List Value} {W : World} {ob : Obj}, W.ownsRow base 77 4 v n xs → (∃ y, W.heap[D]? = some (.deferred y)) → (W.putObj D ob).ownsRow base 77 4 v n xs := fun h hd => own_same h (fun r hr => World.putObj_heap_other (fun e => by
        obtain ⟨y, hd⟩ := hd
        obtain ⟨_, ⟨rfl, _⟩ | ⟨g, cap, cur, rfl, hb, hh, _⟩⟩ := h
        · cases hr
        · have : some g = some r := hr
          cases this
          rw [e, hd] at hh; cases hh))
      exact ⟨_, results49 rfl rfl ((World.putObj_heap_other (by omega)).trans S2.c) ((World.putObj_heap_other (by omega)).trans S2.o), _, _, rfl, by
        rw [show (completeL b l).length = n1 from S2.e1.symm]
        exact own_mono (S3 S2.oc ⟨_, hK2⟩) (by omega), by
        rw [show (othersL b l).length = n2 from S2.e2.symm]
        exact own_mono (S3 S2.oo ⟨_, hK2⟩) (by omega), S2.ap, S2.m.putObj (fun h => by omega) _⟩
  case stop =>
    rintro D c pre W hD hz hpre h hK
    exact h.elim

end Go.Proofs.Ytknbcmildpmokaa

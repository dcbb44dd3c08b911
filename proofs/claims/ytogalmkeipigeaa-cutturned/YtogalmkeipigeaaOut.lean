/- From which pieces the border is reached without some piece: the function of outside that calls itself. -/
import Derived.Test.YtogalmkeipigeaaApart
import Derived.Test.YtogalmkeipigeaaArr
import Derived.Laws.EntriesVeiled
set_option linter.unusedSimpArgs false
set_option linter.unusedVariables false
namespace Go.Proofs.Ytogalmkeipigeaa
open Go.RowKit Go.Shelf
attribute [local go_sem] Oper.semAt_some

inductive ConnP (g : Int × Int → Option Int) (W H : Nat) (wo : Int) (p : Int) : Int → Prop
  | refl (h0 : 0 ≤ p) (h : p ≠ wo) : ConnP g W H wo p p
  | step {q r : Int} (h : ConnP g W H wo p q) (hr : r ∈ facedL g W H q) (h0 : 0 ≤ r) (hw : r ≠ wo) : ConnP g W H wo p r

variable {g : Int × Int → Option Int} {W H : Nat} {wo : Int}
theorem ConnP.trans {p q r : Int} (h : ConnP g W H wo p q) (k : ConnP g W H wo q r) : ConnP g W H wo p r := by
  induction k with
  | refl => exact h
  | step _ hr h0 hw ih => exact .step ih hr h0 hw

theorem ConnP.start {p q : Int} (h : ConnP g W H wo p q) : 0 ≤ p ∧ p ≠ wo := by
  induction h with
  | refl h0 hw => exact ⟨h0, hw⟩
  | step _ _ _ _ ih => exact ih

structure FloodP (g : Int × Int → Option Int) (W H : Nat) (wo : Int) (R : Nat → Bool) (p : Int) (R' : Nat → Bool) : Prop where
  more : ∀ k, R k = true → R' k = true
  own : ∀ n : Nat, p = n → p ≠ wo → R' n = true
  conn : ∀ k, k < 40 → R' k = true → R k = true ∨ ConnP g W H wo p k
  closed : ∀ k, k < 40 → R' k = true → R k = false → ∀ r ∈ facedL g W H k, ∀ m : Nat, r = m → r ≠ wo → R' m = true

structure FloodingP (g : Int × Int → Option Int) (W H : Nat) (wo : Int) (R : Nat → Bool) (n : Nat) (pre : List Int) (R' : Nat → Bool) : Prop where
  more : ∀ k, R k = true → R' k = true
  own : R' n = true
  conn : ∀ k, k < 40 → R' k = true → R k = true ∨ ConnP g W H wo n k
  closed : ∀ k, k < 40 → R' k = true → R k = false → k ≠ n → ∀ r ∈ facedL g W H k, ∀ m : Nat, r = m → r ≠ wo → R' m = true
  done : ∀ r ∈ pre, ∀ m : Nat, r = m → r ≠ wo → R' m = true

theorem FloodP.same {R : Nat → Bool} {p : Int} (h : ∀ n : Nat, p = n → p ≠ wo → R n = true) : FloodP g W H wo R p R where
  more _ h := h
  own := h
  conn _ _ h := .inl h
  closed k _ h1 h2 := by rw [h1] at h2; cases h2

theorem FloodingP.begin (R : Nat → Bool) {n : Nat} (hw : (n : Int) ≠ wo) : FloodingP g W H wo R n [] (mark R n) where
  more k h := by unfold mark; split <;> first | rfl | exact h
  own := by simp [mark]
  conn k _ h := by
    unfold mark at h
    split at h
    · rename_i e; subst e; exact .inr (.refl (by omega) hw)
    · exact .inl h
  closed k _ h h0 hne := by
    unfold mark at h
    rw [if_neg hne, h0] at h; cases h
  done r hr := by cases hr

theorem FloodingP.reach {R R' R2 : Nat → Bool} {n : Nat} {r : Int} {pre : List Int} (h : FloodingP g W H wo R n pre R') (hr : r ∈ facedL g W H n) (hnw : (n : Int) ≠ wo) (k : FloodP g W H wo R' r R2) : FloodingP g W H wo R n (pre ++ [r]) R2 where
  more j hj := k.more j (h.more j hj)
  own := k.more _ h.own
  conn j hj h2 := by
    rcases k.conn j hj h2 with h3 | h3
    · exact h.conn j hj h3
    · refine .inr (ConnP.trans ?_ h3)
      have hr0 : 0 ≤ r ∧ r ≠ wo := by
        exact h3.start
      exact .step (.refl (by omega) hnw) hr hr0.1 hr0.2
  closed j hj h2 h0 hne q hq m hm hw := by
    cases hR : R' j with
    | true => exact k.more _ (h.closed j hj hR h0 hne q hq m hm hw)
    | false => exact k.closed j hj h2 hR q hq m hm hw
  done q hq m hm hw := by
    rcases List.mem_append.1 hq with hq | hq
    · exact k.more _ (h.done q hq m hm hw)
    · have : q = r := by simpa using hq
      subst this
      exact k.own m hm hw

theorem FloodingP.finish {R R' : Nat → Bool} {n : Nat} (h : FloodingP g W H wo R n (facedL g W H n) R') : FloodP g W H wo R n R' where
  more := h.more
  own m hm _ := by
    have : m = n := by omega
    subst this; exact h.own
  conn := h.conn
  closed k hk h1 h0 r hr m hm hw := by
    by_cases e : k = n
    · subst e; exact h.done r hr m hm hw
    · exact h.closed k hk h1 h0 e r hr m hm hw

def cnt40 (R : Nat → Bool) : Nat := (List.range 40).countP (fun k => !R k)
theorem cnt40_lt {R R' : Nat → Bool} (hle : ∀ k, R k = true → R' k = true) {k0 : Nat} (hk : k0 < 40) (h1 : R k0 = false) (h2 : R' k0 = true) : cnt40 R' < cnt40 R :=
  countP_lt (fun k h => by cases hr : R k with
    | true => rw [hle k hr] at h; cases h
    | false => rfl) (List.mem_range.2 hk) (by rw [h1]; rfl) (by rw [h2]; rfl)

theorem Grid.at_le (G : Grid g W H) (p : Int × Int) : -1 ≤ atG g p ∧ atG g p < 40 := by
  by_cases h : inPic W H p
  · have := G.at_in h; omega
  · rw [G.at_out h]; omega
theorem faced_le (G : Grid g W H) {n r : Int} (h : r ∈ facedL g W H n) : -1 ≤ r ∧ r < 40 := by
  unfold facedL at h
  rw [List.mem_flatMap] at h
  obtain ⟨p, _, hp⟩ := h
  unfold facedAt at hp
  split at hp
  · have := (List.mem_filter.1 hp).1
    rw [List.mem_map] at this
    obtain ⟨q, _, rfl⟩ := this
    exact G.at_le q
  · cases hp

set_option maxRecDepth 100000 in
set_option maxHeartbeats 4000000 in
theorem out_any (G : Grid g W H) (N : Int) (wb qb pb fb mb : Nat) (hne : qb ≠ wb ∧ qb ≠ pb ∧ qb ≠ fb ∧ qb ≠ mb) : ∀ (m : Nat) (R : Nat → Bool) (p : Int) (w : World), cnt40 R < m → -1 ≤ p → p < 40 →
    w.heap[qb]? = some (.cells (boolCells 40 R) 84) → w.heap[wb]? = some (.cells #[.int .i64 wo] 3) → w.heap[pb]? = some (.cells #[.int .i64 W, .int .i64 H, .int .i64 N, .map (some mb)] 71) →
    w.heap[fb]? = some (.cells #[.func (.func 73) #[] #[.pointer (some ⟨wb, 0, none⟩), .pointer (some ⟨qb, 0, none⟩), .pointer (some ⟨pb, 0, none⟩), .pointer (some ⟨fb, 0, none⟩)]] 115) → MapIs Try.prog 106 cellV w mb g →
    Calls Try.prog 73 #[.int .i64 p, .pointer (some ⟨wb, 0, none⟩), .pointer (some ⟨qb, 0, none⟩), .pointer (some ⟨pb, 0, none⟩), .pointer (some ⟨fb, 0, none⟩)] w fun e w' => e = .returned (.tuple #[]) ∧ Mod (fun k => k = qb) w w' ∧
      ∃ R', w'.heap[qb]? = some (.cells (boolCells 40 R') 84) ∧ FloodP g W H wo R p R' := by
  intro m
  induction m with
  | zero => intro R p w hm; omega
  | succ m ih =>
    intro R p w hm hp1 hp2 hqb hwb hpb hfb hmp
    have c1 : w.cell? ⟨wb, 0, none⟩ = some (.int .i64 wo) := by simp [World.cell?, hwb]
    have HH := Hold.mk (And.intro hqb (And.intro hwb (And.intro hpb (And.intro hfb (And.intro hmp (And.intro hm ih))))))
    have hqlt := (Array.getElem?_eq_some_iff.1 hqb).1
    by_cases h1 : p = -1
    · have k1 : (p == -1) = true := by simpa using h1
      have Hp := Hold.mk h1
      clear h1 hqb hwb hpb hfb hmp hm ih
      refine callsIn_wide (n := 3) |>.1 ?_
      refine callsIn_of_wp_marks Try.func73 rfl trivial ?_ rfl
      simp only [Try.ntmps73, List.size_toArray, List.length_cons, List.length_nil, Nat.reduceAdd, Nat.reduceSub, Array.replicate_succ, Array.replicate_zero, List.push_toArray, List.append_toArray, List.nil_append, List.cons_append]
      gi_wp2
      exact ⟨_, results_none rfl _ _ _, rfl, Mod.refl _ _, R, HH.out.1, FloodP.same (fun n hn _ => by have := Hp.out; omega)⟩
    have k1 : (p == -1) = false := by simpa using h1
    by_cases h2 : p = wo
    · have k2 : (p == wo) = true := by simpa using h2
      have Hp := Hold.mk h2
      clear h1 h2 hqb hwb hpb hfb hmp hm ih
      refine callsIn_wide (n := 3) |>.1 ?_
      refine callsIn_of_wp_marks Try.func73 rfl trivial ?_ rfl
      simp only [Try.ntmps73, List.size_toArray, List.length_cons, List.length_nil, Nat.reduceAdd, Nat.reduceSub, Array.replicate_succ, Array.replicate_zero, List.push_toArray, List.append_toArray, List.nil_append, List.cons_append]
      gi_wp2
      exact ⟨_, results_none rfl _ _ _, rfl, Mod.refl _ _, R, HH.out.1, FloodP.same (fun n hn h => absurd Hp.out h)⟩
    have k2 : (p == wo) = false := by simpa using h2
    obtain ⟨n, rfl⟩ := Int.eq_ofNat_of_zero_le (show 0 ≤ p by omega)
    have hn40 : n < 40 := by omega
    have hn1 : (n : Int) < 40 := by omega
    have H2 := Hold.mk h2
    have kq := fcells_cell hqb hn40
    have kf := cells_frozen hqb n
    cases hv : R n with
    | true =>
      rw [hv] at kq
      have HV := Hold.mk hv
      clear h1 h2 hqb hwb hpb hfb hmp hm ih hv
      refine callsIn_wide (n := 3) |>.1 ?_
      refine callsIn_of_wp_marks Try.func73 rfl trivial ?_ rfl
      simp only [Try.ntmps73, List.size_toArray, List.length_cons, List.length_nil, Nat.reduceAdd, Nat.reduceSub, Array.replicate_succ, Array.replicate_zero, List.push_toArray, List.append_toArray, List.nil_append, List.cons_append]
      gi_wp2
      exact ⟨_, results_none rfl _ _ _, rfl, Mod.refl _ _, R, HH.out.1, FloodP.same (fun k hk _ => by have : k = n := (by omega); rw [this]; exact HV.out)⟩
    | false =>
      rw [hv] at kq
      have HV := Hold.mk hv
      have p0 : w.cell? ⟨pb, 0, none⟩ = some (.int .i64 W) := by simp [World.cell?, hpb]
      have p1 : w.cell? ⟨pb, 1, none⟩ = some (.int .i64 H) := by simp [World.cell?, hpb]
      have p2 : w.cell? ⟨pb, 2, none⟩ = some (.int .i64 N) := by simp [World.cell?, hpb]
      have p3 : w.cell? ⟨pb, 3, none⟩ = some (.map (some mb)) := by simp [World.cell?, hpb]
      have hne1 : ¬ (qb = pb) := hne.2.1
      have hne2 : ¬ (pb = qb) := fun h => hne.2.1 h.symm
      clear h1 h2 hqb hwb hpb hfb hmp hm ih hv
      refine callsIn_wide (n := 3) |>.1 ?_
      refine callsIn_of_wp_marks Try.func73 rfl trivial ?_ rfl
      simp only [Try.ntmps73, List.size_toArray, List.length_cons, List.length_nil, Nat.reduceAdd, Nat.reduceSub, Array.replicate_succ, Array.replicate_zero, List.push_toArray, List.append_toArray, List.nil_append, List.cons_append]
      gi_wp2_with (refine ⟨trivial, ?_⟩; gi_at_call 49; refine (callsIn_wide.2 (faced_any _ _ _ _ _ _)).mono ?_; rintro e w' ⟨rfl, rfl⟩)
      obtain ⟨hqb, hwb, hpb, hfb, hmp, hm, ih⟩ := HH.out
      have hM1 : Mod (fun k => k = qb) w (((w.setCell ⟨qb, n, none⟩ (.bool true)).alloc (.cells #[.int .i64 W, .int .i64 H, .int .i64 N, .map (some mb)] 71)).alloc (.cells #[.int .i64 n] 3)) := (((Mod.refl (fun k => k = qb) w).setCell (p := ⟨qb, n, none⟩) (fun _ => rfl) _).alloc _).alloc _
      have hsz : (w.setCell ⟨qb, n, none⟩ (.bool true)).heap.size = w.heap.size := by show (w.heap.modify _ _).size = _; simp
      obtain ⟨W1, hW1⟩ : ∃ W1, (((w.setCell ⟨qb, n, none⟩ (.bool true)).alloc (.cells #[.int .i64 W, .int .i64 H, .int .i64 N, .map (some mb)] 71)).alloc (.cells #[.int .i64 n] 3)) = W1 := ⟨_, rfl⟩
      rw [hW1] at hM1 ⊢
      have hz1 : W1.heap.size = w.heap.size + 2 := by rw [← hW1]; simp [hsz]
      have q1 : W1.heap[qb]? = some (.cells (boolCells 40 (mark R n)) 84) := by
        rw [← hW1, Below.heap_alloc _ _ _ (by simp [hsz]; omega), Below.heap_alloc _ _ _ (by rw [hsz]; exact hqlt)]
        exact boolCells_store hqb _
      have bp1 : W1.heap[w.heap.size]? = some (.cells #[.int .i64 W, .int .i64 H, .int .i64 N, .map (some mb)] 71) := by
        rw [← hW1, Below.heap_alloc _ _ _ (by simp [hsz])]
        have := World.alloc_heap_new (w.setCell ⟨qb, n, none⟩ (.bool true)) (.cells #[.int .i64 W, .int .i64 H, .int .i64 N, .map (some mb)] 71)
        rw [hsz] at this
        exact this
      have bn1 : W1.heap[w.heap.size + 1]? = some (.cells #[.int .i64 n] 3) := by
        rw [← hW1]
        have := World.alloc_heap_new ((w.setCell ⟨qb, n, none⟩ (.bool true)).alloc (.cells #[.int .i64 W, .int .i64 H, .int .i64 N, .map (some mb)] 71)) (.cells #[.int .i64 n] 3)
        rw [World.size_alloc, hsz] at this
        exact this
      have w1 := hM1.at hwb (Ne.symm hne.1)
      have f1 := hM1.at hfb (Ne.symm hne.2.2.1)
      have pp1 := hM1.at hpb (Ne.symm hne.2.1)
      have m1 := hmp.same (hM1.block mb hmp.lt (Ne.symm hne.2.2.2))
      have hmbl := hmp.lt
      clear hW1 hsz kq kf p0 p1 p2 p3 c1 k1 k2
      refine range_plain (gf := 69) (lb := #[.pointer (some ⟨w.heap.size, 0, none⟩), .pointer (some ⟨w.heap.size + 1, 0, none⟩)]) rfl rfl enter69 (faced1_runs w.heap.size (w.heap.size + 1) mb W H N n g W1 bp1 bn1 m1 G.w2 G.h2)
        (by rintro k (rfl | rfl | rfl) <;> omega) (fun k => k = qb) (by rintro k rfl; exact ⟨by omega, by have := hne.2.2.2; omega⟩)
        (fun pre Wr => (∃ Rc, Wr.heap[qb]? = some (.cells (boolCells 40 Rc) 84) ∧ FloodingP g W H wo R n pre Rc) ∧ Mod (fun k => k = qb) W1 Wr)
        (fun _ _ _ => False)
        (fun s A B h hg => by
          obtain ⟨⟨Rc, h1, h2⟩, h3⟩ := h
          exact ⟨⟨Rc, hg.at h1 (by omega), h2⟩, h3.then hg (fun i h1 h2 => by omega)⟩)
        (fun c s A B h hg => h)
        ⟨⟨_, q1, FloodingP.begin R H2.out⟩, Mod.refl _ _⟩
        none
        (fun _ x => { tmps := #[.int .i64 n, .pointer (some ⟨wb, 0, none⟩), .pointer (some ⟨qb, 0, none⟩), .pointer (some ⟨pb, 0, none⟩), .pointer (some ⟨fb, 0, none⟩), undef, .int .i64 x, .int .i64 n, .bool false, .bool false, .int .i64 n, .int .i64 wo, .bool false, .bool false, .bool false, .int .i64 n,
          .pointer (some ⟨qb, n, none⟩), .bool false, .bool false, .int .i64 n, .pointer (some ⟨qb, n, none⟩), .agg #[.int .i64 W, .int .i64 H, .int .i64 N, .map (some mb)], .int .i64 n,
          .func (.func 69) #[] #[.pointer (some ⟨w.heap.size, 0, none⟩), .pointer (some ⟨w.heap.size + 1, 0, none⟩)], .int .i64 x, undef, undef, undef], defers := [] })
        ?assign ?body ?done ?stop
      case assign =>
        intro l x W K hK
        gi_wp2
        exact hK
      case body =>
        rintro l2 pre x rest a' Wr hL hl2 hr2 hzr ⟨⟨Rc, hrr, hfl⟩, hmr⟩ rfl
        have hxm : x ∈ facedL g W H n := by rw [hL]; simp
        have hxb := faced_le G hxm
        have fr := hmr.at f1 (Ne.symm hne.2.2.1)
        have c4 : Wr.cell? ⟨fb, 0, none⟩ = some (.func (.func 73) #[] #[.pointer (some ⟨wb, 0, none⟩), .pointer (some ⟨qb, 0, none⟩), .pointer (some ⟨pb, 0, none⟩), .pointer (some ⟨fb, 0, none⟩)]) := by simp [World.cell?, fr]
        have HC := Hold.mk (ih Rc x Wr (by
            have := cnt40_lt (R := R) (R' := Rc) hfl.more hn40 HV.out hfl.own
            omega) hxb.1 hxb.2 hrr (hmr.at w1 (Ne.symm hne.1)) (hmr.at pp1 (Ne.symm hne.2.1)) fr (m1.same (hmr.block mb m1.lt (Ne.symm hne.2.2.2))))
        have HF := Hold.mk (And.intro hfl (And.intro hmr hxm))
        clear hL hrr hfl hmr hxm fr q1 bp1 bn1 w1 f1 pp1 m1 hqb hwb hpb hfb hmp hm ih
        gi_wp2_with (refine ⟨trivial, ?_⟩; gi_at_call 73; refine (CallsIn.inRound l2 (callsIn_wide.2 HC.out)).mono ?_; rintro e w' ⟨rfl, hMw, R2, hr2', hf2⟩)
        obtain ⟨hfl, hmr, hxm⟩ := HF.out
        exact ⟨hMw, ⟨R2, hr2', hfl.reach hxm H2.out hf2⟩, hmr.trans hMw⟩
      case done =>
        rintro D W' hD hz ⟨⟨Rc, hr, hf⟩, hm'⟩ hK
        gi_wp2
        refine ⟨by simp, .inl ⟨_, _, rfl, run_takeDeferred hK, ?_⟩⟩
        exact ⟨_, results_none rfl _ _ _, rfl, (hM1.trans hm').putObj (fun h => by omega) _, Rc, (World.putObj_heap_other (by omega)).trans hr, hf.finish⟩
      case stop =>
        rintro D c pre W hD hz hpre h hK
        exact h.elim
end Go.Proofs.Ytogalmkeipigeaa

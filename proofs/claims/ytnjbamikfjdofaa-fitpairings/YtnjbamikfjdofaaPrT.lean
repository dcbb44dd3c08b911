/- FitPairings: a drawn region whose operations' values speak of the world; the document's truth again; the drawn region that asks for it. -/
import Derived.Test.YtnjbamikfjdofaaInvP
import Derived.Test.YtnjbamikfjdofaaTruRa
set_option linter.unusedSimpArgs false
set_option linter.unusedVariables false
namespace Go.Proofs.Ytnjbamikfjdofaa
section
open Go.RowKit Go.Shelf

/-- Each operation yields a value with its property, whatever the order; the world's word says what has been done. -/
theorem region_predW {rid : Nat} {Q : Exit → Act → World → Prop} {a0 : Act} {w : World} {l : List Oper} (hlow : lowB l = true) (ds : List (Nat × Nat)) (Pred : Nat → Value → World → Prop) (WO : (Nat → Bool) → World → Prop) (R : World → World → Prop) (hst : ∀ j v w1 w2, Pred j v w1 → R w1 w2 → Pred j v w2)
    (n1 : (ds.map Prod.fst).Nodup) (n2 : (ds.map Prod.snd).Nodup) (hsz : ∀ x ∈ ds, x.2 < a0.tmps.size) (hin : ∀ i o s, l[i]? = some o → o.dst = some s → (i, s) ∈ ds) (hout : ∀ i o, l[i]? = some o → o.dst = none → i ∉ ds.map Prod.fst)
    (hlen : ∀ x ∈ ds, x.1 < l.length) (h0 : WO (fun _ => false) w.drew)
    (hs : ∀ D i o (ρ : Act) w', (∀ i o, l[i]? = some o → D i = true → ∀ e ∈ o.after, Region.binds .any e = true → D e.on = true) → l[i]? = some o → D i = false → (∀ e ∈ o.after, Region.binds .any e = true → D e.on = true) →
      (∀ j s, (j, s) ∈ ds → D j = true → Pred j (ρ.eval (.tmp s)) w') → (∀ s, (∀ x ∈ ds, x.2 = s → D x.1 = false) → ρ.eval (.tmp s) = a0.eval (.tmp s)) → WO D w' →
      wpList Try.prog l.toArray (only fun a' w2 => (∃ v, a' = ρ.put o.dst v ∧ (o.dst ≠ none → Pred i v w2)) ∧ R w' w2 ∧ WO (fun j => j == i || D j) w2) [o] ρ w')
    (hend : ∀ (vs : Nat → Value) D w', (∀ j, j < l.length → D j = true) → (∀ x ∈ ds, Pred x.1 (vs x.1) w') → WO D w' → Q .normal (ds.foldl (fun a x => a.put (some x.2) (vs x.1)) a0) w') : (Code.region rid l.toArray true).wp Try.prog Q a0 w := by
  have wait : ∀ (D : Nat → Bool) (vs : Nat → Value) (s : Nat) (ds : List (Nat × Nat)) (a0 : Act), (∀ x ∈ ds, x.2 = s → D x.1 = false) → (putD ds D vs a0).eval (.tmp s) = a0.eval (.tmp s) := by
    intro D vs s ds
    induction ds with
    | nil => intro a0 _; rfl
    | cons x ds ih =>
      intro a0 h
      rw [putD_cons, ih _ fun y hy => h y (by simp [hy])]
      split
      · rename_i hd
        exact eval_put_ne _ (fun e => by rw [h x (by simp) e] at hd; cases hd) _
      · rfl
  have all : ∀ (D : Nat → Bool) (vs : Nat → Value) (ds : List (Nat × Nat)) (a0 : Act), (∀ x ∈ ds, D x.1 = true) → putD ds D vs a0 = ds.foldl (fun a x => a.put (some x.2) (vs x.1)) a0 := by
    intro D vs ds
    induction ds with
    | nil => intro a0 _; rfl
    | cons x ds ih =>
      intro a0 h
      rw [putD_cons, h x (by simp), if_pos rfl]
      exact ih _ fun y hy => h y (by simp [hy])
  refine region_inv hlow (fun D a w' => ∃ vs, a = putD ds D vs a0 ∧ (∀ x ∈ ds, D x.1 = true → Pred x.1 (vs x.1) w') ∧ WO D w') ⟨fun _ => undef, (putD_none _ _ _).symm, fun x _ h => (by cases h), h0⟩ ?_ ?_
  · rintro D a w' i o hcl ho hD hdep ⟨vs, rfl, hP, hW⟩
    have hstep := hs D i o (putD ds D vs a0) w' hcl ho hD hdep (fun j s hj hd => by rw [putD_new a0 hj n2 hd (hsz _ hj)]; exact hP _ hj hd) (fun s h => wait D vs s ds a0 h) hW
    have mono : ∀ (K K' : Act → World → Prop) (a : Act) (w : World), (∀ a w, K a w → K' a w) → wpList Try.prog l.toArray (only K) [o] a w → wpList Try.prog l.toArray (only K') [o] a w := by
      intro K K' a w hK h
      unfold wpList at h ⊢
      split at h
      · rename_i hw
        rw [if_pos hw]
        rcases h with h | h
        · exact .inl (wp_only2 (fun a w h => ⟨rfl, hK _ _ h.2⟩) h)
        · exact absurd h.2 only_lets
      · rename_i hw
        rw [if_neg hw]
        exact ⟨rfl, hK _ _ h.2⟩
    refine mono _ _ _ _ ?_ hstep
    rintro a' w2 ⟨⟨v, rfl, hv⟩, hR, hW2⟩
    cases hd : o.dst with
    | none =>
      refine ⟨vs, ?_, fun x hx hdx => ?_, hW2⟩
      · show putD ds D vs a0 = _
        refine putD_same _ fun x hx => ⟨?_, rfl⟩
        have hne : x.1 ≠ i := fun e => hout i o ho hd (e ▸ List.mem_map.2 ⟨x, hx, rfl⟩)
        simp [hne]
      · have hne : x.1 ≠ i := fun e => hout i o ho hd (e ▸ List.mem_map.2 ⟨x, hx, rfl⟩)
        simp [hne] at hdx
        exact hst _ _ _ _ (hP x hx hdx) hR
    | some s =>
      have hm := hin i o s ho hd
      refine ⟨fun j => if j = i then v else vs j, putD_put v a0 hm n1 n2 hD, fun x hx hdx => ?_, hW2⟩
      by_cases e : x.1 = i
      · simp only [e, if_true]
        exact hv (by rw [hd]; simp)
      · simp only [e, if_false]
        simp [e] at hdx
        exact hst _ _ _ _ (hP x hx hdx) hR
  · rintro D a w' hall ⟨vs, rfl, hP, hW⟩
    rw [all D vs ds a0 fun x hx => hall _ (hlen x hx)]
    exact hend vs D w' hall (fun x hx => hP x hx (hall _ (hlen x hx))) hW
end

section
open Go.RowKit Go.Shelf
variable {p : Ply} {t u : Edg} {db b4 b5 b6 b8 : Nat} {T8 : TypeId} {E : Int} {ao : Option Addr} {n c k0 : Nat} {w w' : World} {D : Nat → Bool}

set_option maxRecDepth 100000 in
set_option maxHeartbeats 8000000 in
theorem region_truthN {rid : Nat} {Q : Exit → Act → World → Prop} {a0 : Act} {w0 : World} (hsz : a0.tmps.size = 96)
    (x3 : a0.eval (.tmp 3) = .pointer (some ⟨db, 0, none⟩)) (x4 : a0.eval (.tmp 4) = .pointer (some ⟨b4, 0, none⟩)) (x5 : a0.eval (.tmp 5) = .pointer (some ⟨b5, 0, none⟩)) (x6 : a0.eval (.tmp 6) = .pointer (some ⟨b6, 0, none⟩)) (x8 : a0.eval (.tmp 8) = .pointer (some ⟨b8, 0, none⟩)) (x10 : a0.eval (.tmp 10) = .int .i64 E)
    (h4 : w.heap[b4]? = some (.cells (plC p) 25)) (h5 : w.heap[b5]? = some (.cells (edC t) 27)) (h6 : w.heap[b6]? = some (.cells (edC u) 27))
    (n4 : b4 ≠ db ∧ b4 ≠ b8) (n5 : b5 ≠ db ∧ b5 ≠ b8) (n6 : b6 ≠ db ∧ b6 ≠ b8) (n8 : b8 ≠ db)
    (hR : RawAt w0 ao n) (hw0 : Mod noB w0 w) (hd0 : w0.heap.size ≤ db) (h80 : w0.heap.size ≤ b8) (hk : k0 ≤ 900)
    (ot : Ordered t) (ou : Ordered u) (st : ESmall 20000 t) (su : ESmall 20000 u) (hp : 0 ≤ p.len ∧ p.len ≤ 10000) (hE : 0 ≤ E ∧ E ≤ 2000)
    (h8 : ∃ old : Array Value, old.size = 3 ∧ w.heap[b8]? = some (.cells old T8)) (hd : DrawAt w db ao n c k0)
    (hend : ∀ (vs : Nat → Value) w' cs k, Mod (fun b => b = db ∨ b = b8) w w' → k ≤ k0 + 6 → DrawAt w' db ao n c k → InA p t u E cs → w'.heap[b8]? = some (.cells cs T8) → Q .normal (dsT.foldl (fun a x => a.put (some x.2) (vs x.1)) a0) w') : (Code.region rid opsT.toArray true).wp Try.prog Q a0 w := by
  refine region_pred (by kernel_rfl) dsT (PT p t u db b4 b5 b6 E) (WT p t u db b8 T8 E ao n c k0 w) (by decide) (by decide) ?_ ?_ ?_ ?_ ⟨(Mod.refl _ w).drew, ⟨k0, by omega, hd⟩, fun _ => h8, fun h => by cases h⟩ ?_ ?_
  · intro x hx; rw [hsz]
    simp only [dsT, List.mem_cons, List.not_mem_nil, or_false] at hx
    rcases hx with rfl | rfl | rfl | rfl | rfl | rfl | rfl | rfl | rfl | rfl | rfl | rfl | rfl | rfl | rfl | rfl | rfl | rfl | rfl | rfl | rfl | rfl | rfl | rfl | rfl | rfl | rfl | rfl | rfl | rfl | rfl | rfl | rfl | rfl | rfl | rfl | rfl <;> decide
  · intro i o s ho hs
    have hlt : i < 38 := (List.getElem?_eq_some_iff.1 ho).1
    rcases (by omega : i = 0 ∨ i = 1 ∨ i = 2 ∨ i = 3 ∨ i = 4 ∨ i = 5 ∨ i = 6 ∨ i = 7 ∨ i = 8 ∨ i = 9 ∨ i = 10 ∨ i = 11 ∨ i = 12 ∨ i = 13 ∨ i = 14 ∨ i = 15 ∨ i = 16 ∨ i = 17 ∨ i = 18 ∨ i = 19 ∨ i = 20 ∨ i = 21 ∨ i = 22 ∨ i = 23 ∨ i = 24 ∨ i = 25 ∨ i = 26 ∨ i = 27 ∨ i = 28 ∨ i = 29 ∨ i = 30 ∨ i = 31 ∨ i = 32 ∨ i = 33 ∨ i = 34 ∨ i = 35 ∨ i = 36 ∨ i = 37) with rfl | rfl | rfl | rfl | rfl | rfl | rfl | rfl | rfl | rfl | rfl | rfl | rfl | rfl | rfl | rfl | rfl | rfl | rfl | rfl | rfl | rfl | rfl | rfl | rfl | rfl | rfl | rfl | rfl | rfl | rfl | rfl | rfl | rfl | rfl | rfl | rfl | rfl
    all_goals (obtain rfl := Option.some.inj ho; first | (cases hs; done) | (cases hs; decide))
  · intro i o ho hs
    have hlt : i < 38 := (List.getElem?_eq_some_iff.1 ho).1
    rcases (by omega : i = 0 ∨ i = 1 ∨ i = 2 ∨ i = 3 ∨ i = 4 ∨ i = 5 ∨ i = 6 ∨ i = 7 ∨ i = 8 ∨ i = 9 ∨ i = 10 ∨ i = 11 ∨ i = 12 ∨ i = 13 ∨ i = 14 ∨ i = 15 ∨ i = 16 ∨ i = 17 ∨ i = 18 ∨ i = 19 ∨ i = 20 ∨ i = 21 ∨ i = 22 ∨ i = 23 ∨ i = 24 ∨ i = 25 ∨ i = 26 ∨ i = 27 ∨ i = 28 ∨ i = 29 ∨ i = 30 ∨ i = 31 ∨ i = 32 ∨ i = 33 ∨ i = 34 ∨ i = 35 ∨ i = 36 ∨ i = 37) with rfl | rfl | rfl | rfl | rfl | rfl | rfl | rfl | rfl | rfl | rfl | rfl | rfl | rfl | rfl | rfl | rfl | rfl | rfl | rfl | rfl | rfl | rfl | rfl | rfl | rfl | rfl | rfl | rfl | rfl | rfl | rfl | rfl | rfl | rfl | rfl | rfl | rfl
    all_goals (obtain rfl := Option.some.inj ho; first | (exact absurd hs (by decide)) | decide)
  · intro x hx
    simp only [dsT, List.mem_cons, List.not_mem_nil, or_false] at hx
    rcases hx with rfl | rfl | rfl | rfl | rfl | rfl | rfl | rfl | rfl | rfl | rfl | rfl | rfl | rfl | rfl | rfl | rfl | rfl | rfl | rfl | rfl | rfl | rfl | rfl | rfl | rfl | rfl | rfl | rfl | rfl | rfl | rfl | rfl | rfl | rfl | rfl | rfl <;> decide
  · intro D i o ρ w' hcl ho hD hdep EV EO hW
    have hlt : i < 38 := (List.getElem?_eq_some_iff.1 ho).1
    by_cases c1 : i < 13
    · exact step_truth0 x3 x4 x5 x6 x8 x10 h4 h5 h6 n4 n5 n6 n8 hR hw0 hd0 h80 hk ot ou st su hp hE D i o ρ w' ho hD hdep EV EO hW (by omega) c1
    · by_cases c2 : i < 26
      · exact step_truth1 x3 x4 x5 x6 x8 x10 h4 h5 h6 n4 n5 n6 n8 hR hw0 hd0 h80 hk ot ou st su hp hE D i o ρ w' ho hD hdep EV EO hW (by omega) c2
      · exact step_truth2 x3 x4 x5 x6 x8 x10 h4 h5 h6 n4 n5 n6 n8 hR hw0 hd0 h80 hk ot ou st su hp hE D i o ρ w' ho hD hdep EV EO hW (by omega) hlt
  · intro vs D w' hall hP hW
    obtain ⟨k, hk1, hk2⟩ := hW.d
    have := cntT_le D
    obtain ⟨cs, hA, hc⟩ := hW.x (hall 37 (by decide))
    exact hend vs w' cs k hW.m (by omega) hk2 hA hc
end

section
open Go.RowKit Go.Shelf

theorem thriceN (w2 : World) (b : Nat) (x y z : Value) : Mod (fun i => i = b) w2 (((w2.setCell ⟨b, 0, none⟩ x).setCell ⟨b, 1, none⟩ y).setCell ⟨b, 2, none⟩ z).drew :=
  ((((Mod.refl (fun i => i = b) w2).setCell (p := ⟨b, 0, none⟩) (fun _ => rfl) _).setCell (p := ⟨b, 1, none⟩) (fun _ => rfl) _).setCell (p := ⟨b, 2, none⟩) (fun _ => rfl) _).drew

def TrulyN (p : Ply) (t u : Edg) (db : Nat) (ao : Option Addr) (n c k0 : Nat) (w : World) (e : Ending) (w' : World) : Prop :=
  ∃ x y z k, e = .returned (.tuple #[.agg #[.int .i64 x, .int .i64 y, .int .i64 z], .bool (goodX p x y z)]) ∧ TrueOf p t u x y z ∧ Mod (fun b => b = db) w w' ∧ k ≤ k0 + 7 ∧ DrawAt w' db ao n c k

def OfPostN (s : Int × Int) (db : Nat) (ao : Option Addr) (n c k : Nat) (w : World) (e : Ending) (w' : World) : Prop := ∃ r, s.1 ≤ r ∧ r ≤ s.2 ∧ e = .returned (.int .i64 r) ∧ Mod (fun b => b = db) w w' ∧ DrawAt w' db ao n c (k + 1)

set_option maxRecDepth 100000 in
set_option maxHeartbeats 8000000 in
theorem trulyN_any (p : Ply) (t u : Edg) (w0 w : World) (db : Nat) (ao : Option Addr) (n c k0 : Nat) (hp : playB p = true) (ot : Ordered t) (ou : Ordered u) (st : ESmall 20000 t) (su : ESmall 20000 u)
    (hR : RawAt w0 ao n) (hw : Mod noB w0 w) (hd0 : w0.heap.size ≤ db) (hd : DrawAt w db ao n c k0) (hk : k0 ≤ 800) :
    Calls Try.prog 38 #[plV p, edV t, edV u, .pointer (some ⟨db, 0, none⟩)] w (TrulyN p t u db ao n c k0 w) := by
  obtain ⟨⟨l1, l2⟩, ⟨s1, s2⟩, ⟨o1, o2⟩, f0, f1, f2⟩ := play_facts hp
  have hdl : db < w.heap.size := (Array.getElem?_eq_some_iff.1 hd).1
  have hwl : w0.heap.size ≤ w.heap.size := hw.size
  have HOf : Hold (∀ w', Mod noB w w' → Calls Try.prog 39 #[.pointer (some ⟨db, 0, none⟩), spV p.damp] w' (OfPostN p.damp db ao n c k0 w')) := ⟨fun w' h => of_any w0 w' db ao n c k0 p.damp hR (hw.trans (h.wider fun _ _ e => e)) hd0 (h.at hd id) (by omega) f1 ⟨⟨by omega, by omega⟩, by omega, by omega⟩⟩
  have HR := Hold.mk hR
  have HW := Hold.mk hw
  have HD := Hold.mk hd
  have HO := Hold.mk (And.intro ot ou)
  have HS := Hold.mk (And.intro st su)
  clear hR hw hd ot ou st su
  go_enter Try.func38, Try.ntmps38
  go_wp2_with fail
  refine (HOf.out _ ?_).mono ?_
  · exact ((((Mod.refl noB w).alloc _).alloc _).alloc _).alloc _
  rintro e w1 ⟨r, r1, r2, rfl, hM, hD1⟩
  have HB : Hold ((((Mod (fun b => b = db) w w1 ∧ w1.heap[w.heap.size]? = some (.cells (plC p) 25)) ∧ w1.heap[w.heap.size + 1]? = some (.cells (edC t) 27)) ∧ w1.heap[w.heap.size + 1 + 1]? = some (.cells (edC u) 27)) ∧ w1.heap[w.heap.size + 1 + 1 + 1]? = some (.cells #[.int .i64 0, .int .i64 0, .int .i64 0] 61)) := ⟨by
    rw [allocL4] at hM
    exact ⟨⟨⟨⟨(allocL_mod _ _ w).trans hM, hM.at (allocL_at _ w 0 _ rfl) (by omega)⟩, hM.at (allocL_at _ w 1 _ rfl) (by omega)⟩, hM.at (allocL_at _ w 2 _ rfl) (by omega)⟩, hM.at (allocL_at _ w 3 _ rfl) (by omega)⟩⟩
  have HD1 := Hold.mk hD1
  obtain ⟨p0, p1, p2, p3, p4⟩ := PlayAt.of HB.out.1.1.1.2
  have hb8 : w.heap.size + 1 + 1 + 1 < w1.heap.size := (Array.getElem?_eq_some_iff.1 HB.out.2).1
  clear hM hD1
  go_wp2_with fail
  clear p0 p1 p2 p3 p4
  refine region_truthN (p := p) (t := t) (u := u) (db := db) (b4 := w.heap.size) (b5 := w.heap.size + 1) (b6 := w.heap.size + 1 + 1) (b8 := w.heap.size + 1 + 1 + 1) (T8 := 61) (E := 1000 + r) (ao := ao) (n := n) (c := c) (k0 := k0 + 1) (w := w1) (w0 := w0) rfl rfl rfl rfl rfl rfl rfl
    HB.out.1.1.1.2 HB.out.1.1.2 HB.out.1.2 ⟨by omega, by omega⟩ ⟨by omega, by omega⟩ ⟨by omega, by omega⟩ (by omega) HR.out (HW.out.then HB.out.1.1.1.1 (fun i hi e => by omega)) hd0 (by omega) (by omega) HO.out.1 HO.out.2 HS.out.1 HS.out.2 ⟨by omega, by omega⟩ ⟨by omega, by omega⟩ ⟨_, rfl, HB.out.2⟩ HD1.out ?_
  intro vs w2 cs k hm2 hk2 hd2 hA hc
  obtain ⟨A, B, C, A1, A2, B1, B2, C1, C2, rfl⟩ := hA
  have HT : Hold (TrueOf p t u (A * (1000 + r)) (B * (1000 + r)) (C * (1000 + r))) := ⟨r, A, B, C, r1, r2, A1, A2, B1, B2, C1, C2, rfl, rfl, rfl⟩
  have HM : Hold (Mod (fun b => b = db) w w2) := ⟨HB.out.1.1.1.1.then hm2 (fun i hi e => by rcases e with e | e; exact e; omega)⟩
  have HK : Hold (k ≤ k0 + 7 ∧ DrawAt w2 db ao n c k) := ⟨by omega, hd2⟩
  have h4 := hm2.at HB.out.1.1.1.2 (fun e => by omega)
  clear hm2 hk2 hd2 A1 A2 B1 B2 C1 C2
  generalize A * (1000 + r) = X at *
  generalize B * (1000 + r) = Y at *
  generalize C * (1000 + r) = Z at *
  have HC := Hold.mk hc
  obtain ⟨p0, p1, p2, p3, p4⟩ := PlayAt.of h4
  have hp4 : w.heap.size < w2.heap.size := (Array.getElem?_eq_some_iff.1 h4).1
  have hl8 : w.heap.size + 1 + 1 + 1 < w2.heap.size := (Array.getElem?_eq_some_iff.1 hc).1
  have c0 := cellsAt hc 0
  have c1 := cellsAt hc 1
  have c2 := cellsAt hc 2
  have q0 := cells_frozen hc 0
  have q1 := cells_frozen hc 1
  have q2 := cells_frozen hc 2
  clear hc h4
  simp only [dsT, List.foldl_cons, List.foldl_nil]
  have hcase : ¬ X ≤ 1000 * p.slack ∨ (X ≤ 1000 * p.slack ∧ ¬ -1000 * p.slack ≤ X) ∨ (X ≤ 1000 * p.slack ∧ -1000 * p.slack ≤ X ∧ ¬ 0 ≤ Y) ∨ (X ≤ 1000 * p.slack ∧ -1000 * p.slack ≤ X ∧ 0 ≤ Y ∧ ¬ Y ≤ 1000 * p.loose) ∨ (X ≤ 1000 * p.slack ∧ -1000 * p.slack ≤ X ∧ 0 ≤ Y ∧ Y ≤ 1000 * p.loose ∧ ¬ 0 ≤ Z) ∨ (X ≤ 1000 * p.slack ∧ -1000 * p.slack ≤ X ∧ 0 ≤ Y ∧ Y ≤ 1000 * p.loose ∧ 0 ≤ Z ∧ ¬ Z ≤ 1000 * p.loose) ∨ (X ≤ 1000 * p.slack ∧ -1000 * p.slack ≤ X ∧ 0 ≤ Y ∧ Y ≤ 1000 * p.loose ∧ 0 ≤ Z ∧ Z ≤ 1000 * p.loose) := by omega
  rcases hcase with h1 | ⟨h1, h2⟩ | ⟨h1, h2, h3⟩ | ⟨h1, h2, h3, h4⟩ | ⟨h1, h2, h3, h4, h5⟩ | ⟨h1, h2, h3, h4, h5, h6⟩ | ⟨h1, h2, h3, h4, h5, h6⟩
  case' inr.inr.inr.inr.inr.inr =>
    have hg : Hold (goodX p X Y Z = true) := ⟨by unfold goodX; simp only [Bool.and_eq_true, decide_eq_true_eq]; omega⟩
    go_wp2_with fail
    try (have g3 : decide (0 ≤ Y) = false := decide_eq_false (by omega))
    try (have g4 : decide (Y ≤ 1000 * p.loose) = false := decide_eq_false (by omega))
    try (have g5 : decide (0 ≤ Z) = false := decide_eq_false (by omega))
    try (have g6 : decide (Z ≤ 1000 * p.loose) = false := decide_eq_false (by omega))
    go_region
    go_wp2_with fail
    refine bodyPost_ret (v := .tuple #[.agg #[.int .i64 X, .int .i64 Y, .int .i64 Z], .bool true]) (by simp [results, Try.results38, go_sem, *]) rfl ?_
    exact ⟨X, Y, Z, k, by rw [hg.out], HT.out, HM.out.then (thriceN _ _ _ _ _) (fun i hi e => by omega), HK.out.1, (thriceN _ _ _ _ _).at HK.out.2 (by omega)⟩
  all_goals
    have hg : Hold (goodX p X Y Z = false) := ⟨by unfold goodX; simp only [Bool.and_eq_false_iff, decide_eq_false_iff_not]; omega⟩
    go_wp2_with fail
    try (have g3 : decide (0 ≤ Y) = false := decide_eq_false (by omega))
    try (have g4 : decide (Y ≤ 1000 * p.loose) = false := decide_eq_false (by omega))
    try (have g5 : decide (0 ≤ Z) = false := decide_eq_false (by omega))
    try (have g6 : decide (Z ≤ 1000 * p.loose) = false := decide_eq_false (by omega))
    go_region
    go_wp2_with fail
    refine bodyPost_ret (v := .tuple #[.agg #[.int .i64 X, .int .i64 Y, .int .i64 Z], .bool false]) (by simp [results, Try.results38, go_sem, *]) rfl ?_
    exact ⟨X, Y, Z, k, by rw [hg.out], HT.out, HM.out.then (thriceN _ _ _ _ _) (fun i hi e => by omega), HK.out.1, (thriceN _ _ _ _ _).at HK.out.2 (by omega)⟩
end

section
open Go.RowKit Go.Shelf

@[reducible] def g0 : Oper := { dst := some 224, op := Op.load 25 (Operand.tmp 4), type := 25, pos := "outright.go:283", after := #[], guard := none }
@[reducible] def g1 : Oper := { dst := some 225, op := Op.load 42 (Operand.tmp 5), type := 42, pos := "outright.go:283", after := #[], guard := none }
@[reducible] def g2 : Oper := { dst := some 226, op := Op.move (Operand.tmp 21), type := 3, pos := "outright.go:283", after := #[], guard := none }
@[reducible] def g3 : Oper := { dst := some 227, op := Op.indexAddr 42 (Operand.tmp 225) (Operand.tmp 226), type := 0, pos := "outright.go:283", after := #[{ on := 1, ground := Ground.data }, { on := 2, ground := Ground.data }], guard := none }
@[reducible] def g4 : Oper := { dst := some 228, op := Op.load 27 (Operand.tmp 227), type := 27, pos := "outright.go:283", after := #[{ on := 3, ground := Ground.data }], guard := none }
@[reducible] def g5 : Oper := { dst := some 229, op := Op.load 42 (Operand.tmp 6), type := 42, pos := "outright.go:283", after := #[], guard := none }
@[reducible] def g6 : Oper := { dst := some 230, op := Op.move (Operand.tmp 22), type := 3, pos := "outright.go:283", after := #[], guard := none }
@[reducible] def g7 : Oper := { dst := some 231, op := Op.indexAddr 42 (Operand.tmp 229) (Operand.tmp 230), type := 0, pos := "outright.go:283", after := #[{ on := 5, ground := Ground.data }, { on := 6, ground := Ground.data }], guard := none }
@[reducible] def g8 : Oper := { dst := some 232, op := Op.load 27 (Operand.tmp 231), type := 27, pos := "outright.go:283", after := #[{ on := 7, ground := Ground.data }], guard := none }
@[reducible] def g9 : Oper := { dst := some 233, op := Op.move (Operand.tmp 20), type := 58, pos := "outright.go:283", after := #[], guard := none }
@[reducible] def g10 : Oper := { dst := some 234, op := Op.call { callee := Callee.value (Operand.func 38), args := #[Operand.tmp 224, Operand.tmp 228, Operand.tmp 232, Operand.tmp 233], argTypes := #[25, 27, 27, 58] }, type := 62, pos := "outright.go:283", after := #[{ on := 0, ground := Ground.data }, { on := 4, ground := Ground.data }, { on := 8, ground := Ground.data }, { on := 9, ground := Ground.data }], guard := none }
@[reducible] def g11 : Oper := { dst := some 223, op := Op.move (Operand.tmp 234), type := 62, pos := "outright.go:283", after := #[{ on := 10, ground := Ground.data }], guard := none }
@[reducible] def g12 : Oper := { dst := some 235, op := Op.extract (Operand.tmp 223) 0, type := 61, pos := "outright.go:283", after := #[{ on := 11, ground := Ground.data }], guard := none }
@[reducible] def g13 : Oper := { dst := some 236, op := Op.extract (Operand.tmp 223) 1, type := 4, pos := "outright.go:283", after := #[{ on := 11, ground := Ground.data }, { on := 15, ground := Ground.gcOnly Departure.lateStores }], guard := none }
@[reducible] def g14 : Oper := { dst := some 23, op := Op.alloc 61, type := 0, pos := "outright.go:283", after := #[], guard := none }
@[reducible] def g15 : Oper := { dst := none, op := Op.store 61 (Operand.tmp 23) (Operand.tmp 235), type := 0, pos := "outright.go:283", after := #[{ on := 14, ground := Ground.data }, { on := 12, ground := Ground.data }, { on := 10, ground := Ground.chain }, { on := 0, ground := Ground.phase }, { on := 1, ground := Ground.phase }, { on := 2, ground := Ground.phase }, { on := 3, ground := Ground.phase }, { on := 4, ground := Ground.phase }, { on := 5, ground := Ground.phase }, { on := 6, ground := Ground.phase }, { on := 7, ground := Ground.phase }, { on := 8, ground := Ground.phase }, { on := 9, ground := Ground.phase }, { on := 10, ground := Ground.phase }, { on := 11, ground := Ground.phase }, { on := 12, ground := Ground.phase }, { on := 13, ground := Ground.textOnly Departure.lateStores }, { on := 14, ground := Ground.phase }], guard := none }
@[reducible] def g16 : Oper := { dst := some 24, op := Op.assign (Operand.tmp 236), type := 4, pos := "outright.go:283", after := #[{ on := 13, ground := Ground.data }, { on := 15, ground := Ground.chain }, { on := 0, ground := Ground.phase }, { on := 1, ground := Ground.phase }, { on := 2, ground := Ground.phase }, { on := 3, ground := Ground.phase }, { on := 4, ground := Ground.phase }, { on := 5, ground := Ground.phase }, { on := 6, ground := Ground.phase }, { on := 7, ground := Ground.phase }, { on := 8, ground := Ground.phase }, { on := 9, ground := Ground.phase }, { on := 10, ground := Ground.phase }, { on := 11, ground := Ground.phase }, { on := 12, ground := Ground.phase }, { on := 13, ground := Ground.phase }, { on := 14, ground := Ground.phase }, { on := 15, ground := Ground.phase }], guard := none }
@[reducible] def opsG : List Oper := [g0, g1, g2, g3, g4, g5, g6, g7, g8, g9, g10, g11, g12, g13, g14, g15, g16]
@[reducible] def dsG : List (Nat × Nat) := [(0, 224), (1, 225), (2, 226), (3, 227), (4, 228), (5, 229), (6, 230), (7, 231), (8, 232), (9, 233), (10, 234), (11, 223), (12, 235), (13, 236), (14, 23), (16, 24)]

section
variable {o : Oper} {a : Act} {w : World} {x y z : Operand}
theorem run_load42 (hop : o.op = .load 42 x) {b k : Nat} (hx : a.eval x = .pointer (some ⟨b, k, none⟩)) {v : Value} (hc : w.cell? ⟨b, k, none⟩ = some v) : (execOp a.eval o).run Try.prog w = .ok (.value v) w := by
  simp only [execOp, hop, hx]
  go_simp
  done
theorem run_index42 (hop : o.op = .indexAddr 42 x y) {b f n c k : Nat} (hx : a.eval x = .slice (some ⟨b, f, none⟩) n c) (hy : a.eval y = .int .i64 k) (hk : k < n) : (execOp a.eval o).run Try.prog w = .ok (.value (.pointer (some ⟨b, f + k * 7, none⟩))) w := by
  have hk2 : (k : Int) < n := by omega
  simp only [execOp, hop, hx, hy]
  go_simp
  done
theorem run_extract (i : Nat) (hop : o.op = .extract x i) {vs : Array Value} {v : Value} (hx : a.eval x = .tuple vs) (hv : vs[i]? = some v) : (execOp a.eval o).run Try.prog w = .ok (.value v) w := by
  simp only [execOp, hop, hx, Instr.extract, hv]
  go_simp
  done
end
theorem range7 {w : World} {b o : Nat} {e : Edg} (h : EdgeAt w b o e) : w.rangeAt b o [.int .i64 e.k, .int .i64 e.a.1, .int .i64 e.a.2, .int .i64 e.w.1, .int .i64 e.w.2, .int .i64 e.d.1, .int .i64 e.d.2] := by
  intro j v hj
  obtain ⟨c0, c1, c2, c3, c4, c5, c6⟩ := h
  match j, hj with
  | 0, hj => rw [← hj]; exact c0
  | 1, hj => rw [← hj]; exact c1
  | 2, hj => rw [← hj]; exact c2
  | 3, hj => rw [← hj]; exact c3
  | 4, hj => rw [← hj]; exact c4
  | 5, hj => rw [← hj]; exact c5
  | 6, hj => rw [← hj]; exact c6
  | j + 7, hj => simp at hj

/-- What the document's truth gives of these two. -/
def TruV (p : Ply) (t u : Edg) (v : Value) : Prop := ∃ x y z, v = .tuple #[.agg #[.int .i64 x, .int .i64 y, .int .i64 z], .bool (goodX p x y z)] ∧ TrueOf p t u x y z
def TruG (p : Ply) (t u : Edg) (v : Value) : Prop := ∃ x y z, v = .bool (goodX p x y z) ∧ TrueOf p t u x y z
/-- Three numbers lie there. -/
def Threes (b : Nat) (w : World) : Prop := ∃ old : Array Value, old.size = 3 ∧ w.heap[b]? = some (.cells old 61)
/-- What each operation yields. -/
def PG (p : Ply) (t u : Edg) (s db bt ft n ct bh fh m ch k y : Nat) : Nat → Value → World → Prop
  | 0 => fun v _ => v = plV p
  | 1 => fun v _ => v = .slice (some ⟨bt, ft, none⟩) n ct
  | 2 => fun v _ => v = .int .i64 k
  | 3 => fun v _ => v = .pointer (some ⟨bt, ft + k * 7, none⟩)
  | 4 => fun v _ => v = edV t
  | 5 => fun v _ => v = .slice (some ⟨bh, fh, none⟩) m ch
  | 6 => fun v _ => v = .int .i64 y
  | 7 => fun v _ => v = .pointer (some ⟨bh, fh + y * 7, none⟩)
  | 8 => fun v _ => v = edV u
  | 9 => fun v _ => v = .pointer (some ⟨db, 0, none⟩)
  | 10 | 11 => fun v _ => TruV p t u v
  | 12 => fun v _ => ∃ x y z : Int, v = .agg #[.int .i64 x, .int .i64 y, .int .i64 z]
  | 13 | 16 => fun v _ => TruG p t u v
  | 14 => fun v w => ∃ b, v = .pointer (some ⟨b, 0, none⟩) ∧ s ≤ b ∧ b ≠ db ∧ Threes b w
  | _ => fun _ _ => True
/-- The world, however far the region has come. -/
structure WG (db : Nat) (ao : Option Addr) (n c k0 : Nat) (w : World) (D : Nat → Bool) (w' : World) : Prop where
  m : Mod (fun b => b = db) w w'
  d : D 10 = false → DrawAt w' db ao n c k0
  x : D 10 = true → ∃ k, k ≤ k0 + 7 ∧ DrawAt w' db ao n c k
def RG (s db : Nat) (w1 w2 : World) : Prop := ∀ b, s ≤ b → b ≠ db → Threes b w1 → Threes b w2

theorem WG.same {db : Nat} {ao : Option Addr} {n c k0 : Nat} {w w' : World} {D : Nat → Bool} (h : WG db ao n c k0 w D w') {i : Nat} (hi : i ≠ 10) : WG db ao n c k0 w (fun j => j == i || D j) w' := by
  have e : (10 == i || D 10) = D 10 := by simp [Ne.symm hi]
  exact ⟨h.m, fun hd => h.d (by rw [← e]; exact hd), fun hd => h.x (by rw [← e]; exact hd)⟩
theorem WG.later {db : Nat} {ao : Option Addr} {n c k0 : Nat} {w w' w2 : World} {D : Nat → Bool} (h : WG db ao n c k0 w D w') (hm : Mod noB w' w2) : WG db ao n c k0 w D w2 :=
  ⟨h.m.trans (hm.wider fun _ _ e => e.elim), fun hd => hm.at (h.d hd) id, fun hd => by obtain ⟨k, h1, h2⟩ := h.x hd; exact ⟨k, h1, hm.at h2 id⟩⟩
theorem WG.store {db : Nat} {ao : Option Addr} {n c k0 : Nat} {w w' : World} {D : Nat → Bool} (h : WG db ao n c k0 w D w') {b : Nat} {cs : Array Value} (hb : w.heap.size ≤ b) (hne : b ≠ db) : WG db ao n c k0 w D (w'.setRow b cs) := by
  have e : ∀ i, i ≠ b → (w'.setRow b cs).heap[i]? = w'.heap[i]? := fun i hi => setRow_other _ _ _ _ hi
  refine ⟨⟨h.m.os, h.m.tape, h.m.output, by simp only [setRow_size]; exact h.m.size, fun i hi hn => by rw [e i (by omega)]; exact h.m.block i hi hn⟩, fun hd => ?_, fun hd => ?_⟩
  · show (w'.setRow b cs).heap[db]? = _
    rw [e db (Ne.symm hne)]; exact h.d hd
  · obtain ⟨k, h1, h2⟩ := h.x hd
    refine ⟨k, h1, ?_⟩
    show (w'.setRow b cs).heap[db]? = _
    rw [e db (Ne.symm hne)]; exact h2

set_option maxRecDepth 100000 in
set_option maxHeartbeats 8000000 in
theorem region_goes {rid : Nat} {Q : Exit → Act → World → Prop} {a0 : Act} {w : World} {p : Ply} {t u : Edg} {db pb tb hb bt ft n ct bh fh m ch k y k0 ln cp : Nat} {ao : Option Addr} {w0 : World} (hsz : a0.tmps.size = 247)
    (x4 : a0.eval (.tmp 4) = .pointer (some ⟨pb, 0, none⟩)) (x5 : a0.eval (.tmp 5) = .pointer (some ⟨tb, 0, none⟩)) (x6 : a0.eval (.tmp 6) = .pointer (some ⟨hb, 0, none⟩)) (x20 : a0.eval (.tmp 20) = .pointer (some ⟨db, 0, none⟩)) (x21 : a0.eval (.tmp 21) = .int .i64 k) (x22 : a0.eval (.tmp 22) = .int .i64 y)
    (hp : w.heap[pb]? = some (.cells (plC p) 25)) (ht : w.heap[tb]? = some (.cells #[.slice (some ⟨bt, ft, none⟩) n ct] 42)) (hh : w.heap[hb]? = some (.cells #[.slice (some ⟨bh, fh, none⟩) m ch] 42))
    (et : EdgeAt w bt (ft + k * 7) t) (eu : EdgeAt w bh (fh + y * 7) u) (lt : bt < w.heap.size) (lh : bh < w.heap.size) (hk : k < n) (hy : y < m)
    (n1 : pb ≠ db) (n2 : tb ≠ db) (n3 : hb ≠ db) (n4 : bt ≠ db) (n5 : bh ≠ db) (hd : DrawAt w db ao ln cp k0)
    (hcall : ∀ w', Mod (fun b => b = db) w w' → DrawAt w' db ao ln cp k0 → Calls Try.prog 38 #[plV p, edV t, edV u, .pointer (some ⟨db, 0, none⟩)] w' (TrulyN p t u db ao ln cp k0 w'))
    (hend : ∀ (vs : Nat → Value) w' k, Mod (fun b => b = db) w w' → k ≤ k0 + 7 → DrawAt w' db ao ln cp k → TruG p t u (vs 16) → Q .normal (dsG.foldl (fun a x => a.put (some x.2) (vs x.1)) a0) w') : (Code.region rid opsG.toArray true).wp Try.prog Q a0 w := by
  have hdl : db < w.heap.size := (Array.getElem?_eq_some_iff.1 hd).1
  refine region_predW (by kernel_rfl) dsG (PG p t u w.heap.size db bt ft n ct bh fh m ch k y) (WG db ao ln cp k0 w) (RG w.heap.size db) ?_ (by decide) (by decide) ?_ ?_ ?_ ?_ ⟨(Mod.refl _ w).drew, fun _ => hd, fun h => by cases h⟩ ?_ ?_
  · intro j v w1 w2 hP hR
    match j, hP with
    | 14, ⟨b, e, h1, h2, h3⟩ => exact ⟨b, e, h1, h2, hR b h1 h2 h3⟩
    | 0, h => exact h
    | 1, h => exact h
    | 2, h => exact h
    | 3, h => exact h
    | 4, h => exact h
    | 5, h => exact h
    | 6, h => exact h
    | 7, h => exact h
    | 8, h => exact h
    | 9, h => exact h
    | 10, h => exact h
    | 11, h => exact h
    | 12, h => exact h
    | 13, h => exact h
    | 15, h => trivial
    | 16, h => exact h
    | j + 17, h => trivial
  · intro x hx; rw [hsz]
    simp only [dsG, List.mem_cons, List.not_mem_nil, or_false] at hx
    rcases hx with rfl | rfl | rfl | rfl | rfl | rfl | rfl | rfl | rfl | rfl | rfl | rfl | rfl | rfl | rfl | rfl <;> decide
  · intro i o s ho hs
    have hlt : i < 17 := (List.getElem?_eq_some_iff.1 ho).1
    rcases (by omega : i = 0 ∨ i = 1 ∨ i = 2 ∨ i = 3 ∨ i = 4 ∨ i = 5 ∨ i = 6 ∨ i = 7 ∨ i = 8 ∨ i = 9 ∨ i = 10 ∨ i = 11 ∨ i = 12 ∨ i = 13 ∨ i = 14 ∨ i = 15 ∨ i = 16) with rfl | rfl | rfl | rfl | rfl | rfl | rfl | rfl | rfl | rfl | rfl | rfl | rfl | rfl | rfl | rfl | rfl
    all_goals (obtain rfl := Option.some.inj ho; first | (cases hs; done) | (cases hs; decide))
  · intro i o ho hs
    have hlt : i < 17 := (List.getElem?_eq_some_iff.1 ho).1
    rcases (by omega : i = 0 ∨ i = 1 ∨ i = 2 ∨ i = 3 ∨ i = 4 ∨ i = 5 ∨ i = 6 ∨ i = 7 ∨ i = 8 ∨ i = 9 ∨ i = 10 ∨ i = 11 ∨ i = 12 ∨ i = 13 ∨ i = 14 ∨ i = 15 ∨ i = 16) with rfl | rfl | rfl | rfl | rfl | rfl | rfl | rfl | rfl | rfl | rfl | rfl | rfl | rfl | rfl | rfl | rfl
    all_goals (obtain rfl := Option.some.inj ho; first | (exact absurd hs (by decide)) | decide)
  · intro x hx
    simp only [dsG, List.mem_cons, List.not_mem_nil, or_false] at hx
    rcases hx with rfl | rfl | rfl | rfl | rfl | rfl | rfl | rfl | rfl | rfl | rfl | rfl | rfl | rfl | rfl | rfl <;> decide
  · intro D i o ρ w' hcl ho hD hdep EV EO hW
    have hlt : i < 17 := (List.getElem?_eq_some_iff.1 ho).1
    have g1 := hW.m.at hp n1
    have g2 := hW.m.at ht n2
    have g3 := hW.m.at hh n3
    have g4 := et.same (hW.m.block bt lt n4)
    have g5 := eu.same (hW.m.block bh lh n5)
    have hsz' := hW.m.size
    have RR : RG w.heap.size db w' w' := fun b _ _ h => h
    have e4 := (EO 4 (fun x hx e => absurd (e ▸ List.mem_map.2 ⟨x, hx, rfl⟩ : 4 ∈ dsG.map Prod.snd) (by decide))).trans x4
    have e5 := (EO 5 (fun x hx e => absurd (e ▸ List.mem_map.2 ⟨x, hx, rfl⟩ : 5 ∈ dsG.map Prod.snd) (by decide))).trans x5
    have e6 := (EO 6 (fun x hx e => absurd (e ▸ List.mem_map.2 ⟨x, hx, rfl⟩ : 6 ∈ dsG.map Prod.snd) (by decide))).trans x6
    have e20 := (EO 20 (fun x hx e => absurd (e ▸ List.mem_map.2 ⟨x, hx, rfl⟩ : 20 ∈ dsG.map Prod.snd) (by decide))).trans x20
    have e21 := (EO 21 (fun x hx e => absurd (e ▸ List.mem_map.2 ⟨x, hx, rfl⟩ : 21 ∈ dsG.map Prod.snd) (by decide))).trans x21
    have e22 := (EO 22 (fun x hx e => absurd (e ▸ List.mem_map.2 ⟨x, hx, rfl⟩ : 22 ∈ dsG.map Prod.snd) (by decide))).trans x22
    clear EO hcl
    rcases (by omega : i = 0 ∨ i = 1 ∨ i = 2 ∨ i = 3 ∨ i = 4 ∨ i = 5 ∨ i = 6 ∨ i = 7 ∨ i = 8 ∨ i = 9 ∨ i = 10 ∨ i = 11 ∨ i = 12 ∨ i = 13 ∨ i = 14 ∨ i = 15 ∨ i = 16) with rfl | rfl | rfl | rfl | rfl | rfl | rfl | rfl | rfl | rfl | rfl | rfl | rfl | rfl | rfl | rfl | rfl
    all_goals (obtain rfl := Option.some.inj ho)
    · exact wpList_load_row rfl 25 (.tmp 4) rfl pb e4 25 (plC p) (0, 0) _ g1 Try.underlying25 rfl (by kernel_rfl) ⟨rfl, ⟨_, rfl, fun _ => rfl⟩, RR, hW.same (by omega)⟩
    · exact step_val rfl _ (run_load42 rfl e5 (cellsAt g2 0)) ⟨⟨_, rfl, fun _ => rfl⟩, RR, hW.same (by omega)⟩
    · exact step_move rfl (.tmp 21) rfl ⟨⟨_, rfl, fun _ => e21⟩, RR, hW.same (by omega)⟩
    · have v1 := EV 1 225 (by simp) (hdep ⟨1, .data⟩ (by simp) rfl); change _ = _ at v1; have v2 := EV 2 226 (by simp) (hdep ⟨2, .data⟩ (by simp) rfl); change _ = _ at v2
      exact step_val rfl _ (run_index42 rfl v1 v2 hk) ⟨⟨_, rfl, fun _ => rfl⟩, RR, hW.same (by omega)⟩
    · have v3 := EV 3 227 (by simp) (hdep ⟨3, .data⟩ (by simp) rfl); change _ = _ at v3
      exact wpList_load_mid rfl 27 (.tmp 227) rfl bt (ft + k * 7) v3 _ _ (range7 g4) Try.underlying27 rfl (by kernel_rfl) ⟨rfl, ⟨_, rfl, fun _ => rfl⟩, RR, hW.same (by omega)⟩
    · exact step_val rfl _ (run_load42 rfl e6 (cellsAt g3 0)) ⟨⟨_, rfl, fun _ => rfl⟩, RR, hW.same (by omega)⟩
    · exact step_move rfl (.tmp 22) rfl ⟨⟨_, rfl, fun _ => e22⟩, RR, hW.same (by omega)⟩
    · have v5 := EV 5 229 (by simp) (hdep ⟨5, .data⟩ (by simp) rfl); change _ = _ at v5; have v6 := EV 6 230 (by simp) (hdep ⟨6, .data⟩ (by simp) rfl); change _ = _ at v6
      exact step_val rfl _ (run_index42 rfl v5 v6 hy) ⟨⟨_, rfl, fun _ => rfl⟩, RR, hW.same (by omega)⟩
    · have v7 := EV 7 231 (by simp) (hdep ⟨7, .data⟩ (by simp) rfl); change _ = _ at v7
      exact wpList_load_mid rfl 27 (.tmp 231) rfl bh (fh + y * 7) v7 _ _ (range7 g5) Try.underlying27 rfl (by kernel_rfl) ⟨rfl, ⟨_, rfl, fun _ => rfl⟩, RR, hW.same (by omega)⟩
    · exact step_move rfl (.tmp 20) rfl ⟨⟨_, rfl, fun _ => e20⟩, RR, hW.same (by omega)⟩
    · have v0 := EV 0 224 (by simp) (hdep ⟨0, .data⟩ (by simp) rfl); change _ = _ at v0; have v4 := EV 4 228 (by simp) (hdep ⟨4, .data⟩ (by simp) rfl); change _ = _ at v4; have v8 := EV 8 232 (by simp) (hdep ⟨8, .data⟩ (by simp) rfl); change _ = _ at v8; have v9 := EV 9 233 (by simp) (hdep ⟨9, .data⟩ (by simp) rfl); change _ = _ at v9
      refine step_call rfl 38 _ _ rfl (fun _ _ => by kernel_rfl) ?_
      have hargs : (#[Operand.tmp 224, Operand.tmp 228, Operand.tmp 232, Operand.tmp 233] : Array Operand).map ρ.eval = #[plV p, edV t, edV u, .pointer (some ⟨db, 0, none⟩)] := by
        simp only [List.map_toArray, List.map_cons, List.map_nil, v0, v4, v8, v9]
      rw [hargs]
      refine (hcall w' hW.m (hW.d hD)).mono fun e w2 hh => ?_
      obtain ⟨x, y', z, k', rfl, hT, hm, hk', hd'⟩ := hh
      exact ⟨_, rfl, ⟨_, rfl, fun _ => ⟨x, y', z, rfl, hT⟩⟩, (fun b _ hne ⟨old, h1, h2⟩ => ⟨old, h1, hm.at h2 hne⟩), ⟨hW.m.trans hm, (fun h => by simp at h), fun _ => ⟨k', hk', hd'⟩⟩⟩
    · have v10 := EV 10 234 (by simp) (hdep ⟨10, .data⟩ (by simp) rfl)
      exact step_move rfl (.tmp 234) rfl ⟨⟨_, rfl, fun _ => v10⟩, RR, hW.same (by omega)⟩
    · have v11 := EV 11 223 (by simp) (hdep ⟨11, .data⟩ (by simp) rfl)
      obtain ⟨x, y', z, v11, hT⟩ := v11
      exact step_val rfl _ (run_extract 0 rfl v11 rfl) ⟨⟨_, rfl, fun _ => ⟨x, y', z, rfl⟩⟩, RR, hW.same (by omega)⟩
    · have v11 := EV 11 223 (by simp) (hdep ⟨11, .data⟩ (by simp) rfl)
      obtain ⟨x, y', z, v11, hT⟩ := v11
      exact step_val rfl _ (run_extract 1 rfl v11 rfl) ⟨⟨_, rfl, fun _ => ⟨x, y', z, rfl, hT⟩⟩, RR, hW.same (by omega)⟩
    · refine step_run rfl (.pointer (some ⟨w'.heap.size, 0, none⟩)) (w'.alloc (.cells #[.int .i64 0, .int .i64 0, .int .i64 0] 61)) ?_ ⟨⟨_, rfl, fun _ => ⟨w'.heap.size, rfl, hsz', by omega, _, rfl, World.alloc_heap_new w' _⟩⟩, (fun b _ _ ⟨old, h1, h2⟩ => ⟨old, h1, ((Mod.refl noB w').alloc _).at h2 id⟩), (hW.later ((Mod.refl noB w').alloc _)).same (by omega)⟩
      simp only [execOp]
      kernel_rfl
    · have v12 := EV 12 235 (by simp) (hdep ⟨12, .data⟩ (by simp) rfl); have v14 := EV 14 23 (by simp) (hdep ⟨14, .data⟩ (by simp) rfl)
      obtain ⟨x, y', z, v12⟩ := v12
      obtain ⟨b, v14, hb1, hb2, old, hb3, hb4⟩ := v14
      refine wpList_store_row rfl 61 (.tmp 23) (.tmp 235) rfl b _ v14 v12 _ old hb4 (by kernel_rfl) (by rw [hb3]; rfl) (by simp [Value.oneCell']) ⟨rfl, ⟨undef, rfl, fun h => absurd rfl h⟩, fun c _ _ ⟨o2, h1, h2⟩ => ?_, (hW.store hb1 hb2).same (by omega)⟩
      by_cases hcb : c = b
      · subst hcb
        exact ⟨_, rfl, setRow_heap _ _ _ _ _ _ hb4⟩
      · exact ⟨o2, h1, (setRow_other _ _ _ _ hcb).trans h2⟩
    · have v13 := EV 13 236 (by simp) (hdep ⟨13, .data⟩ (by simp) rfl)
      exact step_assign rfl (.tmp 236) rfl ⟨⟨_, rfl, fun _ => v13⟩, RR, hW.same (by omega)⟩
  · intro vs D w' hall hP hW
    obtain ⟨k', hk1, hk2⟩ := hW.x (hall 10 (by decide))
    exact hend vs w' k' hW.m hk1 hk2 (hP (16, 24) (by simp))
end
end Go.Proofs.Ytnjbamikfjdofaa

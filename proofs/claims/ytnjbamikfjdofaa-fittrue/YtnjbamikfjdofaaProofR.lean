/- FitTrue: the row: on all that is allowed, all sides, spans, numbers of strokes and raw numbers the walk ends, with true, and the input reads as it did. -/
import Derived.Test.YtnjbamikfjdofaaShut
import Derived.Carry
import Derived.Test.YtnjbamikfjdofaaTruA
import Derived.Test.YtnjbamikfjdofaaLawRb
set_option linter.unusedSimpArgs false
set_option linter.unusedVariables false
namespace Go.Proofs.Ytnjbamikfjdofaa
section
open Go.ChangeShapes Go.WideShapes Go.ChangeAt Go.RowKit Go.Joins
section
variable {H : Type} {enc : TypeId × Value → H} {P : Program} {w : World} {base : Nat} {spare : Nat → Bool} {held : Bool}
theorem trodAll_five {t0 t1 t2 t3 t4 : TypeId} {args : Array Value} {ds : List (DataW H)} {ps : List MemPlace} (h : DataW.TrodAll enc P w base spare held [t0, t1, t2, t3, t4] args.toList ds ps) :
    ∃ v0 v1 v2 v3 v4 d0 d1 d2 d3 d4 p0 p1 p2 p3 p4, args = #[v0, v1, v2, v3, v4] ∧ ds = [d0, d1, d2, d3, d4] ∧ ps = p0 ++ (p1 ++ (p2 ++ (p3 ++ p4))) ∧ DataW.Trod enc P w base spare held t0 v0 d0 p0 ∧ DataW.Trod enc P w base spare held t1 v1 d1 p1 ∧
      DataW.Trod enc P w base spare held t2 v2 d2 p2 ∧ DataW.Trod enc P w base spare held t3 v3 d3 p3 ∧ DataW.Trod enc P w base spare held t4 v4 d4 p4 := by
  obtain ⟨v0, vs0, d0, ds0, p0, q0, hargs, rfl, rfl, hd0, h0⟩ := trodAll_cons h
  obtain ⟨v1, vs1, d1, ds1, p1, q1, rfl, rfl, rfl, hd1, h1⟩ := trodAll_cons h0
  obtain ⟨v2, vs2, d2, ds2, p2, q2, rfl, rfl, rfl, hd2, h2⟩ := trodAll_cons h1
  obtain ⟨v3, vs3, d3, ds3, p3, q3, rfl, rfl, rfl, hd3, h3⟩ := trodAll_cons h2
  obtain ⟨v4, vs4, d4, ds4, p4, q4, rfl, rfl, rfl, hd4, h4⟩ := trodAll_cons h3
  obtain ⟨rfl, rfl, rfl⟩ := trodAll_nil h4
  exact ⟨v0, v1, v2, v3, v4, d0, d1, d2, d3, d4, p0, p1, p2, p3, p4, by cases args; simp_all, rfl, by simp, hd0, hd1, hd2, hd3, hd4⟩
theorem trodAll_mk5 {t0 t1 t2 t3 t4 : TypeId} {v0 v1 v2 v3 v4 : Value} {d0 d1 d2 d3 d4 : DataW H} {p0 p1 p2 p3 p4 : List MemPlace} (h0 : DataW.Trod enc P w base spare held t0 v0 d0 p0) (h1 : DataW.Trod enc P w base spare held t1 v1 d1 p1)
    (h2 : DataW.Trod enc P w base spare held t2 v2 d2 p2) (h3 : DataW.Trod enc P w base spare held t3 v3 d3 p3) (h4 : DataW.Trod enc P w base spare held t4 v4 d4 p4) :
    DataW.TrodAll enc P w base spare held [t0, t1, t2, t3, t4] [v0, v1, v2, v3, v4] [d0, d1, d2, d3, d4] (p0 ++ (p1 ++ (p2 ++ (p3 ++ p4)))) := ⟨p0, p1 ++ (p2 ++ (p3 ++ p4)), h0, trodAll_mk4 h1 h2 h3 h4, rfl⟩
theorem trodAll_six {t0 t1 t2 t3 t4 t5 : TypeId} {args : Array Value} {ds : List (DataW H)} {ps : List MemPlace} (h : DataW.TrodAll enc P w base spare held [t0, t1, t2, t3, t4, t5] args.toList ds ps) :
    ∃ v0 v1 v2 v3 v4 v5 d0 d1 d2 d3 d4 d5 p0 p1 p2 p3 p4 p5, args = #[v0, v1, v2, v3, v4, v5] ∧ ds = [d0, d1, d2, d3, d4, d5] ∧ ps = p0 ++ (p1 ++ (p2 ++ (p3 ++ (p4 ++ p5)))) ∧ DataW.Trod enc P w base spare held t0 v0 d0 p0 ∧ DataW.Trod enc P w base spare held t1 v1 d1 p1 ∧
      DataW.Trod enc P w base spare held t2 v2 d2 p2 ∧ DataW.Trod enc P w base spare held t3 v3 d3 p3 ∧ DataW.Trod enc P w base spare held t4 v4 d4 p4 ∧ DataW.Trod enc P w base spare held t5 v5 d5 p5 := by
  obtain ⟨v0, vs0, d0, ds0, p0, q0, hargs, rfl, rfl, hd0, h0⟩ := trodAll_cons h
  obtain ⟨v1, vs1, d1, ds1, p1, q1, rfl, rfl, rfl, hd1, h1⟩ := trodAll_cons h0
  obtain ⟨v2, vs2, d2, ds2, p2, q2, rfl, rfl, rfl, hd2, h2⟩ := trodAll_cons h1
  obtain ⟨v3, vs3, d3, ds3, p3, q3, rfl, rfl, rfl, hd3, h3⟩ := trodAll_cons h2
  obtain ⟨v4, vs4, d4, ds4, p4, q4, rfl, rfl, rfl, hd4, h4⟩ := trodAll_cons h3
  obtain ⟨v5, vs5, d5, ds5, p5, q5, rfl, rfl, rfl, hd5, h5⟩ := trodAll_cons h4
  obtain ⟨rfl, rfl, rfl⟩ := trodAll_nil h5
  exact ⟨v0, v1, v2, v3, v4, v5, d0, d1, d2, d3, d4, d5, p0, p1, p2, p3, p4, p5, by cases args; simp_all, rfl, by simp, hd0, hd1, hd2, hd3, hd4, hd5⟩
theorem trodAll_mk6 {t0 t1 t2 t3 t4 t5 : TypeId} {v0 v1 v2 v3 v4 v5 : Value} {d0 d1 d2 d3 d4 d5 : DataW H} {p0 p1 p2 p3 p4 p5 : List MemPlace} (h0 : DataW.Trod enc P w base spare held t0 v0 d0 p0) (h1 : DataW.Trod enc P w base spare held t1 v1 d1 p1)
    (h2 : DataW.Trod enc P w base spare held t2 v2 d2 p2) (h3 : DataW.Trod enc P w base spare held t3 v3 d3 p3) (h4 : DataW.Trod enc P w base spare held t4 v4 d4 p4) (h5 : DataW.Trod enc P w base spare held t5 v5 d5 p5) :
    DataW.TrodAll enc P w base spare held [t0, t1, t2, t3, t4, t5] [v0, v1, v2, v3, v4, v5] [d0, d1, d2, d3, d4, d5] (p0 ++ (p1 ++ (p2 ++ (p3 ++ (p4 ++ p5))))) := ⟨p0, p1 ++ (p2 ++ (p3 ++ (p4 ++ p5))), h0, trodAll_mk5 h1 h2 h3 h4 h5, rfl⟩
end
end

section
open Go.ChangeShapes Go.WideShapes Go.ChangeAt Go.RowKit Go.Joins

theorem cellsOf72 : Try.prog.cellsOf 72 = 1 := by kernel_rfl
section
variable {H : Type} {enc : TypeId × Value → H} {W : World} {base : Nat} {sp : Nat → Bool} {held : Bool}
set_option maxRecDepth 100000 in
/-- A list of raw numbers that came in. -/
theorem raws_opened {r : Reach} {v : Value} {d : DataW H} {p : List MemPlace} (hv : Value.okWide Try.prog W r base 53 v) (h : DataW.Trod enc Try.prog W 0 sp held 53 v d p) :
    ∃ (ao : Option Addr) (n cap : Nat), v = .slice ao n cap ∧ n ≤ 9223372036854775807 ∧ (1 ≤ n → RawAt W ao n) := by
  obtain ⟨fuel, hf⟩ := h
  have hc : ∀ c : Value, v.cells.toList = [c] → v = c ∨ ∃ cs, v = .agg cs := by
    intro c hc
    cases v <;> first | (left; simpa [Value.cells] using hc) | exact .inr ⟨_, rfl⟩
  have hag : ¬ ∃ cs, v = .agg cs := by
    rintro ⟨cs, rfl⟩
    simp only [Value.okWide, Try.underlying53, Cell.okWide, Cell.ok] at hv
  rcases DataW.trod_slice Try.underlying53 hf with ⟨e, _⟩ | ⟨a, len, cap, elems, rest, n, _, e, _, _, hl, hm, hlen, hel, _⟩
  · rcases hc _ e with rfl | h
    · exact ⟨none, 0, 0, rfl, by omega, fun h => by omega⟩
    · exact absurd h hag
  · rcases hc _ e with rfl | h
    case inr => exact absurd h hag
    rw [cellsOf72] at hel
    have each : ∀ i, i < len → ∃ x : Int, 0 ≤ x ∧ x ≤ 65535 ∧ W.cell? ((a.add (i * 1)).add 0) = some (.int .u16 x) := by
      intro i hi
      have h1 := hel i hi
      obtain ⟨y, hy⟩ : ∃ y, elems[i]? = some y := ⟨_, List.getElem?_eq_getElem (by omega)⟩
      rw [hy, Option.bind_eq_some_iff] at h1
      obtain ⟨cs, hcs, ht⟩ := h1
      obtain ⟨x, rfl, _, hw⟩ := DataW.trod_int Try.underlying72 ht
      have hb : 0 ≤ x ∧ x ≤ 65535 := by
        simp only [Lit.wf, Bool.and_eq_true, decide_eq_true_eq] at hw
        exact hw
      exact ⟨x, hb.1, hb.2, (World.cells?_some hcs).2.2 0 (by omega)⟩
    have hmx : cap ≤ 9223372036854775807 := hm
    refine ⟨some a, len, cap, rfl, by omega, fun h1 => ?_⟩
    obtain ⟨x0, _, _, hc0⟩ := each 0 (by omega)
    rw [show a.add (0 * 1) = a by simp [Addr.add]] at hc0
    obtain ⟨b, off, rfl⟩ := spot_none hc0
    refine ⟨h1, by omega, b, off, rfl, World.block_lt_of_cell? _ _ (by simpa [Addr.add] using hc0), fun j hj => ?_⟩
    obtain ⟨x, x0, x1, hx⟩ := each j hj
    rw [add_plain, add_plain, Nat.mul_one, Nat.add_zero] at hx
    exact ⟨x, x0, x1, hx⟩
end
end

section
open Go.RowKit Go.Shelf
theorem wornE_good {s : Edg} (hs : sideB s = true) {r : Int × Int} (hr : withinB r 0 100 = true) (hk : s.k = 1 ∨ s.k = 2) {n : Int} (h0 : 0 ≤ n) (h1 : n ≤ 20000) :
    wornE s r n = if wornB s r n then (wornR s r n, 0) else (zeroE, 11) := by
  have k0 : ¬ s.k = 0 := by omega
  simp [wornE, hs, hr, k0, h0, h1]

theorem least3_zot (a b c : Int) : least3 a b c = 0 ∨ least3 a b c = 1 ∨ least3 a b c = 2 := by
  unfold least3
  split
  · exact .inl rfl
  · split
    · exact .inr (.inr rfl)
    · exact .inr (.inl rfl)


theorem rounded_small {s : Int × Int} (h : Small 11000000000 s) : Small 100000000 (roundedR s) := by
  obtain ⟨⟨h1, h2⟩, h3, h4⟩ := h
  unfold roundedR
  refine ⟨⟨?_, ?_⟩, ?_, ?_⟩ <;> simp only <;> omega

theorem side_esmall {s : Edg} (h : sideB s = true) (hk : s.k ≠ 0) : ESmall 20000 s := by
  simp only [sideB, Bool.or_eq_true, Bool.and_eq_true, beq_iff_eq] at h
  rcases h with h | ⟨h1, ⟨h2, h3⟩, h4⟩
  · exact absurd h hk
  · exact ⟨within_small h2 (by omega) (by omega), within_small h3 (by omega) (by omega), within_small h4 (by omega) (by omega)⟩

set_option maxHeartbeats 2000000 in
theorem fitTrue_any (p : Ply) (a b : Edg) (r : Int × Int) (n : Int) (ao : Option Addr) (ln cp : Nat) (w : World) (hl : ln ≤ 9223372036854775807) (hR : 1 ≤ ln → RawAt w ao ln) (hn : -9223372036854775808 ≤ n ∧ n ≤ 9223372036854775807) :
    Calls Try.prog 7 #[plV p, edV a, edV b, spV r, .int .i64 n, .slice ao ln cp] w fun e w' => e = .returned (.bool true) ∧ Mod noB w w' := by
  have P := fun (x : Bool) (h : playB p = x) => Hold.mk (fun w => by rw [← h]; exact refPlay_any p w : ∀ w, Calls Try.prog 35 #[plV p] w fun e w' => e = .returned (.bool x) ∧ Mod noB w w')
  have S := fun (y : Edg) (x : Bool) (h : sideB y = x) => Hold.mk (fun w => by rw [← h]; exact refSide_any y w : ∀ w, Calls Try.prog 36 #[edV y] w fun e w' => e = .returned (.bool x) ∧ Mod noB w w')
  rcases Nat.eq_zero_or_pos ln with h0 | h1
  · exact true_skip p a b r n ao ln cp w _ _ _ hl (P _ rfl) (S a _ rfl) (S b _ rfl) (.inl h0)
  cases hp : playB p with
  | false => exact true_skip p a b r n ao ln cp w _ _ _ hl (P _ hp) (S a _ rfl) (S b _ rfl) (.inr (.inl ⟨h1, rfl⟩))
  | true =>
  cases ha : sideB a with
  | false => exact true_skip p a b r n ao ln cp w _ _ _ hl (P _ hp) (S a _ ha) (S b _ rfl) (.inr (.inr (.inl ⟨h1, rfl, rfl⟩)))
  | true =>
  cases hb : sideB b with
  | false => exact true_skip p a b r n ao ln cp w _ _ _ hl (P _ hp) (S a _ ha) (S b _ hb) (.inr (.inr (.inr ⟨h1, rfl, rfl, rfl⟩)))
  | true =>
  have hv : (playB p && (sideB a && sideB b)) = true := by rw [hp, ha, hb]; rfl
  have hf : fitE p a b = (fitR p a b, 0) := by unfold fitE; rw [hv]; rfl
  obtain ⟨hb2, hb1⟩ := both_ordered a b
  have HO := fun w => both_any a b w
  cases ho : (orderedR a b).2 with
  | false =>
    have hz : fitR p a b = 0 := by rw [fitR_of, ho]; rfl
    rw [hz] at hf
    rw [ho] at hb2
    rw [hb2] at HO
    exact true_flat p a b _ _ r n ao ln cp w hl h1 (P _ hp) (S a _ ha) (S b _ hb) ⟨fun w => callFit p a b _ 0 hf w⟩ ⟨fun w => callBetween p a b zeroG 6 (by unfold betweenE; rw [hv, ho]; rfl) w⟩ ⟨HO⟩
  | true =>
    have hg : betweenE p a b = (gapR p (orderedR a b).1.1 (orderedR a b).1.2, 0) := by unfold betweenE; rw [hv, ho]; rfl
    have hr : fitR p a b = least3 (v1R p (orderedR a b).1.1 (orderedR a b).1.2) (v2R p (orderedR a b).1.1 (orderedR a b).1.2) (v3R p (orderedR a b).1.1 (orderedR a b).1.2) := by rw [fitR_of, ho]; rfl
    rw [ho] at hb2
    have hb3 := hb1 hb2
    rw [hb2, hb3] at HO
    obtain ⟨kt, kh⟩ := ordered_kinds ho
    obtain ⟨st, sh⟩ := ordered_sides ha hb
    have ot := side_ordered st (by omega)
    have oh := side_ordered sh (by omega)
    obtain ⟨et, eh⟩ := ordered_small ha hb ho
    have hka : a.k = 1 ∨ a.k = 2 := by
      unfold orderedR at ho
      split at ho
      · exact .inr (by assumption)
      · simp only [Bool.and_eq_true, beq_iff_eq] at ho
        exact .inl ho.1
    have G := fun w => callBetween p a b _ 0 hg w
    rw [hr] at hf
    generalize (orderedR a b).1.1 = t at *
    generalize (orderedR a b).1.2 = u at *
    have hN := least3_zot (v1R p t u) (v2R p t u) (v3R p t u)
    have hT : ∀ x y z, TrueOf p t u x y z → TruthN p (gapR p t u) (least3 (v1R p t u) (v2R p t u) (v3R p t u)) x y z := fun x y z h => by
      obtain ⟨c1, c2, c3, c4, c5, c6, c7, c8⟩ := truth_ok hp ot oh h
      exact ⟨c1, c2, c3, c4, c5, c6, c7, c8⟩
    obtain ⟨pl, _, _, d1, d2, d3⟩ := play_facts hp
    obtain ⟨z1, z2, z3⟩ := differ_small et eh (n := p.len) (by omega)
    have sd : Small 100 p.damp := ⟨⟨by omega, by omega⟩, by omega, by omega⟩
    have hgs : (Small 100000000 (gapR p t u).1 ∧ Small 100000000 (gapR p t u).2.1) ∧ Small 100000000 (gapR p t u).2.2 :=
      ⟨⟨rounded_small ((dampedR_small z1 sd).le (by omega)), rounded_small ((dampedR_small z2 sd).le (by omega))⟩, rounded_small ((dampedR_small z3 sd).le (by omega))⟩
    have T1 : ∀ W db, Mod noB w W → w.heap.size ≤ db → DrawAt W db ao ln cp 0 → Calls Try.prog 38 #[plV p, edV t, edV u, .pointer (some ⟨db, 0, none⟩)] W (TrulyPost p t u db ao ln cp W) := fun W db hm hd hD =>
      truly_any p t u w W db ao ln cp 0 hp ot oh (side_esmall st (by omega)) (side_esmall sh (by omega)) (hR h1) hm hd hD (by omega)
    have D1 : ∀ W db k s, Mod noB w W → w.heap.size ≤ db → DrawAt W db ao ln cp k → k ≤ 1001 → s.1 ≤ s.2 → Small 1000000 s → Calls Try.prog 39 #[.pointer (some ⟨db, 0, none⟩), spV s] W (OfPost s db ao ln cp k W) := fun W db k s hm hd hD hk hs hsm =>
      of_any w W db ao ln cp k s (hR h1) hm hd hD (by omega) hs hsm
    obtain ⟨oa, ow, od⟩ := side_ordered ha (by omega)
    obtain ⟨_, sw, _⟩ := side_esmall ha (by omega)
    have key : ∀ (s' : Edg) (er : Int), wornE a r n = (s', er) → ((er = 2 ∨ er = 11) ∧ s' = zeroE) ∨ (er = 0 ∧ s' = wornR a r n ∧ 0 ≤ r.1 ∧ r.1 ≤ r.2 ∧ r.2 ≤ 100 ∧ 0 ≤ n ∧ n ≤ 20000 ∧ Small 1000000 (wornR a r n).w) := by
      intro s' er he
      cases hr0 : withinB r 0 100 with
      | false =>
        have : wornE a r n = (zeroE, 2) := by simp [wornE, ha, hr0]
        rw [this] at he; cases he
        exact .inl ⟨.inl rfl, rfl⟩
      | true =>
        by_cases hn0 : 0 ≤ n ∧ n ≤ 20000
        · rw [wornE_good ha hr0 hka hn0.1 hn0.2] at he
          cases hw : wornB a r n with
          | false => rw [hw] at he; cases he; exact .inl ⟨.inr rfl, rfl⟩
          | true =>
            rw [hw] at he; cases he
            have hw2 := hw
            rw [wornB_def] at hw2
            simp only [withinB, Bool.and_eq_true, decide_eq_true_eq] at hr0 hw2
            exact .inr ⟨rfl, rfl, hr0.1.1, hr0.1.2, hr0.2, hn0.1, hn0.2, ⟨⟨by omega, by omega⟩, by omega, by omega⟩⟩
        · have : wornE a r n = (zeroE, 2) := by
            have hd : (decide (0 ≤ n) && decide (n ≤ 20000)) = false := by
              simp only [Bool.and_eq_false_iff, decide_eq_false_iff_not]; omega
            simp only [wornE, ha, hr0, hd, if_true]; rfl
          rw [this] at he; cases he
          exact .inl ⟨.inl rfl, rfl⟩
    obtain ⟨⟨s', er⟩, he⟩ : ∃ x, wornE a r n = x := ⟨_, rfl⟩
    refine true_ok p a b t u r n ao ln cp w _ _ s' er (wornR a r n).w hl h1 ⟨hN⟩ ⟨hgs⟩ ⟨hT⟩ (P _ hp) (S a _ ha) (S b _ hb) ⟨fun w => callFit p a b _ 0 hf w⟩ ⟨G⟩ ⟨HO⟩ ⟨T1⟩ ⟨fun w => callWorn a r n s' er he w⟩ ⟨D1⟩ ⟨hka⟩ ⟨?_⟩ ⟨?_⟩
    · rcases key _ _ he with h | ⟨e1, e2, e3, e4, e5, e6, e7, e8⟩
      · exact .inl h
      · exact .inr ⟨e1, e2, e3, e4, e5, e6, e7, ⟨ow, sw.le (by omega)⟩, e8⟩
    · intro v q v1 v2 q1 q2 hn0 _
      exact ⟨fun hk => worn_mem_tab hk v1 v2 q1 q2 hn0, fun hk => worn_mem_hole hk v1 v2 q1 q2 hn0⟩
end

section
open Go.ChangeShapes Go.WideShapes Go.ChangeAt Go.RowKit Go.Joins

set_option maxRecDepth 100000 in
theorem fitTrue_lifted (os : Os) (started : os.Started) (H : Type) (enc : TypeId × Value → H) :
    ReturnsInHanded {} Try.checked os 7 .any (Rows.fitTrueSpec.pre6 enc Try.prog Try.f7 Rows.fitTrueRow.domain false) (Rows.fitTrueSpec.post enc Try.prog Try.f7 false true false false) := by
  refine returnsInHanded_of_change (C := Try.checked) Try.own started (by kernel_rfl) Try.func7
    (ChangeSpec.witness6 (enc := enc) (C := Try.checked) false ⟨#[], #[plV ⟨0, 0, 0, (0, 0)⟩, edV ⟨0, (0, 0), (0, 0), (0, 0)⟩, edV ⟨0, (0, 0), (0, 0), (0, 0)⟩, spV (0, 0), .int .i64 0, .slice none 0 0], []⟩ 8 (by kernel_rfl) (by kernel_rfl) (by kernel_rfl) (by kernel_rfl)) ?_
  intro W base args ds gs before hval0 hW hcnd _
  have hval : ∀ (j : Nat) t v, Try.f7.params[j]? = some t → args[j]? = some v → Value.okWide Try.prog W .any base t v := hval0
  have hW' := hW
  obtain ⟨p, q, hA0, hV, rfl, hfz, hnd⟩ := hW
  have hA : DataW.TrodAll enc Try.prog W 0 (fun _ => true) true Try.f7.params.toList args.toList ds p := hA0
  rw [Try.params7] at hA hval
  obtain ⟨v0, v1, v2, v3, v4, v5, d0, d1, d2, d3, d4, d5, p0, p1, p2, p3, p4, p5, rfl, rfl, rfl, h0, h1, h2, h3, h4, h5⟩ := trodAll_six hA
  obtain ⟨rfl, rfl⟩ := trodVars_none hV
  obtain ⟨pl, rfl⟩ := play_opened (hval 0 25 v0 rfl rfl) h0
  obtain ⟨a, rfl⟩ := edge_opened (hval 1 27 v1 rfl rfl) h1
  obtain ⟨b, rfl⟩ := edge_opened (hval 2 27 v2 rfl rfl) h2
  obtain ⟨r, rfl⟩ := span_opened (hval 3 23 v3 rfl rfl) h3
  obtain ⟨n, rfl, rfl, rfl, wn⟩ := open_int Try.underlying3 (hval 4 3 v4 rfl rfl) h4
  obtain ⟨ao, ln, cp, rfl, hl, hR⟩ := raws_opened (hval 5 53 v5 rfl rfl) h5
  clear hA0 hval0 hval hA hfz hnd hcnd
  have hlt0 : ∀ x ∈ p0, x.block < W.heap.size := fun x hx => hW'.lt x (by simp [hx])
  have hlt1 : ∀ x ∈ p1, x.block < W.heap.size := fun x hx => hW'.lt x (by simp [hx])
  have hlt2 : ∀ x ∈ p2, x.block < W.heap.size := fun x hx => hW'.lt x (by simp [hx])
  have hlt3 : ∀ x ∈ p3, x.block < W.heap.size := fun x hx => hW'.lt x (by simp [hx])
  have hlt5 : ∀ x ∈ p5, x.block < W.heap.size := fun x hx => hW'.lt x (by simp [hx])
  refine (fitTrue_any pl a b r n ao ln cp W hl hR (wf_bounds wn)).mono fun e W' ⟨he, hw⟩ => ?_
  subst he
  have bel : Below W.heap.size W W' := hw.below
  have z0 := Below.trod Try.laidOut (by kernel_rfl) (of_decide_eq_true (by kernel_rfl)) h0 bel hlt0
  have z1 := Below.trod Try.laidOut (by kernel_rfl) (of_decide_eq_true (by kernel_rfl)) h1 bel hlt1
  have z2 := Below.trod Try.laidOut (by kernel_rfl) (of_decide_eq_true (by kernel_rfl)) h2 bel hlt2
  have z3 := Below.trod Try.laidOut (by kernel_rfl) (of_decide_eq_true (by kernel_rfl)) h3 bel hlt3
  have z5 := Below.trod Try.laidOut (by kernel_rfl) (of_decide_eq_true (by kernel_rfl)) h5 bel hlt5
  exact ⟨_, rfl, _, _, _, [], _, [], hW', trodAll_mk1 (shut_bool Try.underlying4 _), trodAll_mk6 z0 z1 z2 z3 (shut_int Try.underlying3 wn) z5, rfl, bel.frame _, fun h => by cases h⟩

theorem fitTrue_holds : Rows.FitTrueSaid :=
  OpenClaim.holds_of_wide 7 Try.f7 rfl rfl rfl rfl rfl rfl rfl ⟨rfl, rfl, rfl, rfl, rfl⟩ rfl rfl rfl rfl rfl (by kernel_rfl) Try.func7 (by kernel_rfl)
    (of_decide_eq_true (by kernel_rfl)) (by unfold Func.isWrapper; rw [if_neg (by decide +kernel)]; exact ⟨rfl, rfl⟩)
    (fun os started H enc _ => fitTrue_lifted os started H enc)
end
end Go.Proofs.Ytnjbamikfjdofaa

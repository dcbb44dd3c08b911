/- FitPairings: the row: on all that is allowed, all tabs and holes and raw numbers the walk ends, with true, and the input reads as it did. -/
import Derived.Test.YtnjbamikfjdofaaShut
import Derived.Test.YtnjbamikfjdofaaPrX
import Derived.Carry
set_option linter.unusedSimpArgs false
set_option linter.unusedVariables false
namespace Go.Proofs.Ytnjbamikfjdofaa
section
open Go.ChangeShapes Go.WideShapes Go.ChangeAt Go.RowKit Go.Joins

theorem cellsOf72 : Try.prog.cellsOf 72 = 1 := by kernel_rfl
section
variable {H : Type} {enc : TypeId × Value → H} {W : World} {base : Nat} {sp : Nat → Bool} {held : Bool}
set_option maxRecDepth 100000 in
/-- A list of raw numbers that came in. -/
theorem raws_opened {r : Reach} {v : Value} {d : DataW H} {p : List MemPlace} (hv : Value.okWide Try.prog W r base 53 v) (h : DataW.Trod enc Try.prog W 0 sp held 53 v d p) :
    ∃ (ao : Option Addr) (n cap : Nat), v = .slice ao n cap ∧ n ≤ 9223372036854775807 ∧ (1 ≤ n → RawAt W ao n) := by
  obtain ⟨fuel, hf⟩ := h
  have hc : ∀ c : Value, v.cells.toList = [c] → v = c ∨ ∃ cs, v = .agg cs := by
    intro c hc
    cases v <;> first | (left; simpa [Value.cells] using hc) | exact .inr ⟨_, rfl⟩
  have hag : ¬ ∃ cs, v = .agg cs := by
    rintro ⟨cs, rfl⟩
    simp only [Value.okWide, Try.underlying53, Cell.okWide, Cell.ok] at hv
  rcases DataW.trod_slice Try.underlying53 hf with ⟨e, _⟩ | ⟨a, len, cap, elems, rest, n, _, e, _, _, hl, hm, hlen, hel, _⟩
  · rcases hc _ e with rfl | h
    · exact ⟨none, 0, 0, rfl, by omega, fun h => by omega⟩
    · exact absurd h hag
  · rcases hc _ e with rfl | h
    case inr => exact absurd h hag
    rw [cellsOf72] at hel
    have each : ∀ i, i < len → ∃ x : Int, 0 ≤ x ∧ x ≤ 65535 ∧ W.cell? ((a.add (i * 1)).add 0) = some (.int .u16 x) := by
      intro i hi
      have h1 := hel i hi
      obtain ⟨y, hy⟩ : ∃ y, elems[i]? = some y := ⟨_, List.getElem?_eq_getElem (by omega)⟩
      rw [hy, Option.bind_eq_some_iff] at h1
      obtain ⟨cs, hcs, ht⟩ := h1
      obtain ⟨x, rfl, _, hw⟩ := DataW.trod_int Try.underlying72 ht
      have hb : 0 ≤ x ∧ x ≤ 65535 := by
        simp only [Lit.wf, Bool.and_eq_true, decide_eq_true_eq] at hw
        exact hw
      exact ⟨x, hb.1, hb.2, (World.cells?_some hcs).2.2 0 (by omega)⟩
    have hmx : cap ≤ 9223372036854775807 := hm
    refine ⟨some a, len, cap, rfl, by omega, fun h1 => ?_⟩
    obtain ⟨x0, _, _, hc0⟩ := each 0 (by omega)
    rw [show a.add (0 * 1) = a by simp [Addr.add]] at hc0
    obtain ⟨b, off, rfl⟩ := spot_none hc0
    refine ⟨h1, by omega, b, off, rfl, World.block_lt_of_cell? _ _ (by simpa [Addr.add] using hc0), fun j hj => ?_⟩
    obtain ⟨x, x0, x1, hx⟩ := each j hj
    rw [add_plain, add_plain, Nat.mul_one, Nat.add_zero] at hx
    exact ⟨x, x0, x1, hx⟩
end
end
section
open Go.RowKit Go.Shelf

theorem side_esmall {s : Edg} (h : sideB s = true) (hk : s.k ≠ 0) : ESmall 20000 s := by
  simp only [sideB, Bool.or_eq_true, Bool.and_eq_true, beq_iff_eq] at h
  rcases h with h | ⟨h1, ⟨h2, h3⟩, h4⟩
  · exact absurd h hk
  · exact ⟨within_small h2 (by omega) (by omega), within_small h3 (by omega) (by omega), within_small h4 (by omega) (by omega)⟩

theorem fitPairings_any (p : Ply) (tt ho ao : Option Addr) (n m ct ch ln cp : Nat) (w : World) (hn : n ≤ 9223372036854775807) (hm : m ≤ 9223372036854775807) (hl : ln ≤ 9223372036854775807)
    (ht : n ≤ 1000 → ∃ es : List Edg, es.length = n ∧ EdgesAt w tt es) (hh : m ≤ 1000 → ∃ es : List Edg, es.length = m ∧ EdgesAt w ho es) (hR : 1 ≤ ln → RawAt w ao ln) :
    Calls Try.prog 11 #[plV p, .slice tt n ct, .slice ho m ch, .slice ao ln cp] w fun e w' => e = .returned (.bool true) ∧ Mod noB w w' := by
  by_cases hc : 12 < n ∨ (n ≤ 12 ∧ 12 < m) ∨ (n ≤ 12 ∧ m ≤ 12 ∧ ln = 0)
  · exact pr_skip p tt ho ao n m ct ch ln cp w hn hm hl hc
  have g1 : n ≤ 12 := by omega
  have g2 : m ≤ 12 := by omega
  have g3 : 1 ≤ ln := by omega
  obtain ⟨tabs, en, hte⟩ := ht (by omega)
  obtain ⟨holes, em, hhe⟩ := hh (by omega)
  clear hc ht hh
  have err : ∀ er : Int, (er = 1 ∨ er = 2 ∨ er = 3 ∨ er = 6) → pairsE p tabs holes = ([], [], er) → Calls Try.prog 11 #[plV p, .slice tt n ct, .slice ho m ch, .slice ao ln cp] w fun e w' => e = .returned (.bool true) ∧ Mod noB w w' := fun er he hp =>
    pr_err p tt ho ao n m ct ch ln cp w er g1 g2 hl g3 he ⟨fun w' hw => callPairs p tabs holes tt ho n m ct ch [] [] er en.symm em.symm hp (by simp) (by simp) w' (hte.mod hw) (hhe.mod hw)⟩
  cases hv : (playB p && (sidesB tabs && sidesB holes)) with
  | false => exact err 1 (.inl rfl) (by unfold pairsE; rw [hv]; rfl)
  | true =>
  by_cases h8 : tabs.length ≤ 8 ∧ holes.length ≤ 8
  case neg => exact err 3 (.inr (.inr (.inl rfl))) (by unfold pairsE; rw [hv, if_pos rfl, if_neg h8])
  cases hk : ((tabs.all fun e => e.k == 1) && (holes.all fun e => e.k == 2)) with
  | false => exact err 6 (.inr (.inr (.inr rfl))) (by unfold pairsE; rw [hv, if_pos rfl, if_pos h8, hk]; rfl)
  | true =>
  by_cases hq : tabs.length = holes.length
  case neg => exact err 2 (.inr (.inl rfl)) (by unfold pairsE; rw [hv, if_pos rfl, if_pos h8, hk, if_pos rfl, if_neg hq])
  have hp : pairsE p tabs holes = firstTwo (allPairs p tabs holes) := by unfold pairsE; rw [hv, if_pos rfl, if_pos h8, hk, if_pos rfl, if_pos hq]
  obtain ⟨⟨L1, L2, er⟩, h2⟩ : ∃ x, firstTwo (allPairs p tabs holes) = x := ⟨_, rfl⟩
  rw [h2] at hp
  simp only [Bool.and_eq_true] at hv hk
  obtain ⟨hpl, hst, hsh⟩ := hv
  have hmn : m = n := by omega
  subst hmn
  have he : er = 0 ∨ er = 4 := by
    generalize allPairs p tabs holes = A at h2
    match A, h2 with
    | [], h => simp only [firstTwo, Prod.mk.injEq] at h; omega
    | [a], h => simp only [firstTwo, Prod.mk.injEq] at h; omega
    | a :: b :: rest, h => simp only [firstTwo, Prod.mk.injEq] at h; omega
  have hlen : L1.length ≤ 1000000 ∧ L2.length ≤ 1000000 := by
    rcases he with h | h
    · have k := two_ok (p := p) (L3 := rangeI tabs.length) h2 h (rangeI_len _)
      refine ⟨by rw [k.n1]; omega, ?_⟩
      by_cases e : L2 = []
      · rw [e]; simp
      · rw [k.n2 e]; omega
    · obtain ⟨_, e1, e2⟩ := none_ok (p := p) (L3 := rangeI tabs.length) h2 h (rangeI_len _)
      rw [e1, e2]; simp
  have sT : ∀ t ∈ tabs, sideB t = true ∧ t.k = 1 := fun t h => ⟨List.all_eq_true.1 hst t h, by simpa using List.all_eq_true.1 hk.1 t h⟩
  have sH : ∀ t ∈ holes, sideB t = true ∧ t.k = 2 := fun t h => ⟨List.all_eq_true.1 hsh t h, by simpa using List.all_eq_true.1 hk.2 t h⟩
  refine pr_ok p tabs holes tt ho ao ct ch ln cp w L1 L2 er m en.symm em (by omega) hl g3 ⟨hR g3⟩ ⟨⟨hte, hhe⟩⟩ ⟨he⟩
    ⟨fun w' hw => callPairs p tabs holes tt ho m m ct ch L1 L2 er en.symm em.symm hp hlen.1 hlen.2 w' (hte.mod hw) (hhe.mod hw)⟩
    ⟨fun w => by rw [← hpl]; exact refPlay_any p w⟩
    ⟨fun a b w ha hb => callFit p a b _ 0 (by unfold fitE; rw [hpl, (sT a ha).1, (sH b hb).1]; rfl) w⟩
    ⟨fun t u ht hu => ⟨hpl, side_ordered (sT t ht).1 (by have := (sT t ht).2; omega), side_ordered (sH u hu).1 (by have := (sH u hu).2; omega), side_esmall (sT t ht).1 (by have := (sT t ht).2; omega), side_esmall (sH u hu).1 (by have := (sH u hu).2; omega), (sT t ht).2, (sH u hu).2⟩⟩
    ⟨fun T hT h => two_ok h2 h (by omega)⟩ ⟨fun T hT h => none_ok h2 h (by omega)⟩
end

section
open Go.ChangeShapes Go.WideShapes Go.ChangeAt Go.RowKit Go.Joins
set_option maxRecDepth 100000 in
theorem fitPairings_lifted (os : Os) (started : os.Started) (H : Type) (enc : TypeId × Value → H) :
    ReturnsInHanded {} Try.checked os 11 .any (Rows.fitPairingsSpec.pre6 enc Try.prog Try.f11 Rows.fitPairingsRow.domain false) (Rows.fitPairingsSpec.post enc Try.prog Try.f11 false true false false) := by
  refine returnsInHanded_of_change (C := Try.checked) Try.own started (by kernel_rfl) Try.func11
    (ChangeSpec.witness6 (enc := enc) (C := Try.checked) false ⟨#[], #[plV ⟨0, 0, 0, (0, 0)⟩, .slice none 0 0, .slice none 0 0, .slice none 0 0], []⟩ 8 (by kernel_rfl) (by kernel_rfl) (by kernel_rfl) (by kernel_rfl)) ?_
  intro W base args ds gs before hval0 hW hcnd _
  have hval : ∀ (j : Nat) t v, Try.f11.params[j]? = some t → args[j]? = some v → Value.okWide Try.prog W .any base t v := hval0
  have hW' := hW
  obtain ⟨p, q, hA0, hV, rfl, hfz, hnd⟩ := hW
  have hA : DataW.TrodAll enc Try.prog W 0 (fun _ => true) true Try.f11.params.toList args.toList ds p := hA0
  rw [Try.params11] at hA hval
  obtain ⟨v0, v1, v2, v3, d0, d1, d2, d3, p0, p1, p2, p3, rfl, rfl, rfl, h0, h1, h2, h3⟩ := trodAll_four hA
  obtain ⟨rfl, rfl⟩ := trodVars_none hV
  obtain ⟨q0, rfl⟩ := play_opened (hval 0 25 v0 rfl rfl) h0
  obtain ⟨tt, n, ct, rfl, hnb, ht⟩ := edges_opened (hval 1 42 v1 rfl rfl) h1
  obtain ⟨ho, m, ch, rfl, hmb, hh⟩ := edges_opened (hval 2 42 v2 rfl rfl) h2
  obtain ⟨ao, ln, cp, rfl, hlb, hR⟩ := raws_opened (hval 3 53 v3 rfl rfl) h3
  clear hA0 hval0 hval hA hfz hnd hcnd
  have hlt0 : ∀ x ∈ p0, x.block < W.heap.size := fun x hx => hW'.lt x (by simp [hx])
  have hlt1 : ∀ x ∈ p1, x.block < W.heap.size := fun x hx => hW'.lt x (by simp [hx])
  have hlt2 : ∀ x ∈ p2, x.block < W.heap.size := fun x hx => hW'.lt x (by simp [hx])
  have hlt3 : ∀ x ∈ p3, x.block < W.heap.size := fun x hx => hW'.lt x (by simp [hx])
  refine (fitPairings_any q0 tt ho ao n m ct ch ln cp W hnb hmb hlb ht hh hR).mono fun e W' ⟨he, hw⟩ => ?_
  subst he
  have bel : Below W.heap.size W W' := hw.below
  have z0 := Below.trod Try.laidOut (by kernel_rfl) (of_decide_eq_true (by kernel_rfl)) h0 bel hlt0
  have z1 := Below.trod Try.laidOut (by kernel_rfl) (of_decide_eq_true (by kernel_rfl)) h1 bel hlt1
  have z2 := Below.trod Try.laidOut (by kernel_rfl) (of_decide_eq_true (by kernel_rfl)) h2 bel hlt2
  have z3 := Below.trod Try.laidOut (by kernel_rfl) (of_decide_eq_true (by kernel_rfl)) h3 bel hlt3
  exact ⟨_, rfl, _, _, _, [], _, [], hW', trodAll_mk1 (shut_bool Try.underlying4 _), trodAll_mk4 z0 z1 z2 z3, rfl, bel.frame _, fun h => by cases h⟩

theorem fitPairings_holds : Rows.FitPairingsSaid :=
  OpenClaim.holds_of_wide 11 Try.f11 rfl rfl rfl rfl rfl rfl rfl ⟨rfl, rfl, rfl, rfl, rfl⟩ rfl rfl rfl rfl rfl (by kernel_rfl) Try.func11 (by kernel_rfl)
    (of_decide_eq_true (by kernel_rfl)) (by unfold Func.isWrapper; rw [if_neg (by decide +kernel)]; exact ⟨rfl, rfl⟩)
    (fun os started H enc _ => fitPairings_lifted os started H enc)
end
end Go.Proofs.Ytnjbamikfjdofaa

/- FitOwns: the row: on all that is allowed and all lists of sides the walk ends, with true, and the input reads as it did. -/
import Derived.Test.YtnjbamikfjdofaaFive
import Derived.Test.YtnjbamikfjdofaaLawW
set_option linter.unusedSimpArgs false
set_option linter.unusedVariables false
namespace Go.Proofs.Ytnjbamikfjdofaa
open Go.ChangeShapes Go.WideShapes Go.ChangeAt Go.RowKit Go.Joins

theorem fitOwns_any (p : Ply) (s : Edg) (a1 b1 c1 : Option Addr) (es ts hs : List Edg) (ca cb cc : Nat) (w : World) (hn : es.length ≤ 50) (hm : ts.length ≤ 6) (hk : hs.length ≤ 6)
    (na : a1 = none → ca = 0) (nb : b1 = none → cb = 0) (nc : c1 = none → cc = 0) (ha : EdgesAt w a1 es) (hb : EdgesAt w b1 ts) (hc : EdgesAt w c1 hs) :
    Calls Try.prog 14 #[plV p, edV s, .slice a1 es.length ca, .slice b1 ts.length cb, .slice c1 hs.length cc] w fun e w' => e = .returned (.bool true) ∧ Mod noB w w' := by
  have l1 := matchesE_len p s es
  have l2 := pairsE_len p ts hs
  refine owns_ok p s a1 b1 c1 es ts hs ca cb cc w (fun j => if j = 0 then (matchesE p s es).1 else if j = 1 then (matchesE p s es).2.1 else if j = 2 then (pairsE p ts hs).1 else (pairsE p ts hs).2.1) (matchesE p s es).2.2 (pairsE p ts hs).2.2 hn hm hk na nb nc ⟨⟨ha, hb, hc⟩⟩ ⟨fun j => ?_⟩
    ⟨fun w h => matches_any p s es a1 ca w h⟩ ⟨fun w h1 h2 => pairs_any p ts hs b1 c1 cb cc w h1 h2⟩
  show (if j = 0 then (matchesE p s es).1 else if j = 1 then (matchesE p s es).2.1 else if j = 2 then (pairsE p ts hs).1 else (pairsE p ts hs).2.1).length ≤ 1000
  split
  · omega
  · split
    · omega
    · split <;> omega

section
variable {H : Type} {enc : TypeId × Value → H} {W : World} {sp : Bool} {held : Nat → Bool}
theorem edges_nil {ao : Option Addr} {n cap : Nat} {d : DataW H} {p : List MemPlace} (h : DataW.Trod enc Try.prog W 0 held sp 42 (.slice ao n cap) d p) : ao = none → cap = 0 := by
  rintro rfl
  obtain ⟨fuel, hf⟩ := h
  rcases DataW.trod_slice Try.underlying42 hf with ⟨e, _⟩ | ⟨a, len, cap', elems, rest, n', _, e, _⟩
  · simp [Value.cells] at e; exact e.2
  · simp [Value.cells] at e
end

set_option maxRecDepth 100000 in
theorem fitOwns_lifted (os : Os) (started : os.Started) (H : Type) (enc : TypeId × Value → H) :
    ReturnsInHanded {} Try.checked os 14 .any (Rows.fitOwnsSpec.pre6 enc Try.prog Try.f14 Rows.fitOwnsRow.domain false) (Rows.fitOwnsSpec.post enc Try.prog Try.f14 false true false false) := by
  refine returnsInHanded_of_change (C := Try.checked) Try.own started (by kernel_rfl) Try.func14
    (ChangeSpec.witness6 (enc := enc) (C := Try.checked) false ⟨#[], #[plV ⟨0, 0, 0, (0, 0)⟩, edV ⟨0, (0, 0), (0, 0), (0, 0)⟩, .slice none 0 0, .slice none 0 0, .slice none 0 0], []⟩ 8 (by kernel_rfl) (by kernel_rfl) (by kernel_rfl) (by kernel_rfl)) ?_
  intro W base args ds gs before hval0 hW hcnd _
  have hval : ∀ (j : Nat) t v, Try.f14.params[j]? = some t → args[j]? = some v → Value.okWide Try.prog W .any base t v := hval0
  have hW' := hW
  obtain ⟨p, q, hA0, hV, rfl, hfz, hnd⟩ := hW
  have hA : DataW.TrodAll enc Try.prog W 0 (fun _ => true) true Try.f14.params.toList args.toList ds p := hA0
  rw [Try.params14] at hA hval
  obtain ⟨v0, v1, v2, v3, v4, d0, d1, d2, d3, d4, p0, p1, p2, p3, p4, rfl, rfl, rfl, h0, h1, h2, h3, h4⟩ := trodAll_five hA
  obtain ⟨rfl, rfl⟩ := trodVars_none hV
  obtain ⟨q0, rfl⟩ := play_opened (hval 0 25 v0 rfl rfl) h0
  obtain ⟨q1, rfl⟩ := edge_opened (hval 1 27 v1 rfl rfl) h1
  obtain ⟨ao, n, ca, rfl, hnb, hl⟩ := edges_opened (hval 2 42 v2 rfl rfl) h2
  obtain ⟨bo, m, cb, rfl, hmb, hm⟩ := edges_opened (hval 3 42 v3 rfl rfl) h3
  obtain ⟨co, k, cc, rfl, hkb, hk⟩ := edges_opened (hval 4 42 v4 rfl rfl) h4
  have na := edges_nil h2
  have nb := edges_nil h3
  have nc := edges_nil h4
  clear hA0 hval0 hval hA hfz hnd hcnd
  have hlt0 : ∀ x ∈ p0, x.block < W.heap.size := fun x hx => hW'.lt x (by simp [hx])
  have hlt1 : ∀ x ∈ p1, x.block < W.heap.size := fun x hx => hW'.lt x (by simp [hx])
  have hlt2 : ∀ x ∈ p2, x.block < W.heap.size := fun x hx => hW'.lt x (by simp [hx])
  have hlt3 : ∀ x ∈ p3, x.block < W.heap.size := fun x hx => hW'.lt x (by simp [hx])
  have hlt4 : ∀ x ∈ p4, x.block < W.heap.size := fun x hx => hW'.lt x (by simp [hx])
  have main : Calls Try.prog 14 #[plV q0, edV q1, .slice ao n ca, .slice bo m cb, .slice co k cc] W fun e w' => e = .returned (.bool true) ∧ Mod noB W w' := by
    by_cases hlong : 50 < n ∨ 6 < m ∨ 6 < k
    · exact owns_long q0 q1 ao bo co n m k ca cb cc W hnb hmb hkb hlong
    · obtain ⟨es, rfl, hes⟩ := hl (by omega)
      obtain ⟨ts, rfl, hts⟩ := hm (by omega)
      obtain ⟨hs, rfl, hhs⟩ := hk (by omega)
      exact fitOwns_any q0 q1 ao bo co es ts hs ca cb cc W (by omega) (by omega) (by omega) na nb nc hes hts hhs
  refine main.mono fun e W' ⟨he, hw⟩ => ?_
  subst he
  have bel : Below W.heap.size W W' := hw.below
  have z0 := Below.trod Try.laidOut (by kernel_rfl) (of_decide_eq_true (by kernel_rfl)) h0 bel hlt0
  have z1 := Below.trod Try.laidOut (by kernel_rfl) (of_decide_eq_true (by kernel_rfl)) h1 bel hlt1
  have z2 := Below.trod Try.laidOut (by kernel_rfl) (of_decide_eq_true (by kernel_rfl)) h2 bel hlt2
  have z3 := Below.trod Try.laidOut (by kernel_rfl) (of_decide_eq_true (by kernel_rfl)) h3 bel hlt3
  have z4 := Below.trod Try.laidOut (by kernel_rfl) (of_decide_eq_true (by kernel_rfl)) h4 bel hlt4
  exact ⟨_, rfl, _, _, _, [], _, [], hW', trodAll_mk1 (shut_bool Try.underlying4 _), trodAll_mk5 z0 z1 z2 z3 z4, rfl, bel.frame _, fun h => by cases h⟩

theorem fitOwns_holds : Rows.FitOwnsSaid :=
  OpenClaim.holds_of_wide 14 Try.f14 rfl rfl rfl rfl rfl rfl rfl ⟨rfl, rfl, rfl, rfl, rfl⟩ rfl rfl rfl rfl rfl (by kernel_rfl) Try.func14 (by kernel_rfl)
    (of_decide_eq_true (by kernel_rfl)) (by unfold Func.isWrapper; rw [if_neg (by decide +kernel)]; exact ⟨rfl, rfl⟩)
    (fun os started H enc _ => fitOwns_lifted os started H enc)
end Go.Proofs.Ytnjbamikfjdofaa

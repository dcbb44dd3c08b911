/- What came in, opened: what is allowed, sides, spans, lists of sides, lists of small numbers; for the rows of layer 2. -/
import Derived.Test.YtnjbamikfjdofaaRows
import Derived.Test.YtnjbamikfjdofaaBase
import Derived.ProofKit
import Derived.Lib.SmallJoins
set_option linter.unusedSimpArgs false
set_option linter.unusedVariables false
namespace Go.Proofs.Ytnjbamikfjdofaa
open Go.ChangeShapes Go.WideShapes Go.ChangeAt Go.RowKit Go.Joins

theorem Try.own : ownKnob Try.prog.godebug = none := by kernel_rfl
theorem Try.laidOut : laidOutB Try.prog = true := by kernel_rfl
theorem cellsOf3 : Try.prog.cellsOf 3 = 1 := by kernel_rfl
theorem cellsOf23 : Try.prog.cellsOf 23 = 2 := by kernel_rfl
theorem cellsOf25 : Try.prog.cellsOf 25 = 5 := by kernel_rfl
theorem cellsOf27 : Try.prog.cellsOf 27 = 7 := by kernel_rfl

section
variable {H : Type} {enc : TypeId × Value → H} {W : World} {base : Nat} {sp : Nat → Bool} {held : Bool}


set_option maxRecDepth 100000 in
theorem trod_span {fuel : Nat} {cs : List Value} {x : DataW H × List MemPlace} (h : DataW.trod enc Try.prog W base sp held fuel 23 cs = some x) :
    ∃ a b : Int, cs = [.int .i64 a, .int .i64 b] := by
  obtain ⟨xs, n, _, _, hl, hx, hf⟩ := DataW.trod_struct Try.underlying23 h
  rw [cellsOf23] at hl
  match cs, hl with
  | [c0, c1], _ =>
    match xs, hx with
    | [x0, x1], _ =>
      have h0 := hf 0 _ rfl
      have h1 := hf 1 _ rfl
      obtain ⟨a, ea, _⟩ := DataW.trod_int Try.underlying3 h0
      obtain ⟨b, eb, _⟩ := DataW.trod_int Try.underlying3 h1
      replace ea : ([c0, c1].drop 0).take (Try.prog.cellsOf 3) = _ := ea
      rw [cellsOf3] at ea
      replace ea : [c0] = _ := ea
      replace eb : ([c0, c1].drop 1).take (Try.prog.cellsOf 3) = _ := eb
      rw [cellsOf3] at eb
      replace eb : [c1] = _ := eb
      simp only [List.cons.injEq, and_true] at ea eb
      exact ⟨a, b, by rw [ea, eb]⟩

set_option maxRecDepth 100000 in
theorem trod_edge {fuel : Nat} {cs : List Value} {x : DataW H × List MemPlace} (h : DataW.trod enc Try.prog W base sp held fuel 27 cs = some x) :
    ∃ e : Edg, cs = (edC e).toList := by
  obtain ⟨xs, n, _, _, hl, hx, hf⟩ := DataW.trod_struct Try.underlying27 h
  rw [cellsOf27] at hl
  match cs, hl with
  | [c0, c1, c2, c3, c4, c5, c6], _ =>
    match xs, hx with
    | [x0, x1, x2, x3], _ =>
      have h0 := hf 0 _ rfl
      have h1 := hf 1 _ rfl
      have h2 := hf 2 _ rfl
      have h3 := hf 3 _ rfl
      obtain ⟨k, ek, _⟩ := DataW.trod_int Try.underlying3 h0
      obtain ⟨a1, a2, ea⟩ := trod_span h1
      obtain ⟨w1, w2, ew⟩ := trod_span h2
      obtain ⟨d1, d2, ed⟩ := trod_span h3
      replace ek : ([c0, c1, c2, c3, c4, c5, c6].drop 0).take (Try.prog.cellsOf 3) = _ := ek
      rw [cellsOf3] at ek
      replace ek : [c0] = _ := ek
      replace ea : ([c0, c1, c2, c3, c4, c5, c6].drop 1).take (Try.prog.cellsOf 23) = _ := ea
      rw [cellsOf23] at ea
      replace ea : [c1, c2] = _ := ea
      replace ew : ([c0, c1, c2, c3, c4, c5, c6].drop 3).take (Try.prog.cellsOf 23) = _ := ew
      rw [cellsOf23] at ew
      replace ew : [c3, c4] = _ := ew
      replace ed : ([c0, c1, c2, c3, c4, c5, c6].drop 5).take (Try.prog.cellsOf 23) = _ := ed
      rw [cellsOf23] at ed
      replace ed : [c5, c6] = _ := ed
      simp only [List.cons.injEq, and_true] at ek ea ew ed
      obtain ⟨rfl, rfl⟩ := ea
      obtain ⟨rfl, rfl⟩ := ew
      obtain ⟨rfl, rfl⟩ := ed
      subst ek
      exact ⟨⟨k, (a1, a2), (w1, w2), (d1, d2)⟩, rfl⟩

set_option maxRecDepth 100000 in
theorem trod_play {fuel : Nat} {cs : List Value} {x : DataW H × List MemPlace} (h : DataW.trod enc Try.prog W base sp held fuel 25 cs = some x) :
    ∃ p : Ply, cs = (plC p).toList := by
  obtain ⟨xs, n, _, _, hl, hx, hf⟩ := DataW.trod_struct Try.underlying25 h
  rw [cellsOf25] at hl
  match cs, hl with
  | [c0, c1, c2, c3, c4], _ =>
    match xs, hx with
    | [x0, x1, x2, x3], _ =>
      have h0 := hf 0 _ rfl
      have h1 := hf 1 _ rfl
      have h2 := hf 2 _ rfl
      have h3 := hf 3 _ rfl
      obtain ⟨a, ea, _⟩ := DataW.trod_int Try.underlying3 h0
      obtain ⟨b, eb, _⟩ := DataW.trod_int Try.underlying3 h1
      obtain ⟨c, ec, _⟩ := DataW.trod_int Try.underlying3 h2
      obtain ⟨d1, d2, ed⟩ := trod_span h3
      replace ea : ([c0, c1, c2, c3, c4].drop 0).take (Try.prog.cellsOf 3) = _ := ea
      rw [cellsOf3] at ea
      replace ea : [c0] = _ := ea
      replace eb : ([c0, c1, c2, c3, c4].drop 1).take (Try.prog.cellsOf 3) = _ := eb
      rw [cellsOf3] at eb
      replace eb : [c1] = _ := eb
      replace ec : ([c0, c1, c2, c3, c4].drop 2).take (Try.prog.cellsOf 3) = _ := ec
      rw [cellsOf3] at ec
      replace ec : [c2] = _ := ec
      replace ed : ([c0, c1, c2, c3, c4].drop 3).take (Try.prog.cellsOf 23) = _ := ed
      rw [cellsOf23] at ed
      replace ed : [c3, c4] = _ := ed
      simp only [List.cons.injEq, and_true] at ea eb ec ed
      obtain ⟨rfl, rfl⟩ := ed
      subst ea; subst eb; subst ec
      exact ⟨⟨a, b, c, (d1, d2)⟩, rfl⟩

set_option maxRecDepth 100000 in
theorem agg_of {r : Reach} {t : TypeId} {fs : Array Field} {v : Value} {cs : Array Value} (ht : Try.prog.underlying t = some (.struct fs)) (hv : Value.okWide Try.prog W r base t v) (h : v.cells.toList = cs.toList) : v = .agg cs := by
  obtain ⟨c, rfl, _⟩ := okWide_struct ht hv
  have : c = cs := by cases c; cases cs; simpa [Value.cells] using h
  rw [this]

set_option maxRecDepth 100000 in
theorem span_opened {r : Reach} {v : Value} {d : DataW H} {p : List MemPlace} (hv : Value.okWide Try.prog W r base 23 v) {b0 : Nat} (h : DataW.Trod enc Try.prog W b0 sp held 23 v d p) : ∃ s : Int × Int, v = spV s := by
  obtain ⟨fuel, hf⟩ := h
  obtain ⟨a, b, e⟩ := trod_span hf
  exact ⟨(a, b), agg_of (cs := #[.int .i64 a, .int .i64 b]) Try.underlying23 hv e⟩
set_option maxRecDepth 100000 in
theorem edge_opened {r : Reach} {v : Value} {d : DataW H} {p : List MemPlace} (hv : Value.okWide Try.prog W r base 27 v) {b0 : Nat} (h : DataW.Trod enc Try.prog W b0 sp held 27 v d p) : ∃ e : Edg, v = edV e := by
  obtain ⟨fuel, hf⟩ := h
  obtain ⟨e, he⟩ := trod_edge hf
  exact ⟨e, agg_of (cs := edC e) Try.underlying27 hv he⟩
set_option maxRecDepth 100000 in
theorem play_opened {r : Reach} {v : Value} {d : DataW H} {p : List MemPlace} (hv : Value.okWide Try.prog W r base 25 v) {b0 : Nat} (h : DataW.Trod enc Try.prog W b0 sp held 25 v d p) : ∃ e : Ply, v = plV e := by
  obtain ⟨fuel, hf⟩ := h
  obtain ⟨e, he⟩ := trod_play hf
  exact ⟨e, agg_of (cs := plC e) Try.underlying25 hv he⟩

theorem wf_bounds {n : Int} (h : (Lit.int .i64 n).wf = true) : -9223372036854775808 ≤ n ∧ n ≤ 9223372036854775807 := by
  simp only [Lit.wf, Bool.and_eq_true, decide_eq_true_eq] at h
  exact h

theorem list_of {α : Type} {P : Nat → α → Prop} : ∀ n, (∀ i, i < n → ∃ e, P i e) → ∃ es : List α, es.length = n ∧ ∀ i e, es[i]? = some e → P i e := by
  intro n
  induction n with
  | zero => exact fun _ => ⟨[], rfl, fun i e h => by simp at h⟩
  | succ n ih =>
    intro h
    obtain ⟨es, hl, he⟩ := ih fun i hi => h i (by omega)
    obtain ⟨e, hp⟩ := h n (by omega)
    refine ⟨es ++ [e], by simp [hl], fun i x hx => ?_⟩
    rcases Nat.lt_trichotomy i n with hi | hi | hi
    · rw [List.getElem?_append_left (by omega)] at hx
      exact he i x hx
    · subst hi
      rw [List.getElem?_append_right (by omega), hl] at hx
      simp at hx
      rw [← hx]; exact hp
    · rw [List.getElem?_eq_none (by simp; omega)] at hx
      cases hx

theorem spot_none {a : Addr} {v : Value} (h : W.cell? (a.add 0) = some v) : ∃ b off, a = ⟨b, off, none⟩ := by
  obtain ⟨b, off, spot⟩ := a
  cases spot with
  | none => exact ⟨b, off, rfl⟩
  | some k => simp [World.cell?, Addr.add] at h; split at h <;> simp at h

theorem add_plain (b off i : Nat) : (⟨b, off, none⟩ : Addr).add i = ⟨b, off + i, none⟩ := by
  unfold Addr.add
  split <;> simp_all

set_option maxRecDepth 100000 in
/-- A list of sides that came in. -/
theorem edges_opened {r : Reach} {v : Value} {d : DataW H} {p : List MemPlace} (hv : Value.okWide Try.prog W r base 42 v) (h : DataW.Trod enc Try.prog W 0 sp held 42 v d p) :
    ∃ (ao : Option Addr) (n cap : Nat), v = .slice ao n cap ∧ n ≤ 9223372036854775807 ∧ (n ≤ 1000 → ∃ es : List Edg, es.length = n ∧ EdgesAt W ao es) := by
  obtain ⟨fuel, hf⟩ := h
  have hc : ∀ c : Value, v.cells.toList = [c] → v = c ∨ ∃ cs, v = .agg cs := by
    intro c hc
    cases v <;> first | (left; simpa [Value.cells] using hc) | exact .inr ⟨_, rfl⟩
  have hag : ¬ ∃ cs, v = .agg cs := by
    rintro ⟨cs, rfl⟩
    simp only [Value.okWide, Try.underlying42, Cell.okWide, Cell.ok] at hv
  rcases DataW.trod_slice Try.underlying42 hf with ⟨e, _⟩ | ⟨a, len, cap, elems, rest, n, _, e, _, _, hl, hm, hlen, hel, _⟩
  · rcases hc _ e with rfl | h
    · exact ⟨none, 0, 0, rfl, by omega, fun _ => ⟨[], rfl, fun h => absurd rfl h, by simp⟩⟩
    · exact absurd h hag
  · rcases hc _ e with rfl | h
    case inr => exact absurd h hag
    rw [cellsOf27] at hel
    have each : ∀ i, i < len → ∃ x : Edg, ∀ j, j < 7 → W.cell? ((a.add (i * 7)).add j) = (edC x).toList[j]? := by
      intro i hi
      have h1 := hel i hi
      obtain ⟨y, hy⟩ : ∃ y, elems[i]? = some y := ⟨_, List.getElem?_eq_getElem (by omega)⟩
      rw [hy, Option.bind_eq_some_iff] at h1
      obtain ⟨cs, hcs, ht⟩ := h1
      obtain ⟨x, rfl⟩ := trod_edge ht
      exact ⟨x, (World.cells?_some hcs).2.2⟩
    obtain ⟨es, hes, hE⟩ := list_of len each
    have hmx : cap ≤ 9223372036854775807 := hm
    refine ⟨some a, len, cap, rfl, by omega, fun hsm => ⟨es, hes, ⟨fun hne => ?_, by omega⟩⟩⟩
    have h0 : 0 < len := by
        rcases Nat.eq_zero_or_pos len with hh | hh
        · rw [hh] at hes; exact absurd (List.length_eq_zero_iff.1 hes) hne
        · exact hh
    obtain ⟨x0, hx0⟩ : ∃ x, es[0]? = some x := ⟨_, List.getElem?_eq_getElem (by omega)⟩
    have hc0 := hE 0 x0 hx0 0 (by omega)
    rw [show a.add (0 * 7) = a by simp [Addr.add]] at hc0
    obtain ⟨b, off, rfl⟩ := spot_none hc0
    refine ⟨b, off, rfl, World.block_lt_of_cell? _ _ (by simpa [Addr.add] using hc0), fun k x hx => ?_⟩
    have H : ∀ j, j < 7 → W.cell? ⟨b, off + k * 7 + j, none⟩ = (edC x).toList[j]? := fun j hj => by
        have hh := hE k x hx j hj
        rwa [add_plain, add_plain] at hh
    exact ⟨H 0 (by omega), H 1 (by omega), H 2 (by omega), H 3 (by omega), H 4 (by omega), H 5 (by omega), H 6 (by omega)⟩
end
end Go.Proofs.Ytnjbamikfjdofaa

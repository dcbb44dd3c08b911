/- What came in, opened: a die; eight arguments. -/
import Derived.Test.YtnplhlcifagimaaRxA
import Derived.ProofKit
import Derived.Lib.SmallJoins
import Derived.Test.YtnplhlcifagimaaRows
import Derived.OpenShut
import Derived.Stop.Joined
set_option linter.unusedSimpArgs false
set_option linter.unusedVariables false
namespace Go.Proofs.Ytnplhlcifagimaa
open Go.ChangeShapes Go.WideShapes Go.ChangeAt Go.RowKit Go.Joins

theorem wf_bounds {n : Int} (h : (Lit.int .i64 n).wf = true) : -9223372036854775808 ≤ n ∧ n ≤ 9223372036854775807 := by
  simp only [Lit.wf, Bool.and_eq_true, decide_eq_true_eq] at h
  exact h
theorem wf_u8 {n : Int} (h : (Lit.int .u8 n).wf = true) : 0 ≤ n ∧ n ≤ 255 := by
  simp only [Lit.wf, Bool.and_eq_true, decide_eq_true_eq] at h
  exact h
theorem wf_u16 {n : Int} (h : (Lit.int .u16 n).wf = true) : 0 ≤ n ∧ n ≤ 65535 := by
  simp only [Lit.wf, Bool.and_eq_true, decide_eq_true_eq] at h
  exact h
theorem list_of {α : Type} {P : Nat → α → Prop} : ∀ n, (∀ i, i < n → ∃ e, P i e) → ∃ es : List α, es.length = n ∧ ∀ i e, es[i]? = some e → P i e := by
  intro n
  induction n with
  | zero => exact fun _ => ⟨[], rfl, fun i e h => by simp at h⟩
  | succ n ih =>
    intro h
    obtain ⟨es, hl, he⟩ := ih fun i hi => h i (by omega)
    obtain ⟨e, hp⟩ := h n (by omega)
    refine ⟨es ++ [e], by simp [hl], fun i x hx => ?_⟩
    rcases Nat.lt_trichotomy i n with hi | hi | hi
    · rw [List.getElem?_append_left (by omega)] at hx
      exact he i x hx
    · subst hi
      rw [List.getElem?_append_right (by omega), hl] at hx
      simp at hx
      rw [← hx]; exact hp
    · rw [List.getElem?_eq_none (by simp; omega)] at hx
      cases hx
theorem spot_none {W : World} {a : Addr} {v : Value} (h : W.cell? (a.add 0) = some v) : ∃ b off, a = ⟨b, off, none⟩ := by
  obtain ⟨b, off, spot⟩ := a
  cases spot with
  | none => exact ⟨b, off, rfl⟩
  | some k => simp [World.cell?, Addr.add] at h; split at h <;> simp at h
theorem add_plain (b off i : Nat) : (⟨b, off, none⟩ : Addr).add i = ⟨b, off + i, none⟩ := by
  unfold Addr.add
  split <;> simp_all

section
variable {H : Type} {enc : TypeId × Value → H} {W : World} {base : Nat} {sp : Nat → Bool} {held : Bool}
/-- The one cell of a slice's value: a list of things of sz cells. -/
theorem slice_opened {α : Type} {T E : TypeId} {sz : Nat} (hsz : 0 < sz) (cs : α → Array Value) (hcs : ∀ x, (cs x).size = sz) (hT : Try.prog.underlying T = some (.slice E)) (hE : Try.prog.cellsOf E = sz)
    (hel : ∀ fuel l (x : DataW H × List MemPlace), DataW.trod enc Try.prog W base sp held fuel E l = some x → ∃ e : α, l = (cs e).toList) {fuel : Nat} {c : Value} {x : DataW H × List MemPlace}
    (h : DataW.trod enc Try.prog W base sp held fuel T [c] = some x) :
    ∃ (ao : Option Addr) (n cap : Nat), c = .slice ao n cap ∧ n ≤ 9223372036854775807 ∧ ∃ es : List α, es.length = n ∧ (es ≠ [] → ∃ b off, ao = some ⟨b, off, none⟩ ∧ b < W.heap.size ∧ ∀ k x, es[k]? = some x → ∀ j, j < sz → W.cell? ⟨b, off + k * sz + j, none⟩ = (cs x)[j]?) := by
  rcases DataW.trod_slice hT h with ⟨e, _⟩ | ⟨a, len, cap, elems, rest, n, _, e, _, _, hl, hm, hlen, helm, _⟩
  · simp only [List.cons.injEq, and_true] at e
    subst e
    exact ⟨none, 0, 0, rfl, by omega, [], rfl, fun h => absurd rfl h⟩
  · simp only [List.cons.injEq, and_true] at e
    subst e
    rw [hE] at helm
    have each : ∀ i, i < len → ∃ x : α, ∀ j, j < sz → W.cell? ((a.add (i * sz)).add j) = (cs x)[j]? := by
      intro i hi
      have h1 := helm i hi
      obtain ⟨y, hy⟩ : ∃ y, elems[i]? = some y := ⟨_, List.getElem?_eq_getElem (by omega)⟩
      rw [hy, Option.bind_eq_some_iff] at h1
      obtain ⟨l, hlc, ht⟩ := h1
      obtain ⟨x, rfl⟩ := hel _ _ _ ht
      exact ⟨x, fun j hj => ((World.cells?_some hlc).2.2 j hj).trans (by simp)⟩
    obtain ⟨es, hes, hx⟩ := list_of len each
    have hmx : cap ≤ 9223372036854775807 := hm
    refine ⟨some a, len, cap, rfl, by omega, es, hes, fun hne => ?_⟩
    have h0 : 0 < len := by
      rcases Nat.eq_zero_or_pos len with hh | hh
      · rw [hh] at hes; exact absurd (List.length_eq_zero_iff.1 hes) hne
      · exact hh
    obtain ⟨x0, hx0⟩ : ∃ x0, es[0]? = some x0 := ⟨_, List.getElem?_eq_getElem (by omega)⟩
    have hc0 := hx 0 x0 hx0 0 hsz
    have hsome : ∃ v, (cs x0)[0]? = some v := ⟨_, Array.getElem?_eq_getElem (by rw [hcs]; exact hsz)⟩
    obtain ⟨v, hv⟩ := hsome
    rw [hv, show a.add (0 * sz) = a by simp [Addr.add]] at hc0
    obtain ⟨b, off, rfl⟩ := spot_none hc0
    refine ⟨b, off, rfl, World.block_lt_of_cell? _ _ (by simpa [add_plain] using hc0), fun k x hk j hj => ?_⟩
    have := hx k x hk j hj
    rw [add_plain, add_plain] at this
    exact this
set_option maxRecDepth 100000 in
theorem slice_value {T E : TypeId} {r : Reach} {v : Value} (hT : Try.prog.underlying T = some (.slice E)) (hv : Value.okWide Try.prog W r base T v) {ao : Option Addr} {n cap : Nat} (h : v.cells.toList = [.slice ao n cap]) : v = .slice ao n cap := by
  cases v with
  | agg cs => simp only [Value.okWide, hT, Cell.okWide, Cell.ok] at hv
  | slice a l c => simpa [Value.cells] using h
  | _ => exact absurd (List.cons.inj h).1 (by intro e; cases e)
theorem trod_int1 {T : TypeId} (hT : Try.prog.underlying T = some (.int .i64)) (h1 : Try.prog.cellsOf T = 1) {fuel : Nat} {l : List Value} {x : DataW H × List MemPlace} (h : DataW.trod enc Try.prog W base sp held fuel T l = some x) : ∃ e : Int, l = #[Value.int .i64 e].toList := by
  obtain ⟨a, ea, _⟩ := DataW.trod_int hT h
  exact ⟨a, ea⟩
end
theorem Try.own : ownKnob Try.prog.godebug = none := by kernel_rfl
theorem Try.laidOut : laidOutB Try.prog = true := by kernel_rfl
theorem cellsOf3 : Try.prog.cellsOf 3 = 1 := by kernel_rfl
theorem cellsOf28 : Try.prog.cellsOf 29 = 2 := by kernel_rfl
theorem cellsOf53 : Try.prog.cellsOf 42 = 4 := by kernel_rfl
theorem cellsOf24 : Try.prog.cellsOf 24 = 4 := by kernel_rfl

section
variable {H : Type} {enc : TypeId × Value → H} {W : World} {base : Nat} {sp : Nat → Bool} {held : Bool}
set_option maxRecDepth 100000 in
theorem trod_span {fuel : Nat} {cs : List Value} {x : DataW H × List MemPlace} (h : DataW.trod enc Try.prog W base sp held fuel 29 cs = some x) : ∃ s : Int × Int, cs = (spC s).toList := by
  obtain ⟨xs, n, _, _, hl, hx, hf⟩ := DataW.trod_struct Try.underlying29 h
  rw [cellsOf28] at hl
  match cs, hl with
  | [c0, c1], _ =>
    match xs, hx with
    | [x0, x1], _ =>
      have h0 := hf 0 _ rfl
      have h1 := hf 1 _ rfl
      obtain ⟨a, ea, _⟩ := DataW.trod_int Try.underlying3 h0
      obtain ⟨b, eb, _⟩ := DataW.trod_int Try.underlying3 h1
      replace ea : ([c0, c1].drop 0).take (Try.prog.cellsOf 3) = _ := ea
      rw [cellsOf3] at ea
      replace ea : [c0] = _ := ea
      replace eb : ([c0, c1].drop 1).take (Try.prog.cellsOf 3) = _ := eb
      rw [cellsOf3] at eb
      replace eb : [c1] = _ := eb
      simp only [List.cons.injEq, and_true] at ea eb
      exact ⟨(a, b), by rw [ea, eb]⟩
set_option maxRecDepth 100000 in
theorem trod_blade {fuel : Nat} {cs : List Value} {x : DataW H × List MemPlace} (h : DataW.trod enc Try.prog W base sp held fuel 42 cs = some x) : ∃ b : Bld, cs = (blC b).toList := by
  obtain ⟨xs, n, _, _, hl, hx, hf⟩ := DataW.trod_struct Try.underlying42 h
  rw [cellsOf53] at hl
  match cs, hl with
  | [c0, c1, c2, c3], _ =>
    match xs, hx with
    | [x0, x1], _ =>
      have h0 := hf 0 _ rfl
      have h1 := hf 1 _ rfl
      obtain ⟨a, ea⟩ := trod_span h0
      obtain ⟨b, eb⟩ := trod_span h1
      replace ea : ([c0, c1, c2, c3].drop 0).take (Try.prog.cellsOf 29) = _ := ea
      rw [cellsOf28] at ea
      replace ea : [c0, c1] = _ := ea
      replace eb : ([c0, c1, c2, c3].drop 2).take (Try.prog.cellsOf 29) = _ := eb
      rw [cellsOf28] at eb
      replace eb : [c2, c3] = _ := eb
      simp only [List.cons.injEq, and_true] at ea eb
      obtain ⟨rfl, rfl⟩ := ea
      obtain ⟨rfl, rfl⟩ := eb
      exact ⟨⟨a, b⟩, rfl⟩

set_option maxRecDepth 100000 in
theorem die_opened {r : Reach} {v : Value} {d : DataW H} {p : List MemPlace} (hv : Value.okWide Try.prog W r base 24 v) {b0 : Nat} (h : DataW.Trod enc Try.prog W b0 sp held 24 v d p) :
    ∃ (ao : Option Addr) (cap : Nat) (y : Dye), v = dyV ao y.bl.length cap y ∧ y.bl.length ≤ 9223372036854775807 ∧ (y.bl.length ≤ 1000000000000 → BladesAt W.heap.size W ao y.bl) := by
  obtain ⟨v0, v1, v2, v3, y0, y1, y2, y3, m, rfl, _, _, t0, t1, t2, t3⟩ := open_agg4 Try.underlying24 (by kernel_rfl) cellsOf24 hv h
  obtain ⟨bd, e1, _, _⟩ := DataW.trod_int Try.underlying3 t1
  obtain ⟨st, e2, _, _⟩ := DataW.trod_int Try.underlying3 t2
  obtain ⟨be, e3, _, _⟩ := DataW.trod_int Try.underlying3 t3
  simp only [List.cons.injEq, and_true] at e1 e2 e3
  subst e1; subst e2; subst e3
  obtain ⟨ao, n, cap, rfl, hn, es, hes, hat⟩ := slice_opened (by omega : 0 < 4) blC (fun _ => rfl) Try.underlying22 cellsOf53 (fun _ _ _ h => trod_blade h) t0
  exact ⟨ao, cap, ⟨es, bd, st, be⟩, by rw [hes], by rw [hes]; exact hn, fun hs => ⟨hat, hs⟩⟩
end
section
variable {H : Type} {enc : TypeId × Value → H} {P : Program} {w : World} {base : Nat} {spare : Nat → Bool} {held : Bool}
theorem trodAll_eight {t0 t1 t2 t3 t4 t5 t6 t7 : TypeId} {args : Array Value} {ds : List (DataW H)} {ps : List MemPlace} (h : DataW.TrodAll enc P w base spare held [t0, t1, t2, t3, t4, t5, t6, t7] args.toList ds ps) :
    ∃ v0 v1 v2 v3 v4 v5 v6 v7 d0 d1 d2 d3 d4 d5 d6 d7 p0 p1 p2 p3 p4 p5 p6 p7, args = #[v0, v1, v2, v3, v4, v5, v6, v7] ∧ ds = [d0, d1, d2, d3, d4, d5, d6, d7] ∧ ps = p0 ++ (p1 ++ (p2 ++ (p3 ++ (p4 ++ (p5 ++ (p6 ++ (p7))))))) ∧ DataW.Trod enc P w base spare held t0 v0 d0 p0 ∧ DataW.Trod enc P w base spare held t1 v1 d1 p1 ∧ DataW.Trod enc P w base spare held t2 v2 d2 p2 ∧ DataW.Trod enc P w base spare held t3 v3 d3 p3 ∧ DataW.Trod enc P w base spare held t4 v4 d4 p4 ∧ DataW.Trod enc P w base spare held t5 v5 d5 p5 ∧ DataW.Trod enc P w base spare held t6 v6 d6 p6 ∧ DataW.Trod enc P w base spare held t7 v7 d7 p7 := by
  obtain ⟨v0, vs0, d0, ds0, p0, q0, hargs, rfl, rfl, hd0, h0⟩ := trodAll_cons h
  obtain ⟨v1, vs1, d1, ds1, p1, q1, rfl, rfl, rfl, hd1, h1⟩ := trodAll_cons h0
  obtain ⟨v2, vs2, d2, ds2, p2, q2, rfl, rfl, rfl, hd2, h2⟩ := trodAll_cons h1
  obtain ⟨v3, vs3, d3, ds3, p3, q3, rfl, rfl, rfl, hd3, h3⟩ := trodAll_cons h2
  obtain ⟨v4, vs4, d4, ds4, p4, q4, rfl, rfl, rfl, hd4, h4⟩ := trodAll_cons h3
  obtain ⟨v5, vs5, d5, ds5, p5, q5, rfl, rfl, rfl, hd5, h5⟩ := trodAll_cons h4
  obtain ⟨v6, vs6, d6, ds6, p6, q6, rfl, rfl, rfl, hd6, h6⟩ := trodAll_cons h5
  obtain ⟨v7, vs7, d7, ds7, p7, q7, rfl, rfl, rfl, hd7, h7⟩ := trodAll_cons h6
  obtain ⟨rfl, rfl, rfl⟩ := trodAll_nil h7
  exact ⟨v0, v1, v2, v3, v4, v5, v6, v7, d0, d1, d2, d3, d4, d5, d6, d7, p0, p1, p2, p3, p4, p5, p6, p7, by cases args; simp_all, rfl, by simp, hd0, hd1, hd2, hd3, hd4, hd5, hd6, hd7⟩
theorem trodAll_mk8 {t0 t1 t2 t3 t4 t5 t6 t7 : TypeId} {v0 v1 v2 v3 v4 v5 v6 v7 : Value} {d0 d1 d2 d3 d4 d5 d6 d7 : DataW H} {p0 p1 p2 p3 p4 p5 p6 p7 : List MemPlace} (h0 : DataW.Trod enc P w base spare held t0 v0 d0 p0) (h1 : DataW.Trod enc P w base spare held t1 v1 d1 p1) (h2 : DataW.Trod enc P w base spare held t2 v2 d2 p2) (h3 : DataW.Trod enc P w base spare held t3 v3 d3 p3) (h4 : DataW.Trod enc P w base spare held t4 v4 d4 p4) (h5 : DataW.Trod enc P w base spare held t5 v5 d5 p5) (h6 : DataW.Trod enc P w base spare held t6 v6 d6 p6) (h7 : DataW.Trod enc P w base spare held t7 v7 d7 p7) :
    DataW.TrodAll enc P w base spare held [t0, t1, t2, t3, t4, t5, t6, t7] [v0, v1, v2, v3, v4, v5, v6, v7] [d0, d1, d2, d3, d4, d5, d6, d7] (p0 ++ (p1 ++ (p2 ++ (p3 ++ (p4 ++ (p5 ++ (p6 ++ (p7)))))))) := ⟨p0, p1 ++ (p2 ++ (p3 ++ (p4 ++ (p5 ++ (p6 ++ (p7)))))), h0, ⟨p1, p2 ++ (p3 ++ (p4 ++ (p5 ++ (p6 ++ (p7))))), h1, ⟨p2, p3 ++ (p4 ++ (p5 ++ (p6 ++ (p7)))), h2, ⟨p3, p4 ++ (p5 ++ (p6 ++ (p7))), h3, trodAll_mk4 h4 h5 h6 h7, rfl⟩, rfl⟩, rfl⟩, rfl⟩
end
end Go.Proofs.Ytnplhlcifagimaa

/- Several texts in one (a claim holds at most 60 files): each has its own words ahead of it. -/
import Derived.Test.YtdncppempgpooaaDoorGen
import Derived.ProofKit
import Derived.Lib.SmallJoins
import Derived.Test.YtdncppempgpooaaDoorRows
import Derived.Test.YtdncppempgpooaaDoorTie
import Derived.Test.YtdncppempgpooaaDoorCards
import Derived.Test.YtdncppempgpooaaDoorRxB
import Derived.Lib.LaidTab
import Derived.LaidMore
import Derived.OpenShut
import Derived.Stop.Joined
import Derived.Stop.LaidErr
import Derived.Test.YtdncppempgpooaaDoorRxJ
import Derived.Test.YtdncppempgpooaaDoorRuY
import Derived.Deep.DeepCutAuto
import Derived.Deep.CutRange
import Derived.ArgAppend
set_option linter.unusedSimpArgs false
set_option linter.unusedVariables false

/- Several texts in one (a claim holds at most 60 files): each has its own words ahead of it. -/

/- What came in, opened: a list of things of so many cells each. -/
namespace Go.Proofs.YtdncppempgpooaaDoor
open Go.ChangeShapes Go.WideShapes Go.ChangeAt Go.RowKit Go.Joins

theorem wf_bounds {n : Int} (h : (Lit.int .i64 n).wf = true) : -9223372036854775808 ≤ n ∧ n ≤ 9223372036854775807 := by
  simp only [Lit.wf, Bool.and_eq_true, decide_eq_true_eq] at h
  exact h
theorem wf_u8 {n : Int} (h : (Lit.int .u8 n).wf = true) : 0 ≤ n ∧ n ≤ 255 := by
  simp only [Lit.wf, Bool.and_eq_true, decide_eq_true_eq] at h
  exact h
theorem wf_u16 {n : Int} (h : (Lit.int .u16 n).wf = true) : 0 ≤ n ∧ n ≤ 65535 := by
  simp only [Lit.wf, Bool.and_eq_true, decide_eq_true_eq] at h
  exact h
theorem list_of {α : Type} {P : Nat → α → Prop} : ∀ n, (∀ i, i < n → ∃ e, P i e) → ∃ es : List α, es.length = n ∧ ∀ i e, es[i]? = some e → P i e := by
  intro n
  induction n with
  | zero => exact fun _ => ⟨[], rfl, fun i e h => by simp at h⟩
  | succ n ih =>
    intro h
    obtain ⟨es, hl, he⟩ := ih fun i hi => h i (by omega)
    obtain ⟨e, hp⟩ := h n (by omega)
    refine ⟨es ++ [e], by simp [hl], fun i x hx => ?_⟩
    rcases Nat.lt_trichotomy i n with hi | hi | hi
    · rw [List.getElem?_append_left (by omega)] at hx
      exact he i x hx
    · subst hi
      rw [List.getElem?_append_right (by omega), hl] at hx
      simp at hx
      rw [← hx]; exact hp
    · rw [List.getElem?_eq_none (by simp; omega)] at hx
      cases hx
theorem spot_none {W : World} {a : Addr} {v : Value} (h : W.cell? (a.add 0) = some v) : ∃ b off, a = ⟨b, off, none⟩ := by
  obtain ⟨b, off, spot⟩ := a
  cases spot with
  | none => exact ⟨b, off, rfl⟩
  | some k => simp [World.cell?, Addr.add] at h; split at h <;> simp at h
theorem add_plain (b off i : Nat) : (⟨b, off, none⟩ : Addr).add i = ⟨b, off + i, none⟩ := by
  unfold Addr.add
  split <;> simp_all

section
variable {H : Type} {enc : TypeId × Value → H} {P : Program} {w : World} {base : Nat} {spare : Nat → Bool} {held : Bool}
theorem trodAll_five {t0 t1 t2 t3 t4 : TypeId} {args : Array Value} {ds : List (DataW H)} {ps : List MemPlace} (h : DataW.TrodAll enc P w base spare held [t0, t1, t2, t3, t4] args.toList ds ps) :
    ∃ v0 v1 v2 v3 v4 d0 d1 d2 d3 d4 p0 p1 p2 p3 p4, args = #[v0, v1, v2, v3, v4] ∧ ds = [d0, d1, d2, d3, d4] ∧ ps = p0 ++ (p1 ++ (p2 ++ (p3 ++ p4))) ∧ DataW.Trod enc P w base spare held t0 v0 d0 p0 ∧ DataW.Trod enc P w base spare held t1 v1 d1 p1 ∧
      DataW.Trod enc P w base spare held t2 v2 d2 p2 ∧ DataW.Trod enc P w base spare held t3 v3 d3 p3 ∧ DataW.Trod enc P w base spare held t4 v4 d4 p4 := by
  obtain ⟨v0, vs0, d0, ds0, p0, q0, hargs, rfl, rfl, hd0, h0⟩ := trodAll_cons h
  obtain ⟨v1, vs1, d1, ds1, p1, q1, rfl, rfl, rfl, hd1, h1⟩ := trodAll_cons h0
  obtain ⟨v2, vs2, d2, ds2, p2, q2, rfl, rfl, rfl, hd2, h2⟩ := trodAll_cons h1
  obtain ⟨v3, vs3, d3, ds3, p3, q3, rfl, rfl, rfl, hd3, h3⟩ := trodAll_cons h2
  obtain ⟨v4, vs4, d4, ds4, p4, q4, rfl, rfl, rfl, hd4, h4⟩ := trodAll_cons h3
  obtain ⟨rfl, rfl, rfl⟩ := trodAll_nil h4
  exact ⟨v0, v1, v2, v3, v4, d0, d1, d2, d3, d4, p0, p1, p2, p3, p4, by cases args; simp_all, rfl, by simp, hd0, hd1, hd2, hd3, hd4⟩
theorem trodAll_mk5 {t0 t1 t2 t3 t4 : TypeId} {v0 v1 v2 v3 v4 : Value} {d0 d1 d2 d3 d4 : DataW H} {p0 p1 p2 p3 p4 : List MemPlace} (h0 : DataW.Trod enc P w base spare held t0 v0 d0 p0) (h1 : DataW.Trod enc P w base spare held t1 v1 d1 p1)
    (h2 : DataW.Trod enc P w base spare held t2 v2 d2 p2) (h3 : DataW.Trod enc P w base spare held t3 v3 d3 p3) (h4 : DataW.Trod enc P w base spare held t4 v4 d4 p4) :
    DataW.TrodAll enc P w base spare held [t0, t1, t2, t3, t4] [v0, v1, v2, v3, v4] [d0, d1, d2, d3, d4] (p0 ++ (p1 ++ (p2 ++ (p3 ++ p4)))) := ⟨p0, p1 ++ (p2 ++ (p3 ++ p4)), h0, trodAll_mk4 h1 h2 h3 h4, rfl⟩
theorem trodAll_six {t0 t1 t2 t3 t4 t5 : TypeId} {args : Array Value} {ds : List (DataW H)} {ps : List MemPlace} (h : DataW.TrodAll enc P w base spare held [t0, t1, t2, t3, t4, t5] args.toList ds ps) :
    ∃ v0 v1 v2 v3 v4 v5 d0 d1 d2 d3 d4 d5 p0 p1 p2 p3 p4 p5, args = #[v0, v1, v2, v3, v4, v5] ∧ ds = [d0, d1, d2, d3, d4, d5] ∧ ps = p0 ++ (p1 ++ (p2 ++ (p3 ++ (p4 ++ p5)))) ∧ DataW.Trod enc P w base spare held t0 v0 d0 p0 ∧ DataW.Trod enc P w base spare held t1 v1 d1 p1 ∧
      DataW.Trod enc P w base spare held t2 v2 d2 p2 ∧ DataW.Trod enc P w base spare held t3 v3 d3 p3 ∧ DataW.Trod enc P w base spare held t4 v4 d4 p4 ∧ DataW.Trod enc P w base spare held t5 v5 d5 p5 := by
  obtain ⟨v0, vs0, d0, ds0, p0, q0, hargs, rfl, rfl, hd0, h0⟩ := trodAll_cons h
  obtain ⟨v1, vs1, d1, ds1, p1, q1, rfl, rfl, rfl, hd1, h1⟩ := trodAll_cons h0
  obtain ⟨v2, vs2, d2, ds2, p2, q2, rfl, rfl, rfl, hd2, h2⟩ := trodAll_cons h1
  obtain ⟨v3, vs3, d3, ds3, p3, q3, rfl, rfl, rfl, hd3, h3⟩ := trodAll_cons h2
  obtain ⟨v4, vs4, d4, ds4, p4, q4, rfl, rfl, rfl, hd4, h4⟩ := trodAll_cons h3
  obtain ⟨v5, vs5, d5, ds5, p5, q5, rfl, rfl, rfl, hd5, h5⟩ := trodAll_cons h4
  obtain ⟨rfl, rfl, rfl⟩ := trodAll_nil h5
  exact ⟨v0, v1, v2, v3, v4, v5, d0, d1, d2, d3, d4, d5, p0, p1, p2, p3, p4, p5, by cases args; simp_all, rfl, by simp, hd0, hd1, hd2, hd3, hd4, hd5⟩
theorem trodAll_mk6 {t0 t1 t2 t3 t4 t5 : TypeId} {v0 v1 v2 v3 v4 v5 : Value} {d0 d1 d2 d3 d4 d5 : DataW H} {p0 p1 p2 p3 p4 p5 : List MemPlace} (h0 : DataW.Trod enc P w base spare held t0 v0 d0 p0) (h1 : DataW.Trod enc P w base spare held t1 v1 d1 p1)
    (h2 : DataW.Trod enc P w base spare held t2 v2 d2 p2) (h3 : DataW.Trod enc P w base spare held t3 v3 d3 p3) (h4 : DataW.Trod enc P w base spare held t4 v4 d4 p4) (h5 : DataW.Trod enc P w base spare held t5 v5 d5 p5) :
    DataW.TrodAll enc P w base spare held [t0, t1, t2, t3, t4, t5] [v0, v1, v2, v3, v4, v5] [d0, d1, d2, d3, d4, d5] (p0 ++ (p1 ++ (p2 ++ (p3 ++ (p4 ++ p5))))) := ⟨p0, p1 ++ (p2 ++ (p3 ++ (p4 ++ p5))), h0, trodAll_mk5 h1 h2 h3 h4 h5, rfl⟩
end

section
variable {H : Type} {enc : TypeId × Value → H} {W : World} {base : Nat} {sp : Nat → Bool} {held : Bool}
/-- The one cell of a slice's value: a list of things of sz cells. -/
theorem slice_opened {α : Type} {T E : TypeId} {sz : Nat} (hsz : 0 < sz) (cs : α → Array Value) (hcs : ∀ x, (cs x).size = sz) (hT : Tryd.prog.underlying T = some (.slice E)) (hE : Tryd.prog.cellsOf E = sz)
    (hel : ∀ fuel l (x : DataW H × List MemPlace), DataW.trod enc Tryd.prog W base sp held fuel E l = some x → ∃ e : α, l = (cs e).toList) {fuel : Nat} {c : Value} {x : DataW H × List MemPlace}
    (h : DataW.trod enc Tryd.prog W base sp held fuel T [c] = some x) :
    ∃ (ao : Option Addr) (n cap : Nat), c = .slice ao n cap ∧ n ≤ 9223372036854775807 ∧ ∃ es : List α, es.length = n ∧ (es ≠ [] → ∃ b off, ao = some ⟨b, off, none⟩ ∧ b < W.heap.size ∧ ∀ k x, es[k]? = some x → ∀ j, j < sz → W.cell? ⟨b, off + k * sz + j, none⟩ = (cs x)[j]?) := by
  rcases DataW.trod_slice hT h with ⟨e, _⟩ | ⟨a, len, cap, elems, rest, n, _, e, _, _, hl, hm, hlen, helm, _⟩
  · simp only [List.cons.injEq, and_true] at e
    subst e
    exact ⟨none, 0, 0, rfl, by omega, [], rfl, fun h => absurd rfl h⟩
  · simp only [List.cons.injEq, and_true] at e
    subst e
    rw [hE] at helm
    have each : ∀ i, i < len → ∃ x : α, ∀ j, j < sz → W.cell? ((a.add (i * sz)).add j) = (cs x)[j]? := by
      intro i hi
      have h1 := helm i hi
      obtain ⟨y, hy⟩ : ∃ y, elems[i]? = some y := ⟨_, List.getElem?_eq_getElem (by omega)⟩
      rw [hy, Option.bind_eq_some_iff] at h1
      obtain ⟨l, hlc, ht⟩ := h1
      obtain ⟨x, rfl⟩ := hel _ _ _ ht
      exact ⟨x, fun j hj => ((World.cells?_some hlc).2.2 j hj).trans (by simp)⟩
    obtain ⟨es, hes, hx⟩ := list_of len each
    have hmx : cap ≤ 9223372036854775807 := hm
    refine ⟨some a, len, cap, rfl, by omega, es, hes, fun hne => ?_⟩
    have h0 : 0 < len := by
      rcases Nat.eq_zero_or_pos len with hh | hh
      · rw [hh] at hes; exact absurd (List.length_eq_zero_iff.1 hes) hne
      · exact hh
    obtain ⟨x0, hx0⟩ : ∃ x0, es[0]? = some x0 := ⟨_, List.getElem?_eq_getElem (by omega)⟩
    have hc0 := hx 0 x0 hx0 0 hsz
    have hsome : ∃ v, (cs x0)[0]? = some v := ⟨_, Array.getElem?_eq_getElem (by rw [hcs]; exact hsz)⟩
    obtain ⟨v, hv⟩ := hsome
    rw [hv, show a.add (0 * sz) = a by simp [Addr.add]] at hc0
    obtain ⟨b, off, rfl⟩ := spot_none hc0
    refine ⟨b, off, rfl, World.block_lt_of_cell? _ _ (by simpa [add_plain] using hc0), fun k x hk j hj => ?_⟩
    have := hx k x hk j hj
    rw [add_plain, add_plain] at this
    exact this
set_option maxRecDepth 100000 in
theorem slice_value {T E : TypeId} {r : Reach} {v : Value} (hT : Tryd.prog.underlying T = some (.slice E)) (hv : Value.okWide Tryd.prog W r base T v) {ao : Option Addr} {n cap : Nat} (h : v.cells.toList = [.slice ao n cap]) : v = .slice ao n cap := by
  cases v with
  | agg cs => simp only [Value.okWide, hT, Cell.okWide, Cell.ok] at hv
  | slice a l c => simpa [Value.cells] using h
  | _ => exact absurd (List.cons.inj h).1 (by intro e; cases e)
theorem trod_int1 {T : TypeId} (hT : Tryd.prog.underlying T = some (.int .i64)) (h1 : Tryd.prog.cellsOf T = 1) {fuel : Nat} {l : List Value} {x : DataW H × List MemPlace} (h : DataW.trod enc Tryd.prog W base sp held fuel T l = some x) : ∃ e : Int, l = #[Value.int .i64 e].toList := by
  obtain ⟨a, ea, _⟩ := DataW.trod_int hT h
  exact ⟨a, ea⟩
end
end Go.Proofs.YtdncppempgpooaaDoor

/- What came in, opened: a die, stints, a plan; the library's table; for the rows of layer 4. -/
namespace Go.Proofs.YtdncppempgpooaaDoor
open Go.ChangeShapes Go.WideShapes Go.ChangeAt Go.RowKit Go.Joins

theorem Tryd.own : ownKnob Tryd.prog.godebug = none := by kernel_rfl
theorem Tryd.laidOut : laidOutB Tryd.prog = true := by kernel_rfl
theorem cellsOf3 : Tryd.prog.cellsOf 3 = 1 := by kernel_rfl
theorem cellsOf28 : Tryd.prog.cellsOf 28 = 2 := by kernel_rfl
theorem cellsOf53 : Tryd.prog.cellsOf 53 = 4 := by kernel_rfl
theorem cellsOf58 : Tryd.prog.cellsOf 58 = 2 := by kernel_rfl
theorem cellsOf24 : Tryd.prog.cellsOf 24 = 4 := by kernel_rfl

section
variable {H : Type} {enc : TypeId × Value → H} {W : World} {base : Nat} {sp : Nat → Bool} {held : Bool}
set_option maxRecDepth 100000 in
theorem trod_span {fuel : Nat} {cs : List Value} {x : DataW H × List MemPlace} (h : DataW.trod enc Tryd.prog W base sp held fuel 28 cs = some x) : ∃ s : Int × Int, cs = (spC s).toList := by
  obtain ⟨xs, n, _, _, hl, hx, hf⟩ := DataW.trod_struct Tryd.underlying28 h
  rw [cellsOf28] at hl
  match cs, hl with
  | [c0, c1], _ =>
    match xs, hx with
    | [x0, x1], _ =>
      have h0 := hf 0 _ rfl
      have h1 := hf 1 _ rfl
      obtain ⟨a, ea, _⟩ := DataW.trod_int Tryd.underlying3 h0
      obtain ⟨b, eb, _⟩ := DataW.trod_int Tryd.underlying3 h1
      replace ea : ([c0, c1].drop 0).take (Tryd.prog.cellsOf 3) = _ := ea
      rw [cellsOf3] at ea
      replace ea : [c0] = _ := ea
      replace eb : ([c0, c1].drop 1).take (Tryd.prog.cellsOf 3) = _ := eb
      rw [cellsOf3] at eb
      replace eb : [c1] = _ := eb
      simp only [List.cons.injEq, and_true] at ea eb
      exact ⟨(a, b), by rw [ea, eb]⟩
set_option maxRecDepth 100000 in
theorem trod_stint {fuel : Nat} {cs : List Value} {x : DataW H × List MemPlace} (h : DataW.trod enc Tryd.prog W base sp held fuel 58 cs = some x) : ∃ s : Int × Int, cs = (spC s).toList := by
  obtain ⟨xs, n, _, _, hl, hx, hf⟩ := DataW.trod_struct Tryd.underlying58 h
  rw [cellsOf58] at hl
  match cs, hl with
  | [c0, c1], _ =>
    match xs, hx with
    | [x0, x1], _ =>
      have h0 := hf 0 _ rfl
      have h1 := hf 1 _ rfl
      obtain ⟨a, ea, _⟩ := DataW.trod_int Tryd.underlying3 h0
      obtain ⟨b, eb, _⟩ := DataW.trod_int Tryd.underlying3 h1
      replace ea : ([c0, c1].drop 0).take (Tryd.prog.cellsOf 3) = _ := ea
      rw [cellsOf3] at ea
      replace ea : [c0] = _ := ea
      replace eb : ([c0, c1].drop 1).take (Tryd.prog.cellsOf 3) = _ := eb
      rw [cellsOf3] at eb
      replace eb : [c1] = _ := eb
      simp only [List.cons.injEq, and_true] at ea eb
      exact ⟨(a, b), by rw [ea, eb]⟩
set_option maxRecDepth 100000 in
theorem trod_blade {fuel : Nat} {cs : List Value} {x : DataW H × List MemPlace} (h : DataW.trod enc Tryd.prog W base sp held fuel 53 cs = some x) : ∃ b : Bld, cs = (blC b).toList := by
  obtain ⟨xs, n, _, _, hl, hx, hf⟩ := DataW.trod_struct Tryd.underlying53 h
  rw [cellsOf53] at hl
  match cs, hl with
  | [c0, c1, c2, c3], _ =>
    match xs, hx with
    | [x0, x1], _ =>
      have h0 := hf 0 _ rfl
      have h1 := hf 1 _ rfl
      obtain ⟨a, ea⟩ := trod_span h0
      obtain ⟨b, eb⟩ := trod_span h1
      replace ea : ([c0, c1, c2, c3].drop 0).take (Tryd.prog.cellsOf 28) = _ := ea
      rw [cellsOf28] at ea
      replace ea : [c0, c1] = _ := ea
      replace eb : ([c0, c1, c2, c3].drop 2).take (Tryd.prog.cellsOf 28) = _ := eb
      rw [cellsOf28] at eb
      replace eb : [c2, c3] = _ := eb
      simp only [List.cons.injEq, and_true] at ea eb
      obtain ⟨rfl, rfl⟩ := ea
      obtain ⟨rfl, rfl⟩ := eb
      exact ⟨⟨a, b⟩, rfl⟩

set_option maxRecDepth 100000 in
theorem die_opened {r : Reach} {v : Value} {d : DataW H} {p : List MemPlace} (hv : Value.okWide Tryd.prog W r base 24 v) {b0 : Nat} (h : DataW.Trod enc Tryd.prog W b0 sp held 24 v d p) :
    ∃ (ao : Option Addr) (cap : Nat) (y : Dye), v = dyV ao y.bl.length cap y ∧ y.bl.length ≤ 9223372036854775807 ∧ (y.bl.length ≤ 1000000000000 → BladesAt W.heap.size W ao y.bl) := by
  obtain ⟨v0, v1, v2, v3, y0, y1, y2, y3, m, rfl, _, _, t0, t1, t2, t3⟩ := open_agg4 Tryd.underlying24 (by kernel_rfl) cellsOf24 hv h
  obtain ⟨bd, e1, _, _⟩ := DataW.trod_int Tryd.underlying3 t1
  obtain ⟨st, e2, _, _⟩ := DataW.trod_int Tryd.underlying3 t2
  obtain ⟨be, e3, _, _⟩ := DataW.trod_int Tryd.underlying3 t3
  simp only [List.cons.injEq, and_true] at e1 e2 e3
  subst e1; subst e2; subst e3
  obtain ⟨ao, n, cap, rfl, hn, es, hes, hat⟩ := slice_opened (by omega : 0 < 4) blC (fun _ => rfl) Tryd.underlying22 cellsOf53 (fun _ _ _ h => trod_blade h) t0
  exact ⟨ao, cap, ⟨es, bd, st, be⟩, by rw [hes], by rw [hes]; exact hn, fun hs => ⟨hat, hs⟩⟩
set_option maxRecDepth 100000 in
theorem stints_opened {r : Reach} {v : Value} {d : DataW H} {p : List MemPlace} (hv : Value.okWide Tryd.prog W r base 33 v) {b0 : Nat} (h : DataW.Trod enc Tryd.prog W b0 sp held 33 v d p) :
    ∃ (ao : Option Addr) (cap : Nat) (l : List (Int × Int)), v = .slice ao l.length cap ∧ l.length ≤ 9223372036854775807 ∧ (l.length ≤ 1000000000000 → StintsAt W.heap.size W ao l) := by
  obtain ⟨fuel, hf⟩ := h
  have hone : ∃ c, v.cells.toList = [c] := by
    cases v with
    | agg cs => simp only [Value.okWide, Tryd.underlying33, Cell.okWide, Cell.ok] at hv
    | _ => exact ⟨_, rfl⟩
  obtain ⟨c, hc⟩ := hone
  rw [hc] at hf
  obtain ⟨ao, n, cap, rfl, hn, es, hes, hat⟩ := slice_opened (by omega : 0 < 2) spC (fun _ => rfl) Tryd.underlying33 cellsOf58 (fun _ _ _ h => trod_stint h) hf
  exact ⟨ao, cap, es, by rw [slice_value Tryd.underlying33 hv hc, hes], by rw [hes]; exact hn, fun hs => ⟨hat, hs⟩⟩
set_option maxRecDepth 100000 in
theorem plan_opened {r : Reach} {v : Value} {d : DataW H} {p : List MemPlace} (hv : Value.okWide Tryd.prog W r base 34 v) {b0 : Nat} (h : DataW.Trod enc Tryd.prog W b0 sp held 34 v d p) :
    ∃ (ao : Option Addr) (cap : Nat) (l : List Int), v = .slice ao l.length cap ∧ l.length ≤ 9223372036854775807 ∧ (l.length ≤ 1000000 → IntsAt W ao l) := by
  obtain ⟨fuel, hf⟩ := h
  have hone : ∃ c, v.cells.toList = [c] := by
    cases v with
    | agg cs => simp only [Value.okWide, Tryd.underlying34, Cell.okWide, Cell.ok] at hv
    | _ => exact ⟨_, rfl⟩
  obtain ⟨c, hc⟩ := hone
  rw [hc] at hf
  obtain ⟨ao, n, cap, rfl, hn, es, hes, hat⟩ := slice_opened (by omega : 0 < 1) (fun x : Int => #[.int .i64 x]) (fun _ => rfl) Tryd.underlying34 cellsOf3 (fun _ _ _ h => trod_int1 Tryd.underlying3 cellsOf3 h) hf
  refine ⟨ao, cap, es, by rw [slice_value Tryd.underlying34 hv hc, hes], by rw [hes]; exact hn, fun hs => ⟨fun hne => ?_, hs⟩⟩
  obtain ⟨b, off, h1, h2, h3⟩ := hat hne
  refine ⟨b, off, h1, h2, fun j hj => ?_⟩
  obtain ⟨x, hx⟩ : ∃ x, es[j]? = some x := ⟨_, List.getElem?_eq_getElem hj⟩
  have := h3 j x hx 0 (by omega)
  rw [hx]
  simpa using this
end

/-! ### the library's table -/
theorem gTab : Tryd.prog.globalNamed "math/bits.deBruijn64tab" = some 1 := by kernel_rfl
theorem tTab : (Tryd.prog.globals[1]?).map (·.type) = some 133 := by kernel_rfl
theorem cellsT : Tryd.prog.cellsOf 133 = 64 := by kernel_rfl
theorem cells5 : Tryd.prog.cellsOf 5 = 1 := by kernel_rfl
abbrev laidL : List (String × DataW Unit) := [("math/bits.deBruijn32tab", Rows.laid_math_bits_deBruijn32tab), ("math/bits.deBruijn64tab", Rows.laid_math_bits_deBruijn64tab)]
abbrev tabZ : List Int := List.map (fun n : Nat => (Int.ofNat n)) Lib.deBruijn64tab
theorem tab_data : (Rows.laid_math_bits_deBruijn64tab : DataW Unit) = Lib.tabData .u8 tabZ := by kernel_rfl
theorem tab_of_laid {W : World} (h : laidMetH Tryd.prog laidL W) : Tab W := by
  rw [MakeChecks.laidMetH_plain _ _ _ (by kernel_rfl)] at h
  have h2 := h.tail
  rw [tab_data] at h2
  have ht := Lib.tabIs_of_head gTab tTab Tryd.underlying133 Tryd.underlying5 cells5 cellsT h2
  refine ⟨fun j hj => ?_⟩
  have hl : j < tabZ.length := by rw [List.length_map]; exact Nat.lt_of_lt_of_le hj (by decide +kernel)
  have := ht.cell gTab j hl
  rw [this]
  have hj2 : j < Lib.deBruijn64tab.length := by simpa using hl
  simp [List.getD, hj2]

/-- The door's own heap meets the condition. -/
theorem door_met (os : Os) (args : Array Value) : laidMetH Tryd.prog laidL ((World.doorLaid Tryd.prog 400 os).forCall (fun _ _ => 0) ⟨#[], args, []⟩).memory :=
  laidMetH_of_parts3 (fuel := 8) (laidMet_of_run' 8 (by kernel_rfl) (by kernel_rfl)) (by kernel_rfl) (by kernel_rfl)

abbrev noDie : Value := .agg #[.slice none 0 0, .int .i64 0, .int .i64 0, .int .i64 0]

end Go.Proofs.YtdncppempgpooaaDoor

/- Several texts in one (a claim holds at most 60 files): each has its own words ahead of it. -/

/- RuleTrue: raw numbers that came in; a number of a span (pick); what follows of a plan. -/
namespace Go.Proofs.YtdncppempgpooaaDoor
open Go Go.ChangeShapes Go.WideShapes Go.ChangeAt Go.RowKit Go.Joins Go.Shelf

/-- Raw numbers of two bytes. -/
def RawsAt (w : World) (bo : Option Addr) (n : Nat) : Prop := ∃ bb boff, bo = some ⟨bb, boff, none⟩ ∧ bb < w.heap.size ∧ ∀ j, j < n → ∃ u : Nat, u ≤ 65535 ∧ w.cell? ⟨bb, boff + j, none⟩ = some (.int .u16 u)
theorem RawsAt.mod {w w' : World} {bo : Option Addr} {n : Nat} (h : RawsAt w bo n) (hm : Mod noB w w') : RawsAt w' bo n := by
  obtain ⟨bb, boff, h1, h2, h3⟩ := h
  exact ⟨bb, boff, h1, Nat.lt_of_lt_of_le h2 hm.size, fun j hj => by obtain ⟨u, hu, hc⟩ := h3 j hj; exact ⟨u, hu, (cell_same (hm.block bb h2 id) _).trans hc⟩⟩
theorem cellsOf55 : Tryd.prog.cellsOf 55 = 1 := by kernel_rfl
section
variable {H : Type} {enc : TypeId × Value → H} {W : World} {base : Nat} {sp : Nat → Bool} {held : Bool}
set_option maxRecDepth 100000 in
theorem raws_opened {r : Reach} {v : Value} {d : DataW H} {p : List MemPlace} (hv : Value.okWide Tryd.prog W r base 46 v) {b0 : Nat} (h : DataW.Trod enc Tryd.prog W b0 sp held 46 v d p) :
    ∃ (bo : Option Addr) (n cap : Nat), v = .slice bo n cap ∧ n ≤ 9223372036854775807 ∧ (0 < n → RawsAt W bo n) := by
  obtain ⟨fuel, hf⟩ := h
  have hone : ∃ c, v.cells.toList = [c] := by
    cases v with
    | agg cs => simp only [Value.okWide, Tryd.underlying46, Cell.okWide, Cell.ok] at hv
    | _ => exact ⟨_, rfl⟩
  obtain ⟨c, hc⟩ := hone
  rw [hc] at hf
  obtain ⟨ao, n, cap, rfl, hn, es, hes, hat⟩ := slice_opened (by omega : 0 < 1) (fun u : { u : Nat // u ≤ 65535 } => #[Value.int .u16 (u.1 : Nat)]) (fun _ => rfl) Tryd.underlying46 cellsOf55 (fun _ l _ h => by
    obtain ⟨a, ea, _, hw⟩ := DataW.trod_int Tryd.underlying55 h
    obtain ⟨a0, a1⟩ := wf_u16 hw
    refine ⟨⟨a.toNat, by omega⟩, ?_⟩
    rw [ea]
    show [Value.int .u16 a] = [Value.int .u16 (a.toNat : Nat)]
    rw [Int.toNat_of_nonneg a0]) hf
  refine ⟨ao, n, cap, slice_value Tryd.underlying46 hv hc, hn, fun h0 => ?_⟩
  obtain ⟨b, off, h1, h2, h3⟩ := hat (fun e => by rw [e] at hes; simp at hes; omega)
  refine ⟨b, off, h1, h2, fun j hj => ?_⟩
  obtain ⟨u, hu⟩ : ∃ u, es[j]? = some u := ⟨_, List.getElem?_eq_getElem (by omega)⟩
  refine ⟨u.1, u.2, ?_⟩
  have := h3 j u hu 0 (by omega)
  rw [Nat.mul_one, Nat.add_zero] at this
  exact this
end

/-- A number of a span, by a remainder. -/
def pickR (s : Int × Int) (u : Nat) : Int := s.1 + ((u % (s.2 - s.1 + 1).toNat : Nat) : Int)
theorem pickR_in {s : Int × Int} (h : s.1 ≤ s.2) (u : Nat) : s.1 ≤ pickR s u ∧ pickR s u ≤ s.2 := by
  have := Nat.mod_lt u (show 0 < (s.2 - s.1 + 1).toNat by omega)
  unfold pickR
  omega
set_option maxRecDepth 100000 in
set_option maxHeartbeats 2000000 in
theorem pick_any (s : Int × Int) (u : Nat) (w : World) (h0 : 0 ≤ s.1) (h1 : s.1 ≤ s.2) (h2 : s.2 ≤ 10000) (hu : u ≤ 65535) : Calls Tryd.prog 32 #[spV s, .int .u16 u] w fun e w' => e = .returned (.int .i64 (pickR s u)) ∧ Mod noB w w' := by
  obtain ⟨m, hm⟩ : ∃ m : Nat, s.2 - s.1 + 1 = m := ⟨(s.2 - s.1 + 1).toNat, by omega⟩
  have hp : pickR s u = s.1 + ((u % m : Nat) : Int) := by unfold pickR; rw [hm]; rfl
  rw [hp]
  obtain ⟨a, b⟩ := s
  simp only at h0 h1 h2 hm ⊢
  have hml := Nat.mod_lt u (show 0 < m by omega)
  have hrem : Int.tmod (u : Int) (m : Int) = ((u % m : Nat) : Int) := rfl
  generalize u % m = t at *
  have hne : ((m : Int) == 0) = false := beq_eq_false_iff_ne.2 (by omega)
  have hne2 : ¬ (m = 0) := by omega
  have hw1 : IntKind.i64.wrap (u : Int) = (u : Int) := IntWalk.i64_in _ (by omega)
  have hw2 : IntKind.i64.wrap (b - a) = b - a := IntWalk.i64_in _ (by omega)
  have hw3 : IntKind.i64.wrap (m : Int) = (m : Int) := IntWalk.i64_in _ (by omega)
  have hw4 : IntKind.i64.wrap (t : Int) = (t : Int) := IntWalk.i64_in _ (by omega)
  have hw5 : IntKind.i64.wrap (a + (t : Int)) = a + (t : Int) := IntWalk.i64_in _ (by omega)
  have hb := World.alloc_heap_new w (.cells #[.int .i64 a, .int .i64 b] 28)
  have FIN : Hold (∀ W', Mod noB (w.alloc (.cells #[.int .i64 a, .int .i64 b] 28)) W' → W'.cell? ⟨w.heap.size, 0, none⟩ = some (.int .i64 a) ∧ W'.cell? ⟨w.heap.size, 1, none⟩ = some (.int .i64 b)) := ⟨fun W' h => ⟨cellsAt (h.at hb id) 0, cellsAt (h.at hb id) 1⟩⟩
  have HM := Hold.mk ((Mod.refl noB w).alloc (.cells #[.int .i64 a, .int .i64 b] 28))
  clear hb
  go_enter Tryd.func32, Tryd.ntmps32
  go_wp2
  generalize w.alloc (.cells #[.int .i64 a, .int .i64 b] 28) = w0 at *
  refine region_quietP (by kernel_rfl) (by kernel_rfl) (fun W' => Mod noB w0 W') ((Mod.refl _ _).drew) ?_
  repeat
    (first
      | go_big_quiet_skip
      | (go_big_quiet_want
         go_simp
         first
           | go_big_quiet_on
           | (apply Exists.intro
              refine ⟨fun W' hC => ?_, ?_⟩
              · obtain ⟨c0, c1⟩ := FIN.out W' hC
                first
                  | with_reducible rfl
                  | (go_simp; first | rfl | exact ⟨rfl, rfl⟩)
              go_big_quiet_on)
           | (refine ⟨⟨_, fun _ _ => rfl⟩, ?_⟩; go_big_quiet_on)))
  refine wpQuiet_nil ?_
  intro Wq hq
  have HMq := Hold.mk (HM.out.trans hq)
  clear hq
  go_wp2
  go_ret
  exact ⟨rfl, HMq.out⟩

/-- What comes of following a list. -/
theorem follow_cases {d : Dye} {l : List (Int × Int)} (hd : dieB d = true) (hs : stintsB l = true) (q : List Int) : (followE d l q = (0, 0, 0, 2)) ∨
    (∃ j b : Nat, followE d l q = (0, (j : Int), (b : Int), 11) ∧ planB d l q = true ∧ badR d 0 zeroR l (0 :: natsOf q) = some (j, b) ∧ j < l.length ∧ b < d.bl.length) ∨
    (followE d l q = (costR d q, (l.length : Int), 0, 0) ∧ planB d l q = true ∧ badR d 0 zeroR l (0 :: natsOf q) = none) := by
  cases hpb : planB d l q with
  | false => exact .inl (by simp [followE, hd, hs, hpb])
  | true =>
    have hE : followE d l q = goR d 0 zeroR 0 l (0 :: natsOf q) := by simp [followE, hd, hs, hpb]
    have hl : q.length = max 0 (l.length - 1) := by simp [planB] at hpb; omega
    rw [follow_is d l q hl] at hE
    cases hb : badR d 0 zeroR l (0 :: natsOf q) with
    | some x =>
      obtain ⟨j, b⟩ := x
      rw [hb] at hE
      have := bad_bd l 0 zeroR _ j b hb
      exact .inr (.inl ⟨j, b, hE, rfl, rfl, by omega, this.2.2⟩)
    | none =>
      rw [hb] at hE
      exact .inr (.inr ⟨hE, rfl, rfl⟩)
/-- The best plan, if there is one, is good. -/
theorem plan_follow {d : Dye} {l : List (Int × Int)} {P : List Int} {pc pe : Int} (hd : dieB d = true) (hs : stintsB l = true) (h : planE d l = (P, pc, pe)) : pe = 4 ∨
    (pe = 0 ∧ followE d l P = (costR d P, (l.length : Int), 0, 0) ∧ planB d l P = true ∧ badR d 0 zeroR l (0 :: natsOf P) = none) := by
  by_cases hb : ∀ s ∈ l, failing d zeroR s = none
  · obtain ⟨i, h1, h2, _⟩ := best_in hd hs hb
    have hp := plan_ok hd hs hb
    rw [hp] at h
    simp only [Prod.mk.injEq] at h
    obtain ⟨rfl, _, rfl⟩ := h
    obtain ⟨a1, a2⟩ := allP_is h1
    refine .inr ⟨rfl, ?_, plan_is a1 a2, h2⟩
    rcases follow_cases hd hs ((bestP d l).map Int.ofNat) with h3 | ⟨j, b, _, _, h3, _⟩ | ⟨h3, _⟩
    · have hpb := plan_is a1 a2
      have hE : followE d l ((bestP d l).map Int.ofNat) = goR d 0 zeroR 0 l (0 :: natsOf ((bestP d l).map Int.ofNat)) := by simp [followE, hd, hs, hpb]
      have hl : ((bestP d l).map Int.ofNat).length = max 0 (l.length - 1) := by omega
      rw [follow_is d l _ hl, h2] at hE
      exact hE
    · rw [h2] at h3; cases h3
    · exact h3
  · have hbb : bearsB d l = false := by
      cases h : bearsB d l with
      | false => rfl
      | true =>
        refine absurd (fun s hs => ?_) hb
        unfold bearsB at h
        have := List.all_eq_true.1 h s hs
        simpa using this
    simp [planE, hd, hs, hbb] at h
    exact .inl h.2.2.symm
theorem bad_none {d : Dye} {p : List Int} {i : Nat} {r : Nat → Int} {l : List (Int × Int)} {s : Int × Int} (h : badR d i r (l.drop i) ((0 :: natsOf p).drop i) = none) (hs : l[i]? = some s) :
    failing d (bentR r (setAt p i)) s = none ∧ badR d (i + 1) (runR d (bentR r (setAt p i)) s) (l.drop (i + 1)) ((0 :: natsOf p).drop (i + 1)) = none := by
  rw [badR_step d p i r l s hs] at h
  cases hf : failing d (bentR r (setAt p i)) s with
  | some b => rw [hf] at h; cases h
  | none => rw [hf] at h; exact ⟨rfl, h⟩
/-- How far a blade is off, which wears so much each time. -/
theorem off_in {f1 f2 w1 w2 fr wr n top : Int} (hf : f1 ≤ fr ∧ fr ≤ f2) (hw0 : 0 ≤ w1) (hw : w1 ≤ wr ∧ wr ≤ w2) (hn : 0 ≤ n) (ht : n ≤ top) : f1 + n * w1 ≤ fr + wr * n ∧ fr + wr * n ≤ f2 + n * w2 ∧ fr + wr * n ≤ f2 + top * w2 := by
  have h1 : n * w1 ≤ n * wr := Int.mul_le_mul_of_nonneg_left hw.1 hn
  have h2 : n * wr ≤ n * w2 := Int.mul_le_mul_of_nonneg_left hw.2 hn
  have h3 : n * w2 ≤ top * w2 := Int.mul_le_mul_of_nonneg_right ht (by omega)
  rw [Int.mul_comm wr n]
  omega
theorem off_bd {wr n : Int} (h0 : 0 ≤ wr) (h1 : wr ≤ 10000) (h2 : 0 ≤ n) (h3 : n ≤ 7000) : 0 ≤ wr * n ∧ wr * n ≤ 70000000 := by
  refine ⟨Int.mul_nonneg h0 h2, ?_⟩
  have h4 : wr * n ≤ wr * 7000 := Int.mul_le_mul_of_nonneg_left h3 h0
  omega
end Go.Proofs.YtdncppempgpooaaDoor

/- RuleTrue: its five drawn regions (the operations, and a step for each: written by wip/tools). -/
namespace Go.Proofs.YtdncppempgpooaaDoor
open Go Go.RowKit Go.Shelf

def guardsC (l : List Oper) (C : Nat → Value) : Bool :=
  l.all fun o => match o.guard with
    | none => true
    | some (j, want) => waitsB o j && (match l[j]? with | some oj => oj.dst.isSome | none => false) && (match C j with | .bool c => c == want | _ => false)
/-- A drawn region, each of whose operations yields a known value. -/
theorem region_known {rid n : Nat} {Q : Exit → Act → World → Prop} {a0 : Act} {w : World} {l : List Oper} (hlow : lowB l = true) (ds : List (Nat × Nat)) (hsz : a0.tmps.size = n) (hok : slotsB l ds n = true) (C : Nat → Value) (hY : guardsC l C = true)
    (hs : ∀ i o (ρ : Act) w', i < l.length → l[i]? = some o → Mod noB w w' → (∀ j s, waitsB o j = true → (j, s) ∈ ds → ρ.eval (.tmp s) = C j) → (∀ s, s ∉ ds.map Prod.snd → ρ.eval (.tmp s) = a0.eval (.tmp s)) →
      wpList Tryd.prog l.toArray (only fun a' w2 => a' = ρ.put o.dst (C i) ∧ Mod noB w' w2) [{ o with guard := none }] ρ w')
    (hend : ∀ w', Mod noB w w' → Q .normal (ds.foldl (fun a x => a.put (some x.2) (C x.1)) a0) w') : (Code.region rid l.toArray true).wp Tryd.prog Q a0 w := by
  simp only [slotsB, Bool.and_eq_true, decide_eq_true_eq, List.all_eq_true, List.mem_range] at hok
  obtain ⟨⟨⟨n1, n2⟩, n3⟩, n4⟩ := hok
  have hin : ∀ i o s, l[i]? = some o → o.dst = some s → (i, s) ∈ ds := fun i o s ho hd => by
    have := n4 i (List.getElem?_eq_some_iff.1 ho).1
    simpa [ho, hd] using this
  refine region_predW hlow ds (fun j v w => v = C j) (fun _ w' => Mod noB w w') (fun w1 w2 => Mod noB w1 w2) (fun j v w1 w2 h hm => h) n1 n2 (fun x hx => by rw [hsz]; exact (n3 x hx).1) hin (fun i o ho hd => ?_) (fun x hx => (n3 x hx).2) (Mod.refl noB w).drew ?_ ?_
  · have := n4 i (List.getElem?_eq_some_iff.1 ho).1
    simpa [ho, hd] using this
  · intro D i o ρ w' hcl ho hD hdep hP hA hM
    have kn : ∀ j s, waitsB o j = true → (j, s) ∈ ds → ρ.eval (.tmp s) = C j := fun j s hw hm => by
      obtain ⟨e, he, hb, hj⟩ : ∃ e ∈ o.after, Region.binds .any e = true ∧ e.on = j := by
        obtain ⟨k, hk, hh⟩ := Array.any_eq_true.1 hw
        simp only [Bool.and_eq_true, beq_iff_eq] at hh
        exact ⟨_, Array.getElem_mem hk, hh.1, hh.2⟩
      exact hP j s hm (hj ▸ hdep e he hb)
    have hst := hs i o ρ w' (List.getElem?_eq_some_iff.1 ho).1 ho hM kn (fun s hns => hA s fun x hx e => absurd (e ▸ List.mem_map.2 ⟨x, hx, rfl⟩ : s ∈ ds.map Prod.snd) hns)
    have hwant : Region.wanted o (yielded l.toArray ρ.tmps) = true := by
      have hg := List.all_eq_true.1 hY o (List.mem_of_getElem? ho)
      unfold Region.wanted
      cases hgu : o.guard with
      | none => rfl
      | some jw =>
        obtain ⟨j, want⟩ := jw
        simp only [hgu, Bool.and_eq_true] at hg
        obtain ⟨⟨g1, g2⟩, g3⟩ := hg
        cases hoj : l[j]? with
        | none => simp [hoj] at g2
        | some oj =>
          simp only [hoj] at g2
          obtain ⟨s, hds⟩ := Option.isSome_iff_exists.1 g2
          have hv := kn j s g1 (hin j oj s hoj hds)
          split at g3
          · rename_i c heq
            rw [heq] at hv
            have hc : c = want := by simpa using g3
            subst hc
            have := eval_bool_at hv
            simp only [yielded, List.getElem?_toArray, hoj, Option.bind_some, hds, this]
            simp
          · cases g3
    refine wpList_strike hwant (wpList_mono1W ?_ hst)
    rintro a' w2 ⟨rfl, hm⟩
    exact ⟨⟨C i, rfl, fun _ => rfl⟩, hm, hM.trans hm⟩
  · intro vs D w' hall hP hM
    have e : ∀ (ds' : List (Nat × Nat)) (a : Act), (∀ x ∈ ds', x ∈ ds) → ds'.foldl (fun a x => a.put (some x.2) (vs x.1)) a = ds'.foldl (fun a x => a.put (some x.2) (C x.1)) a := by
      intro ds'
      induction ds' with
      | nil => intro a _; rfl
      | cons x ds' ih =>
        intro a hx
        simp only [List.foldl_cons]
        rw [hP x (hx x (by simp))]
        exact ih _ fun y hy => hx y (by simp [hy])
    rw [e ds a0 fun x hx => hx]
    exact hend w' hM

section
variable {o : Oper} {a : Act} {w : World} {x y z : Operand}
theorem run_remN (hop : o.op = .binOp .rem 3 x y 3) {A : Int} {m t : Nat} (hx : a.eval x = .int .i64 A) (hy : a.eval y = .int .i64 (m : Int)) (h0 : ¬ m = 0) (hC : Int.tmod A (m : Int) = (t : Int)) (ht : t ≤ 9000000000000000000) : (execOp a.eval o).run Tryd.prog w = .ok (.value (.int .i64 (t : Int))) w := by
  have hw : IntKind.i64.wrap (t : Int) = (t : Int) := IntWalk.i64_in _ (by omega)
  simp only [execOp, hop, hx, hy]
  go_simp
  done
theorem run_idx46 (hop : o.op = .indexAddr 46 x y) {b f n c i : Nat} (hx : a.eval x = .slice (some ⟨b, f, none⟩) n c) (hy : a.eval y = .int .i64 (i : Int)) (hi : i < n) : (execOp a.eval o).run Tryd.prog w = .ok (.value (.pointer (some ⟨b, f + i, none⟩))) w := by
  have h1 : (i : Int) < (n : Int) := by omega
  simp only [execOp, hop, hx, hy]
  go_simp
  done
theorem run_idx33 (hop : o.op = .indexAddr 33 x y) {b f n c i : Nat} (hx : a.eval x = .slice (some ⟨b, f, none⟩) n c) (hy : a.eval y = .int .i64 (i : Int)) (hi : i < n) : (execOp a.eval o).run Tryd.prog w = .ok (.value (.pointer (some ⟨b, f + i * 2, none⟩))) w := by
  have h1 : (i : Int) < (n : Int) := by omega
  simp only [execOp, hop, hx, hy]
  go_simp
  done
theorem run_conv55 (hop : o.op = .convert 55 3 x) {u : Nat} (hx : a.eval x = .int .u16 (u : Int)) (hu : u ≤ 65535) : (execOp a.eval o).run Tryd.prog w = .ok (.value (.int .i64 (u : Int))) w := by
  have hw : IntKind.i64.wrap (u : Int) = (u : Int) := IntWalk.i64_in _ (by omega)
  simp only [execOp, hop, hx]
  go_simp
  done
theorem run_neq29F (hop : o.op = .binOp .neq 29 x y 29) {A : Int} (hx : a.eval x = .int .i64 A) (hy : a.eval y = .int .i64 A) : (execOp a.eval o).run Tryd.prog w = .ok (.value (.bool false)) w := by
  simp only [execOp, hop, hx, hy]
  go_simp
  done
theorem run_lssF (hop : o.op = .binOp .lss 3 x y 3) {A B : Int} (hx : a.eval x = .int .i64 A) (hy : a.eval y = .int .i64 B) (h : ¬ A < B) : (execOp a.eval o).run Tryd.prog w = .ok (.value (.bool false)) w := by
  have h2 := decide_eq_false h
  simp only [execOp, hop, hx, hy]
  go_simp
  first | done | omega
theorem run_gtrF (hop : o.op = .binOp .gtr 3 x y 3) {A B : Int} (hx : a.eval x = .int .i64 A) (hy : a.eval y = .int .i64 B) (h : ¬ B < A) : (execOp a.eval o).run Tryd.prog w = .ok (.value (.bool false)) w := by
  have h2 := decide_eq_false h
  simp only [execOp, hop, hx, hy]
  go_simp
  first | done | omega
theorem run_pickF (hop : o.op = .pick x y z) {v : Value} (hx : a.eval x = .bool false) (hz : a.eval z = v) : (execOp a.eval o).run Tryd.prog w = .ok (.value v) w := by
  simp only [execOp, hop, hx, hz]
  rfl
end
theorem enter32 : ∀ args w, (callFunc 32 args).run Tryd.prog w = .ok (.enter 32 args) w := enters_of Tryd.func32 (by kernel_rfl) rfl

@[reducible] def ta0 : Oper := { dst := some 161, op := Op.fieldAddr 53 (Operand.tmp 22) 1, type := 0, pos := "outright.go:41", after := #[], guard := none }
@[reducible] def ta1 : Oper := { dst := some 162, op := Op.load 28 (Operand.tmp 161), type := 28, pos := "outright.go:41", after := #[{ on := 0, ground := Ground.data }], guard := none }
@[reducible] def ta2 : Oper := { dst := some 163, op := Op.move (Operand.tmp 3), type := 46, pos := "outright.go:41", after := #[], guard := none }
@[reducible] def ta3 : Oper := { dst := some 164, op := Op.move (Operand.tmp 21), type := 3, pos := "outright.go:41", after := #[], guard := none }
@[reducible] def ta4 : Oper := { dst := some 165, op := Op.move (Operand.tmp 3), type := 46, pos := "outright.go:41", after := #[], guard := none }
@[reducible] def ta5 : Oper := { dst := some 166, op := Op.call { callee := Callee.builtin Builtin.len, args := #[Operand.tmp 165], argTypes := #[46] }, type := 3, pos := "outright.go:41", after := #[{ on := 4, ground := Ground.data }], guard := none }
@[reducible] def ta6 : Oper := { dst := some 167, op := Op.binOp BinOp.rem 3 (Operand.tmp 164) (Operand.tmp 166) 3, type := 3, pos := "outright.go:41", after := #[{ on := 3, ground := Ground.data }, { on := 5, ground := Ground.data }], guard := none }
@[reducible] def ta7 : Oper := { dst := some 168, op := Op.indexAddr 46 (Operand.tmp 163) (Operand.tmp 167), type := 0, pos := "outright.go:41", after := #[{ on := 2, ground := Ground.data }, { on := 6, ground := Ground.data }], guard := none }
@[reducible] def ta8 : Oper := { dst := some 169, op := Op.load 55 (Operand.tmp 168), type := 55, pos := "outright.go:41", after := #[{ on := 7, ground := Ground.data }], guard := none }
@[reducible] def ta9 : Oper := { dst := some 170, op := Op.call { callee := Callee.value (Operand.func 32), args := #[Operand.tmp 162, Operand.tmp 169], argTypes := #[28, 55] }, type := 3, pos := "outright.go:41", after := #[{ on := 1, ground := Ground.data }, { on := 8, ground := Ground.data }], guard := none }
@[reducible] def ta10 : Oper := { dst := some 23, op := Op.assign (Operand.tmp 170), type := 3, pos := "outright.go:41", after := #[{ on := 9, ground := Ground.data }, { on := 9, ground := Ground.chain }, { on := 0, ground := Ground.phase }, { on := 1, ground := Ground.phase }, { on := 2, ground := Ground.phase }, { on := 3, ground := Ground.phase }, { on := 4, ground := Ground.phase }, { on := 5, ground := Ground.phase }, { on := 6, ground := Ground.phase }, { on := 7, ground := Ground.phase }, { on := 8, ground := Ground.phase }, { on := 9, ground := Ground.phase }], guard := none }
@[reducible] def taOps : List Oper := [ta0, ta1, ta2, ta3, ta4, ta5, ta6, ta7, ta8, ta9, ta10]
@[reducible] def taDs : List (Nat × Nat) := [(0, 161), (1, 162), (2, 163), (3, 164), (4, 165), (5, 166), (6, 167), (7, 168), (8, 169), (9, 170), (10, 23)]
theorem taB : lowB taOps = true := by kernel_rfl
theorem taOk : slotsB taOps taDs 278 = true := by decide +kernel
@[reducible] def taC (xb bb boff bn bcap j u b : Nat) (p q wr : Int) : Nat → Value := fun idx => ([Value.pointer (some ⟨xb, 2, none⟩), Value.agg #[.int .i64 p, .int .i64 q], Value.slice (some ⟨bb, boff, none⟩) bn bcap, Value.int .i64 (b), Value.slice (some ⟨bb, boff, none⟩) bn bcap, Value.int .i64 (bn), Value.int .i64 (j), Value.pointer (some ⟨bb, boff + j, none⟩), Value.int .u16 u, Value.int .i64 (wr), Value.int .i64 (wr)] : List Value).getD idx undef
theorem taG (xb bb boff bn bcap j u b : Nat) (p q wr : Int) : guardsC taOps (taC xb bb boff bn bcap j u b p q wr) = true := by kernel_rfl
set_option maxRecDepth 100000 in
set_option maxHeartbeats 4000000 in
theorem region_ta {rid : Nat} {Q : Exit → Act → World → Prop} {a0 : Act} {w : World} {xb bb boff bn bcap j u b : Nat} {p q wr : Int} (hsz : a0.tmps.size = 278) (x3 : a0.eval (.tmp 3) = Value.slice (some ⟨bb, boff, none⟩) bn bcap) (x21 : a0.eval (.tmp 21) = Value.int .i64 (b)) (x22 : a0.eval (.tmp 22) = Value.pointer (some ⟨xb, 0, none⟩))
    (F0 : ∀ W', Mod noB w W' → W'.cell? ⟨xb, 2, none⟩ = some (.int .i64 p)) (F1 : ∀ W', Mod noB w W' → W'.cell? ⟨xb, 3, none⟩ = some (.int .i64 q)) (FR : ∀ W', Mod noB w W' → W'.cell? ⟨bb, boff + j, none⟩ = some (.int .u16 u)) (HC : ∀ W, Calls Tryd.prog 32 #[spV (p, q), .int .u16 u] W fun e w' => e = .returned (.int .i64 wr) ∧ Mod noB W w') (hne : ¬ bn = 0) (hj : j < bn) (hj9 : j ≤ 100) (hrm : Int.tmod (b : Int) (bn : Int) = (j : Int)) (hb : b ≤ 10)
    (hend : ∀ w', Mod noB w w' → Q .normal (taDs.foldl (fun a x => a.put (some x.2) (taC xb bb boff bn bcap j u b p q wr x.1)) a0) w') : (Code.region rid taOps.toArray true).wp Tryd.prog Q a0 w := by
  refine region_known taB taDs hsz taOk (taC xb bb boff bn bcap j u b p q wr) (taG xb bb boff bn bcap j u b p q wr) ?_ hend
  intro i o ρ w' hi ho hM kn far
  have hlt : i < 11 := hi
  rcases (by omega : i = 0 ∨ i = 1 ∨ i = 2 ∨ i = 3 ∨ i = 4 ∨ i = 5 ∨ i = 6 ∨ i = 7 ∨ i = 8 ∨ i = 9 ∨ i = 10) with rfl | rfl | rfl | rfl | rfl | rfl | rfl | rfl | rfl | rfl | rfl
  all_goals (obtain rfl := Option.some.inj ho)
  · have e22 : ρ.eval (.tmp 22) = Value.pointer (some ⟨xb, 0, none⟩) := (far 22 (by decide +kernel)).trans x22
    refine step_run rfl (Value.pointer (some ⟨xb, 2, none⟩)) _ ?_ ⟨rfl, Mod.refl _ _⟩
    simp only [execOp, e22]
    go_simp
  · have e161 : ρ.eval (.tmp 161) = Value.pointer (some ⟨xb, 2, none⟩) := kn 0 161 (by decide +kernel) (by decide +kernel)
    have c0 := F0 _ hM
    have c1 := F1 _ hM
    refine step_run rfl (Value.agg #[.int .i64 p, .int .i64 q]) _ ?_ ⟨rfl, Mod.refl _ _⟩
    simp only [execOp, e161]
    go_simp
  · have e3 : ρ.eval (.tmp 3) = Value.slice (some ⟨bb, boff, none⟩) bn bcap := (far 3 (by decide +kernel)).trans x3
    exact step_run rfl _ _ (run_move rfl e3) ⟨rfl, Mod.refl _ _⟩
  · have e21 : ρ.eval (.tmp 21) = Value.int .i64 (b) := (far 21 (by decide +kernel)).trans x21
    exact step_run rfl _ _ (run_move rfl e21) ⟨rfl, Mod.refl _ _⟩
  · have e3 : ρ.eval (.tmp 3) = Value.slice (some ⟨bb, boff, none⟩) bn bcap := (far 3 (by decide +kernel)).trans x3
    exact step_run rfl _ _ (run_move rfl e3) ⟨rfl, Mod.refl _ _⟩
  · have e165 : ρ.eval (.tmp 165) = Value.slice (some ⟨bb, boff, none⟩) bn bcap := kn 4 165 (by decide +kernel) (by decide +kernel)
    have q : ρ.tmps[165]?.getD undef = Value.slice (some ⟨bb, boff, none⟩) bn bcap := by simpa [Act.eval] using e165
    refine step_run rfl (Value.int .i64 (bn)) _ ?_ ⟨rfl, Mod.refl _ _⟩
    simp only [execOp]
    go_simp
  · have e164 : ρ.eval (.tmp 164) = Value.int .i64 (b) := kn 3 164 (by decide +kernel) (by decide +kernel)
    have e166 : ρ.eval (.tmp 166) = Value.int .i64 (bn) := kn 5 166 (by decide +kernel) (by decide +kernel)
    exact step_run rfl _ _ (run_remN rfl e164 e166 hne hrm (by omega)) ⟨rfl, Mod.refl _ _⟩
  · have e163 : ρ.eval (.tmp 163) = Value.slice (some ⟨bb, boff, none⟩) bn bcap := kn 2 163 (by decide +kernel) (by decide +kernel)
    have e167 : ρ.eval (.tmp 167) = Value.int .i64 (j) := kn 6 167 (by decide +kernel) (by decide +kernel)
    exact step_run rfl _ _ (run_idx46 rfl e163 e167 hj) ⟨rfl, Mod.refl _ _⟩
  · have e168 : ρ.eval (.tmp 168) = Value.pointer (some ⟨bb, boff + j, none⟩) := kn 7 168 (by decide +kernel) (by decide +kernel)
    have c := FR _ hM
    refine step_run rfl (Value.int .u16 u) _ ?_ ⟨rfl, Mod.refl _ _⟩
    simp only [execOp, e168]
    go_simp
  · have e162 : ρ.eval (.tmp 162) = Value.agg #[.int .i64 p, .int .i64 q] := kn 1 162 (by decide +kernel) (by decide +kernel)
    have e169 : ρ.eval (.tmp 169) = Value.int .u16 u := kn 8 169 (by decide +kernel) (by decide +kernel)
    refine step_call rfl 32 _ _ rfl enter32 ?_
    simp only [List.map_toArray, List.map_cons, List.map_nil, e162, e169]
    refine (HC w').mono ?_
    rintro e w2 ⟨h1, h2⟩
    exact ⟨_, h1, rfl, h2⟩
  · have e170 : ρ.eval (.tmp 170) = Value.int .i64 (wr) := kn 9 170 (by decide +kernel) (by decide +kernel)
    exact step_run rfl _ _ (run_assign rfl e170) ⟨rfl, Mod.refl _ _⟩

@[reducible] def tb0 : Oper := { dst := some 171, op := Op.fieldAddr 53 (Operand.tmp 22) 0, type := 0, pos := "outright.go:42", after := #[], guard := none }
@[reducible] def tb1 : Oper := { dst := some 172, op := Op.load 28 (Operand.tmp 171), type := 28, pos := "outright.go:42", after := #[{ on := 0, ground := Ground.data }], guard := none }
@[reducible] def tb2 : Oper := { dst := some 173, op := Op.move (Operand.tmp 3), type := 46, pos := "outright.go:42", after := #[], guard := none }
@[reducible] def tb3 : Oper := { dst := some 174, op := Op.move (Operand.tmp 21), type := 3, pos := "outright.go:42", after := #[], guard := none }
@[reducible] def tb4 : Oper := { dst := some 175, op := Op.binOp BinOp.add 3 (Operand.tmp 174) (Operand.const (Value.int IntKind.i64 1)) 3, type := 3, pos := "outright.go:42", after := #[{ on := 3, ground := Ground.data }], guard := none }
@[reducible] def tb5 : Oper := { dst := some 176, op := Op.move (Operand.tmp 3), type := 46, pos := "outright.go:42", after := #[], guard := none }
@[reducible] def tb6 : Oper := { dst := some 177, op := Op.call { callee := Callee.builtin Builtin.len, args := #[Operand.tmp 176], argTypes := #[46] }, type := 3, pos := "outright.go:42", after := #[{ on := 5, ground := Ground.data }], guard := none }
@[reducible] def tb7 : Oper := { dst := some 178, op := Op.binOp BinOp.rem 3 (Operand.tmp 175) (Operand.tmp 177) 3, type := 3, pos := "outright.go:42", after := #[{ on := 4, ground := Ground.data }, { on := 6, ground := Ground.data }], guard := none }
@[reducible] def tb8 : Oper := { dst := some 179, op := Op.indexAddr 46 (Operand.tmp 173) (Operand.tmp 178), type := 0, pos := "outright.go:42", after := #[{ on := 2, ground := Ground.data }, { on := 7, ground := Ground.data }], guard := none }
@[reducible] def tb9 : Oper := { dst := some 180, op := Op.load 55 (Operand.tmp 179), type := 55, pos := "outright.go:42", after := #[{ on := 8, ground := Ground.data }], guard := none }
@[reducible] def tb10 : Oper := { dst := some 181, op := Op.call { callee := Callee.value (Operand.func 32), args := #[Operand.tmp 172, Operand.tmp 180], argTypes := #[28, 55] }, type := 3, pos := "outright.go:42", after := #[{ on := 1, ground := Ground.data }, { on := 9, ground := Ground.data }], guard := none }
@[reducible] def tb11 : Oper := { dst := some 24, op := Op.assign (Operand.tmp 181), type := 3, pos := "outright.go:42", after := #[{ on := 10, ground := Ground.data }, { on := 10, ground := Ground.chain }, { on := 0, ground := Ground.phase }, { on := 1, ground := Ground.phase }, { on := 2, ground := Ground.phase }, { on := 3, ground := Ground.phase }, { on := 4, ground := Ground.phase }, { on := 5, ground := Ground.phase }, { on := 6, ground := Ground.phase }, { on := 7, ground := Ground.phase }, { on := 8, ground := Ground.phase }, { on := 9, ground := Ground.phase }, { on := 10, ground := Ground.phase }], guard := none }
@[reducible] def tb12 : Oper := { dst := some 25, op := Op.assign (Operand.const (Value.int IntKind.i64 0)), type := 3, pos := "outright.go:42", after := #[{ on := 11, ground := Ground.chain }, { on := 0, ground := Ground.phase }, { on := 1, ground := Ground.phase }, { on := 2, ground := Ground.phase }, { on := 3, ground := Ground.phase }, { on := 4, ground := Ground.phase }, { on := 5, ground := Ground.phase }, { on := 6, ground := Ground.phase }, { on := 7, ground := Ground.phase }, { on := 8, ground := Ground.phase }, { on := 9, ground := Ground.phase }, { on := 10, ground := Ground.phase }, { on := 11, ground := Ground.phase }], guard := none }
@[reducible] def tbOps : List Oper := [tb0, tb1, tb2, tb3, tb4, tb5, tb6, tb7, tb8, tb9, tb10, tb11, tb12]
@[reducible] def tbDs : List (Nat × Nat) := [(0, 171), (1, 172), (2, 173), (3, 174), (4, 175), (5, 176), (6, 177), (7, 178), (8, 179), (9, 180), (10, 181), (11, 24), (12, 25)]
theorem tbB : lowB tbOps = true := by kernel_rfl
theorem tbOk : slotsB tbOps tbDs 278 = true := by decide +kernel
@[reducible] def tbC (xb bb boff bn bcap j u b : Nat) (p q wr : Int) : Nat → Value := fun idx => ([Value.pointer (some ⟨xb, 0, none⟩), Value.agg #[.int .i64 p, .int .i64 q], Value.slice (some ⟨bb, boff, none⟩) bn bcap, Value.int .i64 (b), Value.int .i64 ((b : Int) + 1), Value.slice (some ⟨bb, boff, none⟩) bn bcap, Value.int .i64 (bn), Value.int .i64 (j), Value.pointer (some ⟨bb, boff + j, none⟩), Value.int .u16 u, Value.int .i64 (wr), Value.int .i64 (wr), Value.int .i64 (0)] : List Value).getD idx undef
theorem tbG (xb bb boff bn bcap j u b : Nat) (p q wr : Int) : guardsC tbOps (tbC xb bb boff bn bcap j u b p q wr) = true := by kernel_rfl
set_option maxRecDepth 100000 in
set_option maxHeartbeats 4000000 in
theorem region_tb {rid : Nat} {Q : Exit → Act → World → Prop} {a0 : Act} {w : World} {xb bb boff bn bcap j u b : Nat} {p q wr : Int} (hsz : a0.tmps.size = 278) (x3 : a0.eval (.tmp 3) = Value.slice (some ⟨bb, boff, none⟩) bn bcap) (x21 : a0.eval (.tmp 21) = Value.int .i64 (b)) (x22 : a0.eval (.tmp 22) = Value.pointer (some ⟨xb, 0, none⟩))
    (F0 : ∀ W', Mod noB w W' → W'.cell? ⟨xb, 0, none⟩ = some (.int .i64 p)) (F1 : ∀ W', Mod noB w W' → W'.cell? ⟨xb, 1, none⟩ = some (.int .i64 q)) (FR : ∀ W', Mod noB w W' → W'.cell? ⟨bb, boff + j, none⟩ = some (.int .u16 u)) (HC : ∀ W, Calls Tryd.prog 32 #[spV (p, q), .int .u16 u] W fun e w' => e = .returned (.int .i64 wr) ∧ Mod noB W w') (hne : ¬ bn = 0) (hj : j < bn) (hj9 : j ≤ 100) (hrm : Int.tmod ((b : Int) + 1) (bn : Int) = (j : Int)) (hb : b ≤ 10)
    (hend : ∀ w', Mod noB w w' → Q .normal (tbDs.foldl (fun a x => a.put (some x.2) (tbC xb bb boff bn bcap j u b p q wr x.1)) a0) w') : (Code.region rid tbOps.toArray true).wp Tryd.prog Q a0 w := by
  refine region_known tbB tbDs hsz tbOk (tbC xb bb boff bn bcap j u b p q wr) (tbG xb bb boff bn bcap j u b p q wr) ?_ hend
  intro i o ρ w' hi ho hM kn far
  have hlt : i < 13 := hi
  rcases (by omega : i = 0 ∨ i = 1 ∨ i = 2 ∨ i = 3 ∨ i = 4 ∨ i = 5 ∨ i = 6 ∨ i = 7 ∨ i = 8 ∨ i = 9 ∨ i = 10 ∨ i = 11 ∨ i = 12) with rfl | rfl | rfl | rfl | rfl | rfl | rfl | rfl | rfl | rfl | rfl | rfl | rfl
  all_goals (obtain rfl := Option.some.inj ho)
  · have e22 : ρ.eval (.tmp 22) = Value.pointer (some ⟨xb, 0, none⟩) := (far 22 (by decide +kernel)).trans x22
    refine step_run rfl (Value.pointer (some ⟨xb, 0, none⟩)) _ ?_ ⟨rfl, Mod.refl _ _⟩
    simp only [execOp, e22]
    go_simp
  · have e171 : ρ.eval (.tmp 171) = Value.pointer (some ⟨xb, 0, none⟩) := kn 0 171 (by decide +kernel) (by decide +kernel)
    have c0 := F0 _ hM
    have c1 := F1 _ hM
    refine step_run rfl (Value.agg #[.int .i64 p, .int .i64 q]) _ ?_ ⟨rfl, Mod.refl _ _⟩
    simp only [execOp, e171]
    go_simp
  · have e3 : ρ.eval (.tmp 3) = Value.slice (some ⟨bb, boff, none⟩) bn bcap := (far 3 (by decide +kernel)).trans x3
    exact step_run rfl _ _ (run_move rfl e3) ⟨rfl, Mod.refl _ _⟩
  · have e21 : ρ.eval (.tmp 21) = Value.int .i64 (b) := (far 21 (by decide +kernel)).trans x21
    exact step_run rfl _ _ (run_move rfl e21) ⟨rfl, Mod.refl _ _⟩
  · have e174 : ρ.eval (.tmp 174) = Value.int .i64 (b) := kn 3 174 (by decide +kernel) (by decide +kernel)
    exact step_run rfl _ _ (run_add rfl e174 rfl rfl (by omega) (by omega)) ⟨rfl, Mod.refl _ _⟩
  · have e3 : ρ.eval (.tmp 3) = Value.slice (some ⟨bb, boff, none⟩) bn bcap := (far 3 (by decide +kernel)).trans x3
    exact step_run rfl _ _ (run_move rfl e3) ⟨rfl, Mod.refl _ _⟩
  · have e176 : ρ.eval (.tmp 176) = Value.slice (some ⟨bb, boff, none⟩) bn bcap := kn 5 176 (by decide +kernel) (by decide +kernel)
    have q : ρ.tmps[176]?.getD undef = Value.slice (some ⟨bb, boff, none⟩) bn bcap := by simpa [Act.eval] using e176
    refine step_run rfl (Value.int .i64 (bn)) _ ?_ ⟨rfl, Mod.refl _ _⟩
    simp only [execOp]
    go_simp
  · have e175 : ρ.eval (.tmp 175) = Value.int .i64 ((b : Int) + 1) := kn 4 175 (by decide +kernel) (by decide +kernel)
    have e177 : ρ.eval (.tmp 177) = Value.int .i64 (bn) := kn 6 177 (by decide +kernel) (by decide +kernel)
    exact step_run rfl _ _ (run_remN rfl e175 e177 hne hrm (by omega)) ⟨rfl, Mod.refl _ _⟩
  · have e173 : ρ.eval (.tmp 173) = Value.slice (some ⟨bb, boff, none⟩) bn bcap := kn 2 173 (by decide +kernel) (by decide +kernel)
    have e178 : ρ.eval (.tmp 178) = Value.int .i64 (j) := kn 7 178 (by decide +kernel) (by decide +kernel)
    exact step_run rfl _ _ (run_idx46 rfl e173 e178 hj) ⟨rfl, Mod.refl _ _⟩
  · have e179 : ρ.eval (.tmp 179) = Value.pointer (some ⟨bb, boff + j, none⟩) := kn 8 179 (by decide +kernel) (by decide +kernel)
    have c := FR _ hM
    refine step_run rfl (Value.int .u16 u) _ ?_ ⟨rfl, Mod.refl _ _⟩
    simp only [execOp, e179]
    go_simp
  · have e172 : ρ.eval (.tmp 172) = Value.agg #[.int .i64 p, .int .i64 q] := kn 1 172 (by decide +kernel) (by decide +kernel)
    have e180 : ρ.eval (.tmp 180) = Value.int .u16 u := kn 9 180 (by decide +kernel) (by decide +kernel)
    refine step_call rfl 32 _ _ rfl enter32 ?_
    simp only [List.map_toArray, List.map_cons, List.map_nil, e172, e180]
    refine (HC w').mono ?_
    rintro e w2 ⟨h1, h2⟩
    exact ⟨_, h1, rfl, h2⟩
  · have e181 : ρ.eval (.tmp 181) = Value.int .i64 (wr) := kn 10 181 (by decide +kernel) (by decide +kernel)
    exact step_run rfl _ _ (run_assign rfl e181) ⟨rfl, Mod.refl _ _⟩
  · exact step_run rfl _ _ (run_assign rfl rfl) ⟨rfl, Mod.refl _ _⟩

@[reducible] def tc0 : Oper := { dst := some 199, op := Op.fieldAddr 53 (Operand.tmp 22) 0, type := 0, pos := "outright.go:45", after := #[], guard := none }
@[reducible] def tc1 : Oper := { dst := some 200, op := Op.load 28 (Operand.tmp 199), type := 28, pos := "outright.go:45", after := #[{ on := 0, ground := Ground.data }], guard := none }
@[reducible] def tc2 : Oper := { dst := some 201, op := Op.move (Operand.tmp 3), type := 46, pos := "outright.go:45", after := #[], guard := none }
@[reducible] def tc3 : Oper := { dst := some 202, op := Op.move (Operand.tmp 21), type := 3, pos := "outright.go:45", after := #[], guard := none }
@[reducible] def tc4 : Oper := { dst := some 203, op := Op.move (Operand.tmp 26), type := 3, pos := "outright.go:45", after := #[], guard := none }
@[reducible] def tc5 : Oper := { dst := some 204, op := Op.binOp BinOp.add 3 (Operand.tmp 202) (Operand.tmp 203) 3, type := 3, pos := "outright.go:45", after := #[{ on := 3, ground := Ground.data }, { on := 4, ground := Ground.data }], guard := none }
@[reducible] def tc6 : Oper := { dst := some 205, op := Op.binOp BinOp.add 3 (Operand.tmp 204) (Operand.const (Value.int IntKind.i64 2)) 3, type := 3, pos := "outright.go:45", after := #[{ on := 5, ground := Ground.data }], guard := none }
@[reducible] def tc7 : Oper := { dst := some 206, op := Op.move (Operand.tmp 3), type := 46, pos := "outright.go:45", after := #[], guard := none }
@[reducible] def tc8 : Oper := { dst := some 207, op := Op.call { callee := Callee.builtin Builtin.len, args := #[Operand.tmp 206], argTypes := #[46] }, type := 3, pos := "outright.go:45", after := #[{ on := 7, ground := Ground.data }], guard := none }
@[reducible] def tc9 : Oper := { dst := some 208, op := Op.binOp BinOp.rem 3 (Operand.tmp 205) (Operand.tmp 207) 3, type := 3, pos := "outright.go:45", after := #[{ on := 6, ground := Ground.data }, { on := 8, ground := Ground.data }], guard := none }
@[reducible] def tc10 : Oper := { dst := some 209, op := Op.indexAddr 46 (Operand.tmp 201) (Operand.tmp 208), type := 0, pos := "outright.go:45", after := #[{ on := 2, ground := Ground.data }, { on := 9, ground := Ground.data }], guard := none }
@[reducible] def tc11 : Oper := { dst := some 210, op := Op.load 55 (Operand.tmp 209), type := 55, pos := "outright.go:45", after := #[{ on := 10, ground := Ground.data }], guard := none }
@[reducible] def tc12 : Oper := { dst := some 211, op := Op.call { callee := Callee.value (Operand.func 32), args := #[Operand.tmp 200, Operand.tmp 210], argTypes := #[28, 55] }, type := 3, pos := "outright.go:45", after := #[{ on := 1, ground := Ground.data }, { on := 11, ground := Ground.data }], guard := none }
@[reducible] def tc13 : Oper := { dst := some 24, op := Op.assign (Operand.tmp 211), type := 3, pos := "outright.go:45", after := #[{ on := 12, ground := Ground.data }, { on := 12, ground := Ground.chain }, { on := 0, ground := Ground.phase }, { on := 1, ground := Ground.phase }, { on := 2, ground := Ground.phase }, { on := 3, ground := Ground.phase }, { on := 4, ground := Ground.phase }, { on := 5, ground := Ground.phase }, { on := 6, ground := Ground.phase }, { on := 7, ground := Ground.phase }, { on := 8, ground := Ground.phase }, { on := 9, ground := Ground.phase }, { on := 10, ground := Ground.phase }, { on := 11, ground := Ground.phase }, { on := 12, ground := Ground.phase }], guard := none }
@[reducible] def tc14 : Oper := { dst := some 25, op := Op.assign (Operand.const (Value.int IntKind.i64 0)), type := 3, pos := "outright.go:45", after := #[{ on := 13, ground := Ground.chain }, { on := 0, ground := Ground.phase }, { on := 1, ground := Ground.phase }, { on := 2, ground := Ground.phase }, { on := 3, ground := Ground.phase }, { on := 4, ground := Ground.phase }, { on := 5, ground := Ground.phase }, { on := 6, ground := Ground.phase }, { on := 7, ground := Ground.phase }, { on := 8, ground := Ground.phase }, { on := 9, ground := Ground.phase }, { on := 10, ground := Ground.phase }, { on := 11, ground := Ground.phase }, { on := 12, ground := Ground.phase }, { on := 13, ground := Ground.phase }], guard := none }
@[reducible] def tcOps : List Oper := [tc0, tc1, tc2, tc3, tc4, tc5, tc6, tc7, tc8, tc9, tc10, tc11, tc12, tc13, tc14]
@[reducible] def tcDs : List (Nat × Nat) := [(0, 199), (1, 200), (2, 201), (3, 202), (4, 203), (5, 204), (6, 205), (7, 206), (8, 207), (9, 208), (10, 209), (11, 210), (12, 211), (13, 24), (14, 25)]
theorem tcB : lowB tcOps = true := by kernel_rfl
theorem tcOk : slotsB tcOps tcDs 278 = true := by decide +kernel
@[reducible] def tcC (xb bb boff bn bcap j u b s : Nat) (p q wr : Int) : Nat → Value := fun idx => ([Value.pointer (some ⟨xb, 0, none⟩), Value.agg #[.int .i64 p, .int .i64 q], Value.slice (some ⟨bb, boff, none⟩) bn bcap, Value.int .i64 (b), Value.int .i64 (s), Value.int .i64 ((b : Int) + s), Value.int .i64 ((b : Int) + s + 2), Value.slice (some ⟨bb, boff, none⟩) bn bcap, Value.int .i64 (bn), Value.int .i64 (j), Value.pointer (some ⟨bb, boff + j, none⟩), Value.int .u16 u, Value.int .i64 (wr), Value.int .i64 (wr), Value.int .i64 (0)] : List Value).getD idx undef
theorem tcG (xb bb boff bn bcap j u b s : Nat) (p q wr : Int) : guardsC tcOps (tcC xb bb boff bn bcap j u b s p q wr) = true := by kernel_rfl
set_option maxRecDepth 100000 in
set_option maxHeartbeats 4000000 in
theorem region_tc {rid : Nat} {Q : Exit → Act → World → Prop} {a0 : Act} {w : World} {xb bb boff bn bcap j u b s : Nat} {p q wr : Int} (hsz : a0.tmps.size = 278) (x3 : a0.eval (.tmp 3) = Value.slice (some ⟨bb, boff, none⟩) bn bcap) (x21 : a0.eval (.tmp 21) = Value.int .i64 (b)) (x22 : a0.eval (.tmp 22) = Value.pointer (some ⟨xb, 0, none⟩)) (x26 : a0.eval (.tmp 26) = Value.int .i64 (s))
    (F0 : ∀ W', Mod noB w W' → W'.cell? ⟨xb, 0, none⟩ = some (.int .i64 p)) (F1 : ∀ W', Mod noB w W' → W'.cell? ⟨xb, 1, none⟩ = some (.int .i64 q)) (FR : ∀ W', Mod noB w W' → W'.cell? ⟨bb, boff + j, none⟩ = some (.int .u16 u)) (HC : ∀ W, Calls Tryd.prog 32 #[spV (p, q), .int .u16 u] W fun e w' => e = .returned (.int .i64 wr) ∧ Mod noB W w') (hne : ¬ bn = 0) (hj : j < bn) (hj9 : j ≤ 100) (hrm : Int.tmod ((b : Int) + (s : Int) + 2) (bn : Int) = (j : Int)) (hb : b ≤ 10) (hs : s ≤ 10)
    (hend : ∀ w', Mod noB w w' → Q .normal (tcDs.foldl (fun a x => a.put (some x.2) (tcC xb bb boff bn bcap j u b s p q wr x.1)) a0) w') : (Code.region rid tcOps.toArray true).wp Tryd.prog Q a0 w := by
  refine region_known tcB tcDs hsz tcOk (tcC xb bb boff bn bcap j u b s p q wr) (tcG xb bb boff bn bcap j u b s p q wr) ?_ hend
  intro i o ρ w' hi ho hM kn far
  have hlt : i < 15 := hi
  rcases (by omega : i = 0 ∨ i = 1 ∨ i = 2 ∨ i = 3 ∨ i = 4 ∨ i = 5 ∨ i = 6 ∨ i = 7 ∨ i = 8 ∨ i = 9 ∨ i = 10 ∨ i = 11 ∨ i = 12 ∨ i = 13 ∨ i = 14) with rfl | rfl | rfl | rfl | rfl | rfl | rfl | rfl | rfl | rfl | rfl | rfl | rfl | rfl | rfl
  all_goals (obtain rfl := Option.some.inj ho)
  · have e22 : ρ.eval (.tmp 22) = Value.pointer (some ⟨xb, 0, none⟩) := (far 22 (by decide +kernel)).trans x22
    refine step_run rfl (Value.pointer (some ⟨xb, 0, none⟩)) _ ?_ ⟨rfl, Mod.refl _ _⟩
    simp only [execOp, e22]
    go_simp
  · have e199 : ρ.eval (.tmp 199) = Value.pointer (some ⟨xb, 0, none⟩) := kn 0 199 (by decide +kernel) (by decide +kernel)
    have c0 := F0 _ hM
    have c1 := F1 _ hM
    refine step_run rfl (Value.agg #[.int .i64 p, .int .i64 q]) _ ?_ ⟨rfl, Mod.refl _ _⟩
    simp only [execOp, e199]
    go_simp
  · have e3 : ρ.eval (.tmp 3) = Value.slice (some ⟨bb, boff, none⟩) bn bcap := (far 3 (by decide +kernel)).trans x3
    exact step_run rfl _ _ (run_move rfl e3) ⟨rfl, Mod.refl _ _⟩
  · have e21 : ρ.eval (.tmp 21) = Value.int .i64 (b) := (far 21 (by decide +kernel)).trans x21
    exact step_run rfl _ _ (run_move rfl e21) ⟨rfl, Mod.refl _ _⟩
  · have e26 : ρ.eval (.tmp 26) = Value.int .i64 (s) := (far 26 (by decide +kernel)).trans x26
    exact step_run rfl _ _ (run_move rfl e26) ⟨rfl, Mod.refl _ _⟩
  · have e202 : ρ.eval (.tmp 202) = Value.int .i64 (b) := kn 3 202 (by decide +kernel) (by decide +kernel)
    have e203 : ρ.eval (.tmp 203) = Value.int .i64 (s) := kn 4 203 (by decide +kernel) (by decide +kernel)
    exact step_run rfl _ _ (run_add rfl e202 e203 rfl (by omega) (by omega)) ⟨rfl, Mod.refl _ _⟩
  · have e204 : ρ.eval (.tmp 204) = Value.int .i64 ((b : Int) + s) := kn 5 204 (by decide +kernel) (by decide +kernel)
    exact step_run rfl _ _ (run_add rfl e204 rfl rfl (by omega) (by omega)) ⟨rfl, Mod.refl _ _⟩
  · have e3 : ρ.eval (.tmp 3) = Value.slice (some ⟨bb, boff, none⟩) bn bcap := (far 3 (by decide +kernel)).trans x3
    exact step_run rfl _ _ (run_move rfl e3) ⟨rfl, Mod.refl _ _⟩
  · have e206 : ρ.eval (.tmp 206) = Value.slice (some ⟨bb, boff, none⟩) bn bcap := kn 7 206 (by decide +kernel) (by decide +kernel)
    have q : ρ.tmps[206]?.getD undef = Value.slice (some ⟨bb, boff, none⟩) bn bcap := by simpa [Act.eval] using e206
    refine step_run rfl (Value.int .i64 (bn)) _ ?_ ⟨rfl, Mod.refl _ _⟩
    simp only [execOp]
    go_simp
  · have e205 : ρ.eval (.tmp 205) = Value.int .i64 ((b : Int) + s + 2) := kn 6 205 (by decide +kernel) (by decide +kernel)
    have e207 : ρ.eval (.tmp 207) = Value.int .i64 (bn) := kn 8 207 (by decide +kernel) (by decide +kernel)
    exact step_run rfl _ _ (run_remN rfl e205 e207 hne hrm (by omega)) ⟨rfl, Mod.refl _ _⟩
  · have e201 : ρ.eval (.tmp 201) = Value.slice (some ⟨bb, boff, none⟩) bn bcap := kn 2 201 (by decide +kernel) (by decide +kernel)
    have e208 : ρ.eval (.tmp 208) = Value.int .i64 (j) := kn 9 208 (by decide +kernel) (by decide +kernel)
    exact step_run rfl _ _ (run_idx46 rfl e201 e208 hj) ⟨rfl, Mod.refl _ _⟩
  · have e209 : ρ.eval (.tmp 209) = Value.pointer (some ⟨bb, boff + j, none⟩) := kn 10 209 (by decide +kernel) (by decide +kernel)
    have c := FR _ hM
    refine step_run rfl (Value.int .u16 u) _ ?_ ⟨rfl, Mod.refl _ _⟩
    simp only [execOp, e209]
    go_simp
  · have e200 : ρ.eval (.tmp 200) = Value.agg #[.int .i64 p, .int .i64 q] := kn 1 200 (by decide +kernel) (by decide +kernel)
    have e210 : ρ.eval (.tmp 210) = Value.int .u16 u := kn 11 210 (by decide +kernel) (by decide +kernel)
    refine step_call rfl 32 _ _ rfl enter32 ?_
    simp only [List.map_toArray, List.map_cons, List.map_nil, e200, e210]
    refine (HC w').mono ?_
    rintro e w2 ⟨h1, h2⟩
    exact ⟨_, h1, rfl, h2⟩
  · have e211 : ρ.eval (.tmp 211) = Value.int .i64 (wr) := kn 12 211 (by decide +kernel) (by decide +kernel)
    exact step_run rfl _ _ (run_assign rfl e211) ⟨rfl, Mod.refl _ _⟩
  · exact step_run rfl _ _ (run_assign rfl rfl) ⟨rfl, Mod.refl _ _⟩

@[reducible] def td0 : Oper := { dst := some 212, op := Op.move (Operand.tmp 25), type := 3, pos := "outright.go:47", after := #[], guard := none }
@[reducible] def td1 : Oper := { dst := some 213, op := Op.move (Operand.tmp 3), type := 46, pos := "outright.go:47", after := #[], guard := none }
@[reducible] def td2 : Oper := { dst := some 214, op := Op.move (Operand.tmp 21), type := 3, pos := "outright.go:47", after := #[], guard := none }
@[reducible] def td3 : Oper := { dst := some 215, op := Op.binOp BinOp.mul 3 (Operand.const (Value.int IntKind.i64 3)) (Operand.tmp 214) 3, type := 3, pos := "outright.go:47", after := #[{ on := 2, ground := Ground.data }], guard := none }
@[reducible] def td4 : Oper := { dst := some 216, op := Op.move (Operand.tmp 26), type := 3, pos := "outright.go:47", after := #[], guard := none }
@[reducible] def td5 : Oper := { dst := some 217, op := Op.binOp BinOp.add 3 (Operand.tmp 215) (Operand.tmp 216) 3, type := 3, pos := "outright.go:47", after := #[{ on := 3, ground := Ground.data }, { on := 4, ground := Ground.data }], guard := none }
@[reducible] def td6 : Oper := { dst := some 218, op := Op.move (Operand.tmp 3), type := 46, pos := "outright.go:47", after := #[], guard := none }
@[reducible] def td7 : Oper := { dst := some 219, op := Op.call { callee := Callee.builtin Builtin.len, args := #[Operand.tmp 218], argTypes := #[46] }, type := 3, pos := "outright.go:47", after := #[{ on := 6, ground := Ground.data }], guard := none }
@[reducible] def td8 : Oper := { dst := some 220, op := Op.binOp BinOp.rem 3 (Operand.tmp 217) (Operand.tmp 219) 3, type := 3, pos := "outright.go:47", after := #[{ on := 5, ground := Ground.data }, { on := 7, ground := Ground.data }], guard := none }
@[reducible] def td9 : Oper := { dst := some 221, op := Op.indexAddr 46 (Operand.tmp 213) (Operand.tmp 220), type := 0, pos := "outright.go:47", after := #[{ on := 1, ground := Ground.data }, { on := 8, ground := Ground.data }], guard := none }
@[reducible] def td10 : Oper := { dst := some 222, op := Op.load 55 (Operand.tmp 221), type := 55, pos := "outright.go:47", after := #[{ on := 9, ground := Ground.data }], guard := none }
@[reducible] def td11 : Oper := { dst := some 223, op := Op.convert 55 3 (Operand.tmp 222), type := 3, pos := "outright.go:47", after := #[{ on := 10, ground := Ground.data }], guard := none }
@[reducible] def td12 : Oper := { dst := some 224, op := Op.move (Operand.tmp 1), type := 33, pos := "outright.go:47", after := #[], guard := none }
@[reducible] def td13 : Oper := { dst := some 225, op := Op.move (Operand.tmp 26), type := 3, pos := "outright.go:47", after := #[], guard := none }
@[reducible] def td14 : Oper := { dst := some 226, op := Op.indexAddr 33 (Operand.tmp 224) (Operand.tmp 225), type := 0, pos := "outright.go:47", after := #[{ on := 12, ground := Ground.data }, { on := 13, ground := Ground.data }], guard := none }
@[reducible] def td15 : Oper := { dst := some 227, op := Op.fieldAddr 58 (Operand.tmp 226) 0, type := 0, pos := "outright.go:47", after := #[{ on := 14, ground := Ground.data }], guard := none }
@[reducible] def td16 : Oper := { dst := some 228, op := Op.load 3 (Operand.tmp 227), type := 3, pos := "outright.go:47", after := #[{ on := 15, ground := Ground.data }], guard := none }
@[reducible] def td17 : Oper := { dst := some 229, op := Op.binOp BinOp.add 3 (Operand.tmp 228) (Operand.const (Value.int IntKind.i64 1)) 3, type := 3, pos := "outright.go:47", after := #[{ on := 16, ground := Ground.data }], guard := none }
@[reducible] def td18 : Oper := { dst := some 230, op := Op.binOp BinOp.rem 3 (Operand.tmp 223) (Operand.tmp 229) 3, type := 3, pos := "outright.go:47", after := #[{ on := 11, ground := Ground.data }, { on := 17, ground := Ground.data }], guard := none }
@[reducible] def td19 : Oper := { dst := some 231, op := Op.binOp BinOp.add 3 (Operand.tmp 212) (Operand.tmp 230) 3, type := 3, pos := "outright.go:47", after := #[{ on := 0, ground := Ground.data }, { on := 18, ground := Ground.data }], guard := none }
@[reducible] def td20 : Oper := { dst := some 27, op := Op.assign (Operand.tmp 231), type := 3, pos := "outright.go:47", after := #[{ on := 19, ground := Ground.data }, { on := 0, ground := Ground.phase }, { on := 1, ground := Ground.phase }, { on := 2, ground := Ground.phase }, { on := 3, ground := Ground.phase }, { on := 4, ground := Ground.phase }, { on := 5, ground := Ground.phase }, { on := 6, ground := Ground.phase }, { on := 7, ground := Ground.phase }, { on := 8, ground := Ground.phase }, { on := 9, ground := Ground.phase }, { on := 10, ground := Ground.phase }, { on := 11, ground := Ground.phase }, { on := 12, ground := Ground.phase }, { on := 13, ground := Ground.phase }, { on := 14, ground := Ground.phase }, { on := 15, ground := Ground.phase }, { on := 16, ground := Ground.phase }, { on := 17, ground := Ground.phase }, { on := 18, ground := Ground.phase }, { on := 19, ground := Ground.phase }], guard := none }
@[reducible] def tdOps : List Oper := [td0, td1, td2, td3, td4, td5, td6, td7, td8, td9, td10, td11, td12, td13, td14, td15, td16, td17, td18, td19, td20]
@[reducible] def tdDs : List (Nat × Nat) := [(0, 212), (1, 213), (2, 214), (3, 215), (4, 216), (5, 217), (6, 218), (7, 219), (8, 220), (9, 221), (10, 222), (11, 223), (12, 224), (13, 225), (14, 226), (15, 227), (16, 228), (17, 229), (18, 230), (19, 231), (20, 27)]
theorem tdB : lowB tdOps = true := by kernel_rfl
theorem tdOk : slotsB tdOps tdDs 278 = true := by decide +kernel
@[reducible] def tdC (bb boff bn bcap sb soff ln lcap j u b s m t4 : Nat) (rn st : Int) : Nat → Value := fun idx => ([Value.int .i64 (rn), Value.slice (some ⟨bb, boff, none⟩) bn bcap, Value.int .i64 (b), Value.int .i64 (3 * (b : Int)), Value.int .i64 (s), Value.int .i64 (3 * (b : Int) + s), Value.slice (some ⟨bb, boff, none⟩) bn bcap, Value.int .i64 (bn), Value.int .i64 (j), Value.pointer (some ⟨bb, boff + j, none⟩), Value.int .u16 u, Value.int .i64 (u), Value.slice (some ⟨sb, soff, none⟩) ln lcap, Value.int .i64 (s), Value.pointer (some ⟨sb, soff + s * 2, none⟩), Value.pointer (some ⟨sb, soff + s * 2, none⟩), Value.int .i64 (st), Value.int .i64 (m), Value.int .i64 (t4), Value.int .i64 (rn + (t4 : Int)), Value.int .i64 (rn + (t4 : Int))] : List Value).getD idx undef
theorem tdG (bb boff bn bcap sb soff ln lcap j u b s m t4 : Nat) (rn st : Int) : guardsC tdOps (tdC bb boff bn bcap sb soff ln lcap j u b s m t4 rn st) = true := by kernel_rfl
set_option maxRecDepth 100000 in
set_option maxHeartbeats 4000000 in
theorem region_td {rid : Nat} {Q : Exit → Act → World → Prop} {a0 : Act} {w : World} {bb boff bn bcap sb soff ln lcap j u b s m t4 : Nat} {rn st : Int} (hsz : a0.tmps.size = 278) (x1 : a0.eval (.tmp 1) = Value.slice (some ⟨sb, soff, none⟩) ln lcap) (x3 : a0.eval (.tmp 3) = Value.slice (some ⟨bb, boff, none⟩) bn bcap) (x21 : a0.eval (.tmp 21) = Value.int .i64 (b)) (x25 : a0.eval (.tmp 25) = Value.int .i64 (rn)) (x26 : a0.eval (.tmp 26) = Value.int .i64 (s))
    (FR : ∀ W', Mod noB w W' → W'.cell? ⟨bb, boff + j, none⟩ = some (.int .u16 u)) (FS : ∀ W', Mod noB w W' → W'.cell? ⟨sb, soff + s * 2, none⟩ = some (.int .i64 st)) (hne : ¬ bn = 0) (hj : j < bn) (hj9 : j ≤ 100) (hrm : Int.tmod (3 * (b : Int) + (s : Int)) (bn : Int) = (j : Int)) (hb : b ≤ 10) (hs : s ≤ 10) (hsl : s < ln) (hm : st + 1 = (m : Int)) (hm0 : ¬ m = 0) (hr2 : Int.tmod (u : Int) (m : Int) = (t4 : Int)) (hu : u ≤ 65535) (hst : 0 ≤ st ∧ st ≤ 1000) (hrn : 0 ≤ rn ∧ rn ≤ 6000) (ht : t4 < m)
    (hend : ∀ w', Mod noB w w' → Q .normal (tdDs.foldl (fun a x => a.put (some x.2) (tdC bb boff bn bcap sb soff ln lcap j u b s m t4 rn st x.1)) a0) w') : (Code.region rid tdOps.toArray true).wp Tryd.prog Q a0 w := by
  refine region_known tdB tdDs hsz tdOk (tdC bb boff bn bcap sb soff ln lcap j u b s m t4 rn st) (tdG bb boff bn bcap sb soff ln lcap j u b s m t4 rn st) ?_ hend
  intro i o ρ w' hi ho hM kn far
  have hlt : i < 21 := hi
  rcases (by omega : i = 0 ∨ i = 1 ∨ i = 2 ∨ i = 3 ∨ i = 4 ∨ i = 5 ∨ i = 6 ∨ i = 7 ∨ i = 8 ∨ i = 9 ∨ i = 10 ∨ i = 11 ∨ i = 12 ∨ i = 13 ∨ i = 14 ∨ i = 15 ∨ i = 16 ∨ i = 17 ∨ i = 18 ∨ i = 19 ∨ i = 20) with rfl | rfl | rfl | rfl | rfl | rfl | rfl | rfl | rfl | rfl | rfl | rfl | rfl | rfl | rfl | rfl | rfl | rfl | rfl | rfl | rfl
  all_goals (obtain rfl := Option.some.inj ho)
  · have e25 : ρ.eval (.tmp 25) = Value.int .i64 (rn) := (far 25 (by decide +kernel)).trans x25
    exact step_run rfl _ _ (run_move rfl e25) ⟨rfl, Mod.refl _ _⟩
  · have e3 : ρ.eval (.tmp 3) = Value.slice (some ⟨bb, boff, none⟩) bn bcap := (far 3 (by decide +kernel)).trans x3
    exact step_run rfl _ _ (run_move rfl e3) ⟨rfl, Mod.refl _ _⟩
  · have e21 : ρ.eval (.tmp 21) = Value.int .i64 (b) := (far 21 (by decide +kernel)).trans x21
    exact step_run rfl _ _ (run_move rfl e21) ⟨rfl, Mod.refl _ _⟩
  · have e214 : ρ.eval (.tmp 214) = Value.int .i64 (b) := kn 2 214 (by decide +kernel) (by decide +kernel)
    exact step_run rfl _ _ (run_mul rfl rfl e214 rfl (by omega) (by omega)) ⟨rfl, Mod.refl _ _⟩
  · have e26 : ρ.eval (.tmp 26) = Value.int .i64 (s) := (far 26 (by decide +kernel)).trans x26
    exact step_run rfl _ _ (run_move rfl e26) ⟨rfl, Mod.refl _ _⟩
  · have e215 : ρ.eval (.tmp 215) = Value.int .i64 (3 * (b : Int)) := kn 3 215 (by decide +kernel) (by decide +kernel)
    have e216 : ρ.eval (.tmp 216) = Value.int .i64 (s) := kn 4 216 (by decide +kernel) (by decide +kernel)
    exact step_run rfl _ _ (run_add rfl e215 e216 rfl (by omega) (by omega)) ⟨rfl, Mod.refl _ _⟩
  · have e3 : ρ.eval (.tmp 3) = Value.slice (some ⟨bb, boff, none⟩) bn bcap := (far 3 (by decide +kernel)).trans x3
    exact step_run rfl _ _ (run_move rfl e3) ⟨rfl, Mod.refl _ _⟩
  · have e218 : ρ.eval (.tmp 218) = Value.slice (some ⟨bb, boff, none⟩) bn bcap := kn 6 218 (by decide +kernel) (by decide +kernel)
    have q : ρ.tmps[218]?.getD undef = Value.slice (some ⟨bb, boff, none⟩) bn bcap := by simpa [Act.eval] using e218
    refine step_run rfl (Value.int .i64 (bn)) _ ?_ ⟨rfl, Mod.refl _ _⟩
    simp only [execOp]
    go_simp
  · have e217 : ρ.eval (.tmp 217) = Value.int .i64 (3 * (b : Int) + s) := kn 5 217 (by decide +kernel) (by decide +kernel)
    have e219 : ρ.eval (.tmp 219) = Value.int .i64 (bn) := kn 7 219 (by decide +kernel) (by decide +kernel)
    exact step_run rfl _ _ (run_remN rfl e217 e219 hne hrm (by omega)) ⟨rfl, Mod.refl _ _⟩
  · have e213 : ρ.eval (.tmp 213) = Value.slice (some ⟨bb, boff, none⟩) bn bcap := kn 1 213 (by decide +kernel) (by decide +kernel)
    have e220 : ρ.eval (.tmp 220) = Value.int .i64 (j) := kn 8 220 (by decide +kernel) (by decide +kernel)
    exact step_run rfl _ _ (run_idx46 rfl e213 e220 hj) ⟨rfl, Mod.refl _ _⟩
  · have e221 : ρ.eval (.tmp 221) = Value.pointer (some ⟨bb, boff + j, none⟩) := kn 9 221 (by decide +kernel) (by decide +kernel)
    have c := FR _ hM
    refine step_run rfl (Value.int .u16 u) _ ?_ ⟨rfl, Mod.refl _ _⟩
    simp only [execOp, e221]
    go_simp
  · have e222 : ρ.eval (.tmp 222) = Value.int .u16 u := kn 10 222 (by decide +kernel) (by decide +kernel)
    exact step_run rfl _ _ (run_conv55 rfl e222 hu) ⟨rfl, Mod.refl _ _⟩
  · have e1 : ρ.eval (.tmp 1) = Value.slice (some ⟨sb, soff, none⟩) ln lcap := (far 1 (by decide +kernel)).trans x1
    exact step_run rfl _ _ (run_move rfl e1) ⟨rfl, Mod.refl _ _⟩
  · have e26 : ρ.eval (.tmp 26) = Value.int .i64 (s) := (far 26 (by decide +kernel)).trans x26
    exact step_run rfl _ _ (run_move rfl e26) ⟨rfl, Mod.refl _ _⟩
  · have e224 : ρ.eval (.tmp 224) = Value.slice (some ⟨sb, soff, none⟩) ln lcap := kn 12 224 (by decide +kernel) (by decide +kernel)
    have e225 : ρ.eval (.tmp 225) = Value.int .i64 (s) := kn 13 225 (by decide +kernel) (by decide +kernel)
    exact step_run rfl _ _ (run_idx33 rfl e224 e225 hsl) ⟨rfl, Mod.refl _ _⟩
  · have e226 : ρ.eval (.tmp 226) = Value.pointer (some ⟨sb, soff + s * 2, none⟩) := kn 14 226 (by decide +kernel) (by decide +kernel)
    refine step_run rfl (Value.pointer (some ⟨sb, soff + s * 2, none⟩)) _ ?_ ⟨rfl, Mod.refl _ _⟩
    simp only [execOp, e226]
    go_simp
  · have e227 : ρ.eval (.tmp 227) = Value.pointer (some ⟨sb, soff + s * 2, none⟩) := kn 15 227 (by decide +kernel) (by decide +kernel)
    have c := FS _ hM
    refine step_run rfl (Value.int .i64 (st)) _ ?_ ⟨rfl, Mod.refl _ _⟩
    simp only [execOp, e227]
    go_simp
  · have e228 : ρ.eval (.tmp 228) = Value.int .i64 (st) := kn 16 228 (by decide +kernel) (by decide +kernel)
    exact step_run rfl _ _ (run_add rfl e228 rfl hm (by omega) (by omega)) ⟨rfl, Mod.refl _ _⟩
  · have e223 : ρ.eval (.tmp 223) = Value.int .i64 (u) := kn 11 223 (by decide +kernel) (by decide +kernel)
    have e229 : ρ.eval (.tmp 229) = Value.int .i64 (m) := kn 17 229 (by decide +kernel) (by decide +kernel)
    exact step_run rfl _ _ (run_remN rfl e223 e229 hm0 hr2 (by omega)) ⟨rfl, Mod.refl _ _⟩
  · have e212 : ρ.eval (.tmp 212) = Value.int .i64 (rn) := kn 0 212 (by decide +kernel) (by decide +kernel)
    have e230 : ρ.eval (.tmp 230) = Value.int .i64 (t4) := kn 18 230 (by decide +kernel) (by decide +kernel)
    exact step_run rfl _ _ (run_add rfl e212 e230 rfl (by omega) (by omega)) ⟨rfl, Mod.refl _ _⟩
  · have e231 : ρ.eval (.tmp 231) = Value.int .i64 (rn + (t4 : Int)) := kn 19 231 (by decide +kernel) (by decide +kernel)
    exact step_run rfl _ _ (run_assign rfl e231) ⟨rfl, Mod.refl _ _⟩

@[reducible] def te0 : Oper := { dst := some 244, op := Op.move (Operand.tmp 29), type := 29, pos := "outright.go:50", after := #[], guard := none }
@[reducible] def te1 : Oper := { dst := some 245, op := Op.binOp BinOp.neq 29 (Operand.tmp 244) (Operand.const (Value.int IntKind.i64 0)) 29, type := 4, pos := "outright.go:50", after := #[{ on := 0, ground := Ground.data }], guard := none }
@[reducible] def te2 : Oper := { dst := some 246, op := Op.move (Operand.tmp 245), type := 4, pos := "outright.go:50", after := #[{ on := 1, ground := Ground.data }], guard := none }
@[reducible] def te3 : Oper := { dst := some 247, op := Op.move (Operand.tmp 30), type := 3, pos := "outright.go:50", after := #[{ on := 2, ground := Ground.guard }], guard := some (2, false) }
@[reducible] def te4 : Oper := { dst := some 248, op := Op.fieldAddr 28 (Operand.tmp 28) 0, type := 0, pos := "outright.go:50", after := #[{ on := 2, ground := Ground.guard }], guard := some (2, false) }
@[reducible] def te5 : Oper := { dst := some 249, op := Op.load 3 (Operand.tmp 248), type := 3, pos := "outright.go:50", after := #[{ on := 4, ground := Ground.data }, { on := 2, ground := Ground.guard }], guard := some (2, false) }
@[reducible] def te6 : Oper := { dst := some 250, op := Op.binOp BinOp.lss 3 (Operand.tmp 247) (Operand.tmp 249) 3, type := 4, pos := "outright.go:50", after := #[{ on := 3, ground := Ground.data }, { on := 5, ground := Ground.data }, { on := 2, ground := Ground.guard }], guard := some (2, false) }
@[reducible] def te7 : Oper := { dst := some 251, op := Op.pick (Operand.tmp 246) (Operand.const (Value.bool true)) (Operand.tmp 250), type := 4, pos := "outright.go:50", after := #[{ on := 2, ground := Ground.data }, { on := 6, ground := Ground.data }], guard := none }
@[reducible] def te8 : Oper := { dst := some 252, op := Op.move (Operand.tmp 251), type := 4, pos := "outright.go:50", after := #[{ on := 7, ground := Ground.data }, { on := 2, ground := Ground.chain }], guard := none }
@[reducible] def te9 : Oper := { dst := some 253, op := Op.move (Operand.tmp 30), type := 3, pos := "outright.go:50", after := #[{ on := 8, ground := Ground.guard }], guard := some (8, false) }
@[reducible] def te10 : Oper := { dst := some 254, op := Op.fieldAddr 28 (Operand.tmp 28) 1, type := 0, pos := "outright.go:50", after := #[{ on := 8, ground := Ground.guard }], guard := some (8, false) }
@[reducible] def te11 : Oper := { dst := some 255, op := Op.load 3 (Operand.tmp 254), type := 3, pos := "outright.go:50", after := #[{ on := 10, ground := Ground.data }, { on := 8, ground := Ground.guard }], guard := some (8, false) }
@[reducible] def te12 : Oper := { dst := some 256, op := Op.binOp BinOp.gtr 3 (Operand.tmp 253) (Operand.tmp 255) 3, type := 4, pos := "outright.go:50", after := #[{ on := 9, ground := Ground.data }, { on := 11, ground := Ground.data }, { on := 8, ground := Ground.guard }], guard := some (8, false) }
@[reducible] def te13 : Oper := { dst := some 257, op := Op.pick (Operand.tmp 252) (Operand.const (Value.bool true)) (Operand.tmp 256), type := 4, pos := "outright.go:50", after := #[{ on := 8, ground := Ground.data }, { on := 12, ground := Ground.data }], guard := none }
@[reducible] def te14 : Oper := { dst := some 258, op := Op.move (Operand.tmp 257), type := 4, pos := "outright.go:50", after := #[{ on := 13, ground := Ground.data }, { on := 8, ground := Ground.chain }], guard := none }
@[reducible] def te15 : Oper := { dst := some 259, op := Op.move (Operand.tmp 30), type := 3, pos := "outright.go:50", after := #[{ on := 14, ground := Ground.guard }], guard := some (14, false) }
@[reducible] def te16 : Oper := { dst := some 260, op := Op.fieldAddr 24 (Operand.tmp 4) 1, type := 0, pos := "outright.go:50", after := #[{ on := 14, ground := Ground.guard }], guard := some (14, false) }
@[reducible] def te17 : Oper := { dst := some 261, op := Op.load 3 (Operand.tmp 260), type := 3, pos := "outright.go:50", after := #[{ on := 16, ground := Ground.data }, { on := 14, ground := Ground.guard }], guard := some (14, false) }
@[reducible] def te18 : Oper := { dst := some 262, op := Op.move (Operand.tmp 1), type := 33, pos := "outright.go:50", after := #[{ on := 14, ground := Ground.guard }], guard := some (14, false) }
@[reducible] def te19 : Oper := { dst := some 263, op := Op.move (Operand.tmp 26), type := 3, pos := "outright.go:50", after := #[{ on := 14, ground := Ground.guard }], guard := some (14, false) }
@[reducible] def te20 : Oper := { dst := some 264, op := Op.indexAddr 33 (Operand.tmp 262) (Operand.tmp 263), type := 0, pos := "outright.go:50", after := #[{ on := 18, ground := Ground.data }, { on := 19, ground := Ground.data }, { on := 14, ground := Ground.guard }], guard := some (14, false) }
@[reducible] def te21 : Oper := { dst := some 265, op := Op.fieldAddr 58 (Operand.tmp 264) 1, type := 0, pos := "outright.go:50", after := #[{ on := 20, ground := Ground.data }, { on := 14, ground := Ground.guard }], guard := some (14, false) }
@[reducible] def te22 : Oper := { dst := some 266, op := Op.load 3 (Operand.tmp 265), type := 3, pos := "outright.go:50", after := #[{ on := 21, ground := Ground.data }, { on := 14, ground := Ground.guard }], guard := some (14, false) }
@[reducible] def te23 : Oper := { dst := some 267, op := Op.binOp BinOp.add 3 (Operand.tmp 261) (Operand.tmp 266) 3, type := 3, pos := "outright.go:50", after := #[{ on := 17, ground := Ground.data }, { on := 22, ground := Ground.data }, { on := 14, ground := Ground.guard }], guard := some (14, false) }
@[reducible] def te24 : Oper := { dst := some 268, op := Op.binOp BinOp.gtr 3 (Operand.tmp 259) (Operand.tmp 267) 3, type := 4, pos := "outright.go:50", after := #[{ on := 15, ground := Ground.data }, { on := 23, ground := Ground.data }, { on := 14, ground := Ground.guard }], guard := some (14, false) }
@[reducible] def te25 : Oper := { dst := some 269, op := Op.pick (Operand.tmp 258) (Operand.const (Value.bool true)) (Operand.tmp 268), type := 4, pos := "outright.go:50", after := #[{ on := 14, ground := Ground.data }, { on := 24, ground := Ground.data }], guard := none }
@[reducible] def teOps : List Oper := [te0, te1, te2, te3, te4, te5, te6, te7, te8, te9, te10, te11, te12, te13, te14, te15, te16, te17, te18, te19, te20, te21, te22, te23, te24, te25]
@[reducible] def teDs : List (Nat × Nat) := [(0, 244), (1, 245), (2, 246), (3, 247), (4, 248), (5, 249), (6, 250), (7, 251), (8, 252), (9, 253), (10, 254), (11, 255), (12, 256), (13, 257), (14, 258), (15, 259), (16, 260), (17, 261), (18, 262), (19, 263), (20, 264), (21, 265), (22, 266), (23, 267), (24, 268), (25, 269)]
theorem teB : lowB teOps = true := by kernel_rfl
theorem teOk : slotsB teOps teDs 278 = true := by decide +kernel
@[reducible] def teC (ob db sb soff ln lcap s : Nat) (ofs o1 o2 bd mo : Int) : Nat → Value := fun idx => ([Value.int .i64 (0), Value.bool false, Value.bool false, Value.int .i64 (ofs), Value.pointer (some ⟨ob, 0, none⟩), Value.int .i64 (o1), Value.bool false, Value.bool false, Value.bool false, Value.int .i64 (ofs), Value.pointer (some ⟨ob, 1, none⟩), Value.int .i64 (o2), Value.bool false, Value.bool false, Value.bool false, Value.int .i64 (ofs), Value.pointer (some ⟨db, 1, none⟩), Value.int .i64 (bd), Value.slice (some ⟨sb, soff, none⟩) ln lcap, Value.int .i64 (s), Value.pointer (some ⟨sb, soff + s * 2, none⟩), Value.pointer (some ⟨sb, soff + s * 2 + 1, none⟩), Value.int .i64 (mo), Value.int .i64 (bd + mo), Value.bool false, Value.bool false] : List Value).getD idx undef
theorem teG (ob db sb soff ln lcap s : Nat) (ofs o1 o2 bd mo : Int) : guardsC teOps (teC ob db sb soff ln lcap s ofs o1 o2 bd mo) = true := by kernel_rfl
set_option maxRecDepth 100000 in
set_option maxHeartbeats 4000000 in
theorem region_te {rid : Nat} {Q : Exit → Act → World → Prop} {a0 : Act} {w : World} {ob db sb soff ln lcap s : Nat} {ofs o1 o2 bd mo : Int} (hsz : a0.tmps.size = 278) (x1 : a0.eval (.tmp 1) = Value.slice (some ⟨sb, soff, none⟩) ln lcap) (x4 : a0.eval (.tmp 4) = Value.pointer (some ⟨db, 0, none⟩)) (x26 : a0.eval (.tmp 26) = Value.int .i64 (s)) (x28 : a0.eval (.tmp 28) = Value.pointer (some ⟨ob, 0, none⟩)) (x29 : a0.eval (.tmp 29) = Value.int .i64 (0)) (x30 : a0.eval (.tmp 30) = Value.int .i64 (ofs))
    (F0 : ∀ W', Mod noB w W' → W'.cell? ⟨ob, 0, none⟩ = some (.int .i64 o1)) (F1 : ∀ W', Mod noB w W' → W'.cell? ⟨ob, 1, none⟩ = some (.int .i64 o2)) (FD : ∀ W', Mod noB w W' → W'.cell? ⟨db, 1, none⟩ = some (.int .i64 bd)) (FS : ∀ W', Mod noB w W' → W'.cell? ⟨sb, soff + s * 2 + 1, none⟩ = some (.int .i64 mo)) (hsl : s < ln) (h1 : ¬ ofs < o1) (h2 : ¬ o2 < ofs) (h3 : ¬ bd + mo < ofs) (hbd : 0 ≤ bd ∧ bd ≤ 100000) (hmo : 0 ≤ mo ∧ mo ≤ 100000)
    (hend : ∀ w', Mod noB w w' → Q .normal (teDs.foldl (fun a x => a.put (some x.2) (teC ob db sb soff ln lcap s ofs o1 o2 bd mo x.1)) a0) w') : (Code.region rid teOps.toArray true).wp Tryd.prog Q a0 w := by
  refine region_known teB teDs hsz teOk (teC ob db sb soff ln lcap s ofs o1 o2 bd mo) (teG ob db sb soff ln lcap s ofs o1 o2 bd mo) ?_ hend
  intro i o ρ w' hi ho hM kn far
  have hlt : i < 26 := hi
  rcases (by omega : i = 0 ∨ i = 1 ∨ i = 2 ∨ i = 3 ∨ i = 4 ∨ i = 5 ∨ i = 6 ∨ i = 7 ∨ i = 8 ∨ i = 9 ∨ i = 10 ∨ i = 11 ∨ i = 12 ∨ i = 13 ∨ i = 14 ∨ i = 15 ∨ i = 16 ∨ i = 17 ∨ i = 18 ∨ i = 19 ∨ i = 20 ∨ i = 21 ∨ i = 22 ∨ i = 23 ∨ i = 24 ∨ i = 25) with rfl | rfl | rfl | rfl | rfl | rfl | rfl | rfl | rfl | rfl | rfl | rfl | rfl | rfl | rfl | rfl | rfl | rfl | rfl | rfl | rfl | rfl | rfl | rfl | rfl | rfl
  all_goals (obtain rfl := Option.some.inj ho)
  · have e29 : ρ.eval (.tmp 29) = Value.int .i64 (0) := (far 29 (by decide +kernel)).trans x29
    exact step_run rfl _ _ (run_move rfl e29) ⟨rfl, Mod.refl _ _⟩
  · have e244 : ρ.eval (.tmp 244) = Value.int .i64 (0) := kn 0 244 (by decide +kernel) (by decide +kernel)
    exact step_run rfl (.bool false) _ (run_neq29F rfl e244 rfl) ⟨rfl, Mod.refl _ _⟩
  · have e245 : ρ.eval (.tmp 245) = Value.bool false := kn 1 245 (by decide +kernel) (by decide +kernel)
    exact step_run rfl _ _ (run_move rfl e245) ⟨rfl, Mod.refl _ _⟩
  · have e30 : ρ.eval (.tmp 30) = Value.int .i64 (ofs) := (far 30 (by decide +kernel)).trans x30
    exact step_run rfl _ _ (run_move rfl e30) ⟨rfl, Mod.refl _ _⟩
  · have e28 : ρ.eval (.tmp 28) = Value.pointer (some ⟨ob, 0, none⟩) := (far 28 (by decide +kernel)).trans x28
    refine step_run rfl (Value.pointer (some ⟨ob, 0, none⟩)) _ ?_ ⟨rfl, Mod.refl _ _⟩
    simp only [execOp, e28]
    go_simp
  · have e248 : ρ.eval (.tmp 248) = Value.pointer (some ⟨ob, 0, none⟩) := kn 4 248 (by decide +kernel) (by decide +kernel)
    have c := F0 _ hM
    refine step_run rfl (Value.int .i64 (o1)) _ ?_ ⟨rfl, Mod.refl _ _⟩
    simp only [execOp, e248]
    go_simp
  · have e247 : ρ.eval (.tmp 247) = Value.int .i64 (ofs) := kn 3 247 (by decide +kernel) (by decide +kernel)
    have e249 : ρ.eval (.tmp 249) = Value.int .i64 (o1) := kn 5 249 (by decide +kernel) (by decide +kernel)
    exact step_run rfl (.bool false) _ (run_lssF rfl e247 e249 h1) ⟨rfl, Mod.refl _ _⟩
  · have e246 : ρ.eval (.tmp 246) = Value.bool false := kn 2 246 (by decide +kernel) (by decide +kernel)
    have e250 : ρ.eval (.tmp 250) = Value.bool false := kn 6 250 (by decide +kernel) (by decide +kernel)
    exact step_run rfl _ _ (run_pickF rfl e246 e250) ⟨rfl, Mod.refl _ _⟩
  · have e251 : ρ.eval (.tmp 251) = Value.bool false := kn 7 251 (by decide +kernel) (by decide +kernel)
    exact step_run rfl _ _ (run_move rfl e251) ⟨rfl, Mod.refl _ _⟩
  · have e30 : ρ.eval (.tmp 30) = Value.int .i64 (ofs) := (far 30 (by decide +kernel)).trans x30
    exact step_run rfl _ _ (run_move rfl e30) ⟨rfl, Mod.refl _ _⟩
  · have e28 : ρ.eval (.tmp 28) = Value.pointer (some ⟨ob, 0, none⟩) := (far 28 (by decide +kernel)).trans x28
    refine step_run rfl (Value.pointer (some ⟨ob, 1, none⟩)) _ ?_ ⟨rfl, Mod.refl _ _⟩
    simp only [execOp, e28]
    go_simp
  · have e254 : ρ.eval (.tmp 254) = Value.pointer (some ⟨ob, 1, none⟩) := kn 10 254 (by decide +kernel) (by decide +kernel)
    have c := F1 _ hM
    refine step_run rfl (Value.int .i64 (o2)) _ ?_ ⟨rfl, Mod.refl _ _⟩
    simp only [execOp, e254]
    go_simp
  · have e253 : ρ.eval (.tmp 253) = Value.int .i64 (ofs) := kn 9 253 (by decide +kernel) (by decide +kernel)
    have e255 : ρ.eval (.tmp 255) = Value.int .i64 (o2) := kn 11 255 (by decide +kernel) (by decide +kernel)
    exact step_run rfl (.bool false) _ (run_gtrF rfl e253 e255 h2) ⟨rfl, Mod.refl _ _⟩
  · have e252 : ρ.eval (.tmp 252) = Value.bool false := kn 8 252 (by decide +kernel) (by decide +kernel)
    have e256 : ρ.eval (.tmp 256) = Value.bool false := kn 12 256 (by decide +kernel) (by decide +kernel)
    exact step_run rfl _ _ (run_pickF rfl e252 e256) ⟨rfl, Mod.refl _ _⟩
  · have e257 : ρ.eval (.tmp 257) = Value.bool false := kn 13 257 (by decide +kernel) (by decide +kernel)
    exact step_run rfl _ _ (run_move rfl e257) ⟨rfl, Mod.refl _ _⟩
  · have e30 : ρ.eval (.tmp 30) = Value.int .i64 (ofs) := (far 30 (by decide +kernel)).trans x30
    exact step_run rfl _ _ (run_move rfl e30) ⟨rfl, Mod.refl _ _⟩
  · have e4 : ρ.eval (.tmp 4) = Value.pointer (some ⟨db, 0, none⟩) := (far 4 (by decide +kernel)).trans x4
    refine step_run rfl (Value.pointer (some ⟨db, 1, none⟩)) _ ?_ ⟨rfl, Mod.refl _ _⟩
    simp only [execOp, e4]
    go_simp
  · have e260 : ρ.eval (.tmp 260) = Value.pointer (some ⟨db, 1, none⟩) := kn 16 260 (by decide +kernel) (by decide +kernel)
    have c := FD _ hM
    refine step_run rfl (Value.int .i64 (bd)) _ ?_ ⟨rfl, Mod.refl _ _⟩
    simp only [execOp, e260]
    go_simp
  · have e1 : ρ.eval (.tmp 1) = Value.slice (some ⟨sb, soff, none⟩) ln lcap := (far 1 (by decide +kernel)).trans x1
    exact step_run rfl _ _ (run_move rfl e1) ⟨rfl, Mod.refl _ _⟩
  · have e26 : ρ.eval (.tmp 26) = Value.int .i64 (s) := (far 26 (by decide +kernel)).trans x26
    exact step_run rfl _ _ (run_move rfl e26) ⟨rfl, Mod.refl _ _⟩
  · have e262 : ρ.eval (.tmp 262) = Value.slice (some ⟨sb, soff, none⟩) ln lcap := kn 18 262 (by decide +kernel) (by decide +kernel)
    have e263 : ρ.eval (.tmp 263) = Value.int .i64 (s) := kn 19 263 (by decide +kernel) (by decide +kernel)
    exact step_run rfl _ _ (run_idx33 rfl e262 e263 hsl) ⟨rfl, Mod.refl _ _⟩
  · have e264 : ρ.eval (.tmp 264) = Value.pointer (some ⟨sb, soff + s * 2, none⟩) := kn 20 264 (by decide +kernel) (by decide +kernel)
    refine step_run rfl (Value.pointer (some ⟨sb, soff + s * 2 + 1, none⟩)) _ ?_ ⟨rfl, Mod.refl _ _⟩
    simp only [execOp, e264]
    go_simp
  · have e265 : ρ.eval (.tmp 265) = Value.pointer (some ⟨sb, soff + s * 2 + 1, none⟩) := kn 21 265 (by decide +kernel) (by decide +kernel)
    have c := FS _ hM
    refine step_run rfl (Value.int .i64 (mo)) _ ?_ ⟨rfl, Mod.refl _ _⟩
    simp only [execOp, e265]
    go_simp
  · have e261 : ρ.eval (.tmp 261) = Value.int .i64 (bd) := kn 17 261 (by decide +kernel) (by decide +kernel)
    have e266 : ρ.eval (.tmp 266) = Value.int .i64 (mo) := kn 22 266 (by decide +kernel) (by decide +kernel)
    exact step_run rfl _ _ (run_add rfl e261 e266 rfl (by omega) (by omega)) ⟨rfl, Mod.refl _ _⟩
  · have e259 : ρ.eval (.tmp 259) = Value.int .i64 (ofs) := kn 15 259 (by decide +kernel) (by decide +kernel)
    have e267 : ρ.eval (.tmp 267) = Value.int .i64 (bd + mo) := kn 23 267 (by decide +kernel) (by decide +kernel)
    exact step_run rfl (.bool false) _ (run_gtrF rfl e259 e267 h3) ⟨rfl, Mod.refl _ _⟩
  · have e258 : ρ.eval (.tmp 258) = Value.bool false := kn 14 258 (by decide +kernel) (by decide +kernel)
    have e268 : ρ.eval (.tmp 268) = Value.bool false := kn 24 268 (by decide +kernel) (by decide +kernel)
    exact step_run rfl _ _ (run_pickF rfl e258 e268) ⟨rfl, Mod.refl _ _⟩
end Go.Proofs.YtdncppempgpooaaDoor

/- RuleTrue: the law's walk: what is asked of each blade, stint by stint. (Its code and frame: written by wip/tools.) -/
namespace Go.Proofs.YtdncppempgpooaaDoor
open Go Go.RowKit Go.Shelf

/-- What the law holds on to. -/
def Lawt (w : World) (B : Nat) (ao : Option Addr) (cap : Nat) (d : Dye) (lo : Option Addr) (l : List (Int × Int)) (po : Option Addr) (pl : List Int) (W : World) : Prop := Lawd w B ao cap d lo l W ∧ IntsAt W po pl
def tmpOf (a : Act) (i : Nat) : Value := a.tmps.getD i undef
theorem end_frame (F : (Nat → Value) → Act) (a : Act) (P : Prop) (h : a = F (tmpOf a)) (hp : P) : ∃ v, a = F v ∧ P := ⟨tmpOf a, h, hp⟩

end Go.Proofs.YtdncppempgpooaaDoor

/- Several texts in one (a claim holds at most 60 files): each has its own words ahead of it. -/

/- RuleLess: the regions that ask for the best plan and for the proof of one stint less. -/
namespace Go.Proofs.YtdncppempgpooaaDoor
open Go Go.RowKit Go.Shelf Go.Maps Go.WideMaps

section
variable {o : Oper} {a : Act} {w : World} {x y z : Operand}
theorem run_slice33 (hop : o.op = .slice 33 x none (some y) none) {b f n c k : Nat} (hx : a.eval x = .slice (some ⟨b, f, none⟩) n c) (hy : a.eval y = .int .i64 k) (hk : k ≤ n) (hc : n ≤ c) (hcm : c ≤ 9223372036854775807) : (execOp a.eval o).run Tryd.prog w = .ok (.value (.slice (some ⟨b, f, none⟩) k c)) w := by
  have h1 : (k : Int) ≤ c := by omega
  have h0 : (0 : Int) ≤ k := by omega
  have h3 : k ≤ c := by omega
  simp only [execOp, hop, Option.map_some, Option.map_none, hx, hy]
  go_simp
  done
theorem run_len33 {s : Nat} (hop : o.op = .call { callee := Callee.builtin Builtin.len, args := #[.tmp s], argTypes := #[33] }) {ao : Option Addr} {n cap : Nat} (hx : a.eval (.tmp s) = .slice ao n cap) : (execOp a.eval o).run Tryd.prog w = .ok (.value (.int .i64 n)) w := by
  have hx' : a.tmps[s]?.getD undef = .slice ao n cap := by simpa [Act.eval] using hx
  simp only [execOp, hop]
  go_simp
  done
end
theorem tup3 {x y z x' y' z' : Value} (h : Value.tuple #[x, y, z] = Value.tuple #[x', y', z']) : x = x' ∧ y = y' ∧ z = z' := by simpa using h
theorem enter25 : ∀ args w, (callFunc 25 args).run Tryd.prog w = .ok (.enter 25 args) w := enters_of Tryd.func25 (by kernel_rfl) rfl
theorem enter20 : ∀ args w, (callFunc 20 args).run Tryd.prog w = .ok (.enter 20 args) w := enters_of Tryd.func20 (by kernel_rfl) rfl
def cuC (ao : Option Addr) (cap : Nat) (d : Dye) (lo : Option Addr) (n lcap : Nat) : Nat → Value
  | 0 => dyV ao d.bl.length cap d
  | 1 => .slice lo n lcap
  | 2 => .slice lo n lcap
  | 3 => .int .i64 n
  | 4 => .int .i64 (n - 1 : Nat)
  | _ => .slice lo (n - 1) lcap
/-- What the three results are, once they are there. -/
structure CuW (C : Nat → Value) (P : Value → Value → Value → World → Prop) (w : World) (D : Nat → Bool) (vs : Nat → Value) (w' : World) : Prop where
  c : ∀ j, j < 6 → D j = true → vs j = C j
  p : D 6 = true → ∃ x y z, Kept w' (P x y z) ∧ vs 6 = .tuple #[x, y, z] ∧ (D 7 = true → vs 7 = .tuple #[x, y, z]) ∧ (D 8 = true → vs 8 = x) ∧ (D 9 = true → vs 9 = y) ∧ (D 10 = true → vs 10 = z) ∧ (D 11 = true → vs 11 = x) ∧ (D 12 = true → vs 12 = y) ∧ (D 13 = true → vs 13 = z)
  m : Mod noB w w'
theorem CuW.read {C : Nat → Value} {P : Value → Value → Value → World → Prop} {w : World} {D : Nat → Bool} {vs : Nat → Value} {w' : World} (h : CuW C P w D vs w') {i : Nat} (hi : i < 6) : CuW C P w (fun j => j == i || D j) (fun j => if j = i then C i else vs j) w' := by
  have ne : ∀ k, 6 ≤ k → (k == i) = false := fun k hk => by simp; omega
  have ne2 : ∀ k, 6 ≤ k → ¬ k = i := fun k hk => by omega
  refine ⟨fun j a hd => ?_, fun h1 => ?_, h.m⟩
  · by_cases e : j = i
    · subst e; simp
    · simp only [e, if_false]
      have e2 : (j == i) = false := by simpa using e
      simp only [e2, Bool.false_or] at hd
      exact h.c j a hd
  · simp only [ne 6 (by omega), ne 7 (by omega), ne 8 (by omega), ne 9 (by omega), ne 10 (by omega), ne 11 (by omega), ne 12 (by omega), ne 13 (by omega), ne2 6 (by omega), ne2 7 (by omega), ne2 8 (by omega), ne2 9 (by omega), ne2 10 (by omega), ne2 11 (by omega), ne2 12 (by omega), ne2 13 (by omega), Bool.false_or, if_false] at h1 ⊢
    exact h.p h1
/-- One of the operations after the call: it yields what the results say. -/
theorem CuW.late {C : Nat → Value} {P : Value → Value → Value → World → Prop} {w : World} {D : Nat → Bool} {vs : Nat → Value} {w' : World} (h : CuW C P w D vs w') (h6 : D 6 = true) {i : Nat} (hi : 6 < i) (hi2 : i < 14) {v : Value} (hv : ∀ x y z, vs 6 = .tuple #[x, y, z] → v = match i with | 7 => .tuple #[x, y, z] | 8 => x | 9 => y | 10 => z | 11 => x | 12 => y | _ => z) : CuW C P w (fun j => j == i || D j) (fun j => if j = i then v else vs j) w' := by
  obtain ⟨x, y, z, hK, e6, e7, e8, e9, e10, e11, e12, e13⟩ := h.p h6
  have hv' := hv x y z e6
  refine ⟨fun j a hd => ?_, fun _ => ⟨x, y, z, hK, ?_, ?_⟩, h.m⟩
  · have e : ¬ j = i := by omega
    have e2 : (j == i) = false := by simpa using e
    simp only [e, if_false]
    simp only [e2, Bool.false_or] at hd
    exact h.c j a hd
  · have e : ¬ 6 = i := by omega
    simp only [e, if_false]; exact e6
  · rcases (by omega : i = 7 ∨ i = 8 ∨ i = 9 ∨ i = 10 ∨ i = 11 ∨ i = 12 ∨ i = 13) with rfl | rfl | rfl | rfl | rfl | rfl | rfl <;> simp_all

@[reducible] def cu0 : Oper := { dst := some 80, op := Op.load 24 (Operand.tmp 3), type := 24, pos := "outright.go:246", after := #[], guard := none }
@[reducible] def cu1 : Oper := { dst := some 81, op := Op.move (Operand.tmp 1), type := 33, pos := "outright.go:246", after := #[], guard := none }
@[reducible] def cu2 : Oper := { dst := some 82, op := Op.move (Operand.tmp 1), type := 33, pos := "outright.go:246", after := #[], guard := none }
@[reducible] def cu3 : Oper := { dst := some 83, op := Op.call { callee := Callee.builtin Builtin.len, args := #[Operand.tmp 82], argTypes := #[33] }, type := 3, pos := "outright.go:246", after := #[{ on := 2, ground := Ground.data }], guard := none }
@[reducible] def cu4 : Oper := { dst := some 84, op := Op.binOp BinOp.sub 3 (Operand.tmp 83) (Operand.const (Value.int IntKind.i64 1)) 3, type := 3, pos := "outright.go:246", after := #[{ on := 3, ground := Ground.data }], guard := none }
@[reducible] def cu5 : Oper := { dst := some 85, op := Op.slice 33 (Operand.tmp 81) none (some (Operand.tmp 84)) none, type := 33, pos := "outright.go:246", after := #[{ on := 1, ground := Ground.data }, { on := 4, ground := Ground.data }], guard := none }
@[reducible] def cu6 : Oper := { dst := some 86, op := Op.call { callee := Callee.value (Operand.func 25), args := #[Operand.tmp 80, Operand.tmp 85], argTypes := #[24, 33] }, type := 43, pos := "outright.go:246", after := #[{ on := 0, ground := Ground.data }, { on := 5, ground := Ground.data }], guard := none }
@[reducible] def cu7 : Oper := { dst := some 79, op := Op.move (Operand.tmp 86), type := 43, pos := "outright.go:246", after := #[{ on := 6, ground := Ground.data }], guard := none }
@[reducible] def cu8 : Oper := { dst := some 87, op := Op.extract (Operand.tmp 79) 0, type := 34, pos := "outright.go:246", after := #[{ on := 7, ground := Ground.data }], guard := none }
@[reducible] def cu9 : Oper := { dst := some 88, op := Op.extract (Operand.tmp 79) 1, type := 3, pos := "outright.go:246", after := #[{ on := 7, ground := Ground.data }, { on := 11, ground := Ground.gcOnly Departure.lateStores }], guard := none }
@[reducible] def cu10 : Oper := { dst := some 89, op := Op.extract (Operand.tmp 79) 2, type := 29, pos := "outright.go:246", after := #[{ on := 7, ground := Ground.data }, { on := 12, ground := Ground.gcOnly Departure.lateStores }], guard := none }
@[reducible] def cu11 : Oper := { dst := some 13, op := Op.assign (Operand.tmp 87), type := 34, pos := "outright.go:246", after := #[{ on := 8, ground := Ground.data }, { on := 6, ground := Ground.chain }, { on := 0, ground := Ground.phase }, { on := 1, ground := Ground.phase }, { on := 2, ground := Ground.phase }, { on := 3, ground := Ground.phase }, { on := 4, ground := Ground.phase }, { on := 5, ground := Ground.phase }, { on := 6, ground := Ground.phase }, { on := 7, ground := Ground.phase }, { on := 8, ground := Ground.phase }, { on := 9, ground := Ground.textOnly Departure.lateStores }, { on := 10, ground := Ground.textOnly Departure.lateStores }], guard := none }
@[reducible] def cu12 : Oper := { dst := some 14, op := Op.assign (Operand.tmp 88), type := 3, pos := "outright.go:246", after := #[{ on := 9, ground := Ground.data }, { on := 11, ground := Ground.chain }, { on := 0, ground := Ground.phase }, { on := 1, ground := Ground.phase }, { on := 2, ground := Ground.phase }, { on := 3, ground := Ground.phase }, { on := 4, ground := Ground.phase }, { on := 5, ground := Ground.phase }, { on := 6, ground := Ground.phase }, { on := 7, ground := Ground.phase }, { on := 8, ground := Ground.phase }, { on := 9, ground := Ground.phase }, { on := 10, ground := Ground.textOnly Departure.lateStores }, { on := 11, ground := Ground.phase }], guard := none }
@[reducible] def cu13 : Oper := { dst := some 15, op := Op.assign (Operand.tmp 89), type := 29, pos := "outright.go:246", after := #[{ on := 10, ground := Ground.data }, { on := 12, ground := Ground.chain }, { on := 0, ground := Ground.phase }, { on := 1, ground := Ground.phase }, { on := 2, ground := Ground.phase }, { on := 3, ground := Ground.phase }, { on := 4, ground := Ground.phase }, { on := 5, ground := Ground.phase }, { on := 6, ground := Ground.phase }, { on := 7, ground := Ground.phase }, { on := 8, ground := Ground.phase }, { on := 9, ground := Ground.phase }, { on := 10, ground := Ground.phase }, { on := 11, ground := Ground.phase }, { on := 12, ground := Ground.phase }], guard := none }
@[reducible] def cuOps : List Oper := [cu0, cu1, cu2, cu3, cu4, cu5, cu6, cu7, cu8, cu9, cu10, cu11, cu12, cu13]
@[reducible] def cuDs : List (Nat × Nat) := [(0, 80), (1, 81), (2, 82), (3, 83), (4, 84), (5, 85), (6, 86), (7, 79), (8, 87), (9, 88), (10, 89), (11, 13), (12, 14), (13, 15)]
theorem cuB : lowB cuOps = true := by kernel_rfl
theorem cuOk : okB cuOps cuDs 219 = true := by decide +kernel

set_option maxRecDepth 100000 in
set_option maxHeartbeats 4000000 in
theorem region_cu {rid : Nat} {Q : Exit → Act → World → Prop} {a0 : Act} {w : World} {ao : Option Addr} {cap : Nat} {d : Dye} {lo : Option Addr} {lb lf n lcap db : Nat} {P : Value → Value → Value → World → Prop} (hsz : a0.tmps.size = 219)
    (x3 : a0.eval (.tmp 3) = .pointer (some ⟨db, 0, none⟩)) (x1 : a0.eval (.tmp 1) = .slice lo n lcap) (hlo : lo = some ⟨lb, lf, none⟩) (hn : 1 ≤ n) (hnc : n ≤ lcap) (hcm : lcap ≤ 9223372036854775807) (hn2 : n ≤ 100)
    (hdie : w.heap[db]? = some (.cells (dyC ao d.bl.length cap d) 24))
    (HC : ∀ W, Mod noB w W → Calls Tryd.prog 25 #[dyV ao d.bl.length cap d, .slice lo (n - 1) lcap] W fun e w' => (∃ x y z, e = .returned (.tuple #[x, y, z]) ∧ Kept w' (P x y z)) ∧ Mod noB W w')
    (hend : ∀ (vs : Nat → Value) w' x y z, vs 11 = x → vs 12 = y → vs 13 = z → Kept w' (P x y z) → Mod noB w w' → Q .normal (cuDs.foldl (fun a x => a.put (some x.2) (vs x.1)) a0) w') : (Code.region rid cuOps.toArray true).wp Tryd.prog Q a0 w := by
  subst hlo
  refine region_word2 cuB cuDs 219 hsz cuOk (CuW (cuC ao cap d (some ⟨lb, lf, none⟩) n lcap) P w) ?_ ?_ ?_
  · exact ⟨fun _ _ h => absurd h (by decide), fun h => absurd h (by decide), (Mod.refl _ _).drew⟩
  · intro D vs i' o ρ w' hlt hcl ho hD hdep EV EO hW
    have far : ∀ s, s ∉ cuDs.map Prod.snd → ρ.eval (.tmp s) = a0.eval (.tmp s) := fun s hs => EO s fun x hx e => absurd (e ▸ List.mem_map.2 ⟨x, hx, rfl⟩ : s ∈ cuDs.map Prod.snd) hs
    have kn : ∀ j s', j < 6 → (∃ e ∈ o.after, Region.binds .any e = true ∧ e.on = j) → (j, s') ∈ cuDs → ρ.eval (.tmp s') = cuC ao cap d (some ⟨lb, lf, none⟩) n lcap j := fun j s' h1 ⟨e, he, hb, hje⟩ hm => (EV _ _ hm (hje ▸ hdep e he hb)).trans (hW.c j h1 (hje ▸ hdep e he hb))
    have c7 : D 7 = true → D 6 = true := fun h => hcl 7 cu7 rfl h ⟨6, .data⟩ (by simp) rfl
    have c8 : D 8 = true → D 7 = true := fun h => hcl 8 cu8 rfl h ⟨7, .data⟩ (by simp) rfl
    have c9 : D 9 = true → D 7 = true := fun h => hcl 9 cu9 rfl h ⟨7, .data⟩ (by simp) rfl
    have c10 : D 10 = true → D 7 = true := fun h => hcl 10 cu10 rfl h ⟨7, .data⟩ (by simp) rfl
    have c11 : D 11 = true → D 8 = true := fun h => hcl 11 cu11 rfl h ⟨8, .data⟩ (by simp) rfl
    have c12 : D 12 = true → D 9 = true := fun h => hcl 12 cu12 rfl h ⟨9, .data⟩ (by simp) rfl
    have c13 : D 13 = true → D 10 = true := fun h => hcl 13 cu13 rfl h ⟨10, .data⟩ (by simp) rfl
    have hlt' : i' < 14 := hlt
    rcases (by omega : i' = 0 ∨ i' = 1 ∨ i' = 2 ∨ i' = 3 ∨ i' = 4 ∨ i' = 5 ∨ i' = 6 ∨ i' = 7 ∨ i' = 8 ∨ i' = 9 ∨ i' = 10 ∨ i' = 11 ∨ i' = 12 ∨ i' = 13) with rfl | rfl | rfl | rfl | rfl | rfl | rfl | rfl | rfl | rfl | rfl | rfl | rfl | rfl
    all_goals (obtain rfl := Option.some.inj ho)
    · exact step_loadRow rfl 24 rfl db ((far 3 (by decide)).trans x3) _ 24 _ (hW.m.at hdie id) rfl Tryd.underlying24 info24 ⟨_, rfl, hW.read (by omega)⟩
    · exact step_run rfl _ _ (run_move rfl ((far 1 (by decide)).trans x1)) ⟨_, rfl, hW.read (by omega)⟩
    · exact step_run rfl _ _ (run_move rfl ((far 1 (by decide)).trans x1)) ⟨_, rfl, hW.read (by omega)⟩
    · exact step_run rfl _ _ (run_len33 rfl (kn 2 82 (by omega) ⟨⟨2, .data⟩, by simp, rfl, rfl⟩ (by decide))) ⟨_, rfl, hW.read (by omega)⟩
    · exact step_run rfl _ _ (run_sub rfl (kn 3 83 (by omega) ⟨⟨3, .data⟩, by simp, rfl, rfl⟩ (by decide)) rfl (show (n : Int) - 1 = ((n - 1 : Nat) : Int) by omega) (by omega) (by omega)) ⟨_, rfl, hW.read (by omega)⟩
    · exact step_run rfl _ _ (run_slice33 rfl (kn 1 81 (by omega) ⟨⟨1, .data⟩, by simp, rfl, rfl⟩ (by decide)) (kn 4 84 (by omega) ⟨⟨4, .data⟩, by simp, rfl, rfl⟩ (by decide)) (by omega) hnc hcm) ⟨_, rfl, hW.read (by omega)⟩
    · have e0 : ρ.eval (.tmp 80) = dyV ao d.bl.length cap d := kn 0 80 (by omega) ⟨⟨0, .data⟩, by simp, rfl, rfl⟩ (by decide)
      have e5 : ρ.eval (.tmp 85) = .slice (some ⟨lb, lf, none⟩) (n - 1) lcap := kn 5 85 (by omega) ⟨⟨5, .data⟩, by simp, rfl, rfl⟩ (by decide)
      refine step_call rfl 25 _ _ rfl enter25 ?_
      simp only [List.map_toArray, List.map_cons, List.map_nil, e0, e5]
      refine (HC w' hW.m).mono ?_
      rintro e w2 ⟨⟨x, y, z, h1, hk⟩, h2⟩
      have n6 : ∀ k, (D k = true → D 6 = true) → D k = false := fun k h => by
        cases hk : D k with
        | false => rfl
        | true => rw [h hk] at hD; cases hD
      refine ⟨_, h1, _, rfl, ⟨fun j a hd => ?_, fun _ => ⟨x, y, z, hk, by simp, ?_⟩, hW.m.trans h2⟩⟩
      · have e : ¬ j = 6 := by omega
        have e2 : (j == 6) = false := by simpa using e
        simp only [e, if_false]
        simp only [e2, Bool.false_or] at hd
        exact hW.c j a hd
      · simp [n6 7 c7, n6 8 (c7 ∘ c8), n6 9 (c7 ∘ c9), n6 10 (c7 ∘ c10), n6 11 (c7 ∘ c8 ∘ c11), n6 12 (c7 ∘ c9 ∘ c12), n6 13 (c7 ∘ c10 ∘ c13)]
    · have h6 : D 6 = true := hdep ⟨6, .data⟩ (by simp) rfl
      obtain ⟨x, y, z, _, t6, _⟩ := hW.p h6
      exact step_run rfl _ _ (run_move rfl ((EV 6 86 (by decide) h6).trans t6)) ⟨_, rfl, hW.late h6 (by omega) (by omega) (fun _ _ _ he => t6.symm.trans he)⟩
    · have h7 : D 7 = true := hdep ⟨7, .data⟩ (by simp) rfl
      obtain ⟨x, y, z, _, t6, t7, _⟩ := hW.p (c7 h7)
      exact step_run rfl _ _ (run_extract 0 rfl ((EV 7 79 (by decide) h7).trans (t7 h7)) rfl) ⟨_, rfl, hW.late (c7 h7) (by omega) (by omega) (fun _ _ _ he => (tup3 (t6.symm.trans he)).1)⟩
    · have h7 : D 7 = true := hdep ⟨7, .data⟩ (by simp) rfl
      obtain ⟨x, y, z, _, t6, t7, _⟩ := hW.p (c7 h7)
      exact step_run rfl _ _ (run_extract 1 rfl ((EV 7 79 (by decide) h7).trans (t7 h7)) rfl) ⟨_, rfl, hW.late (c7 h7) (by omega) (by omega) (fun _ _ _ he => (tup3 (t6.symm.trans he)).2.1)⟩
    · have h7 : D 7 = true := hdep ⟨7, .data⟩ (by simp) rfl
      obtain ⟨x, y, z, _, t6, t7, _⟩ := hW.p (c7 h7)
      exact step_run rfl _ _ (run_extract 2 rfl ((EV 7 79 (by decide) h7).trans (t7 h7)) rfl) ⟨_, rfl, hW.late (c7 h7) (by omega) (by omega) (fun _ _ _ he => (tup3 (t6.symm.trans he)).2.2)⟩
    · have hq : D 8 = true := hdep ⟨8, .data⟩ (by simp) rfl
      obtain ⟨x, y, z, _, t6, t7, t8, t9, t10, _⟩ := hW.p (c7 (c8 hq))
      exact step_run rfl _ _ (run_assign rfl ((EV 8 87 (by decide) hq).trans (t8 hq))) ⟨_, rfl, hW.late (c7 (c8 hq)) (by omega) (by omega) (fun _ _ _ he => (tup3 (t6.symm.trans he)).1)⟩
    · have hq : D 9 = true := hdep ⟨9, .data⟩ (by simp) rfl
      obtain ⟨x, y, z, _, t6, t7, t8, t9, t10, _⟩ := hW.p (c7 (c9 hq))
      exact step_run rfl _ _ (run_assign rfl ((EV 9 88 (by decide) hq).trans (t9 hq))) ⟨_, rfl, hW.late (c7 (c9 hq)) (by omega) (by omega) (fun _ _ _ he => (tup3 (t6.symm.trans he)).2.1)⟩
    · have hq : D 10 = true := hdep ⟨10, .data⟩ (by simp) rfl
      obtain ⟨x, y, z, _, t6, t7, t8, t9, t10, _⟩ := hW.p (c7 (c10 hq))
      exact step_run rfl _ _ (run_assign rfl ((EV 10 89 (by decide) hq).trans (t10 hq))) ⟨_, rfl, hW.late (c7 (c10 hq)) (by omega) (by omega) (fun _ _ _ he => (tup3 (t6.symm.trans he)).2.2)⟩
  · intro vs D w' hall hW
    obtain ⟨x, y, z, hK, _, _, _, _, _, e11, e12, e13⟩ := hW.p (hall 6 (by decide))
    exact hend vs w' x y z (e11 (hall 11 (by decide))) (e12 (hall 12 (by decide))) (e13 (hall 13 (by decide))) hK hW.m

@[reducible] def cv0 : Oper := { dst := some 91, op := Op.load 24 (Operand.tmp 3), type := 24, pos := "outright.go:247", after := #[], guard := none }
@[reducible] def cv1 : Oper := { dst := some 92, op := Op.move (Operand.tmp 1), type := 33, pos := "outright.go:247", after := #[], guard := none }
@[reducible] def cv2 : Oper := { dst := some 93, op := Op.move (Operand.tmp 1), type := 33, pos := "outright.go:247", after := #[], guard := none }
@[reducible] def cv3 : Oper := { dst := some 94, op := Op.call { callee := Callee.builtin Builtin.len, args := #[Operand.tmp 93], argTypes := #[33] }, type := 3, pos := "outright.go:247", after := #[{ on := 2, ground := Ground.data }], guard := none }
@[reducible] def cv4 : Oper := { dst := some 95, op := Op.binOp BinOp.sub 3 (Operand.tmp 94) (Operand.const (Value.int IntKind.i64 1)) 3, type := 3, pos := "outright.go:247", after := #[{ on := 3, ground := Ground.data }], guard := none }
@[reducible] def cv5 : Oper := { dst := some 96, op := Op.slice 33 (Operand.tmp 92) none (some (Operand.tmp 95)) none, type := 33, pos := "outright.go:247", after := #[{ on := 1, ground := Ground.data }, { on := 4, ground := Ground.data }], guard := none }
@[reducible] def cv6 : Oper := { dst := some 97, op := Op.call { callee := Callee.value (Operand.func 20), args := #[Operand.tmp 91, Operand.tmp 96], argTypes := #[24, 33] }, type := 38, pos := "outright.go:247", after := #[{ on := 0, ground := Ground.data }, { on := 5, ground := Ground.data }], guard := none }
@[reducible] def cv7 : Oper := { dst := some 90, op := Op.move (Operand.tmp 97), type := 38, pos := "outright.go:247", after := #[{ on := 6, ground := Ground.data }], guard := none }
@[reducible] def cv8 : Oper := { dst := some 98, op := Op.extract (Operand.tmp 90) 0, type := 37, pos := "outright.go:247", after := #[{ on := 7, ground := Ground.data }], guard := none }
@[reducible] def cv9 : Oper := { dst := some 99, op := Op.extract (Operand.tmp 90) 1, type := 34, pos := "outright.go:247", after := #[{ on := 7, ground := Ground.data }, { on := 11, ground := Ground.gcOnly Departure.lateStores }], guard := none }
@[reducible] def cv10 : Oper := { dst := some 100, op := Op.extract (Operand.tmp 90) 2, type := 29, pos := "outright.go:247", after := #[{ on := 7, ground := Ground.data }, { on := 12, ground := Ground.gcOnly Departure.lateStores }], guard := none }
@[reducible] def cv11 : Oper := { dst := some 16, op := Op.assign (Operand.tmp 98), type := 37, pos := "outright.go:247", after := #[{ on := 8, ground := Ground.data }, { on := 6, ground := Ground.chain }, { on := 0, ground := Ground.phase }, { on := 1, ground := Ground.phase }, { on := 2, ground := Ground.phase }, { on := 3, ground := Ground.phase }, { on := 4, ground := Ground.phase }, { on := 5, ground := Ground.phase }, { on := 6, ground := Ground.phase }, { on := 7, ground := Ground.phase }, { on := 8, ground := Ground.phase }, { on := 9, ground := Ground.textOnly Departure.lateStores }, { on := 10, ground := Ground.textOnly Departure.lateStores }], guard := none }
@[reducible] def cv12 : Oper := { dst := some 17, op := Op.assign (Operand.tmp 99), type := 34, pos := "outright.go:247", after := #[{ on := 9, ground := Ground.data }, { on := 11, ground := Ground.chain }, { on := 0, ground := Ground.phase }, { on := 1, ground := Ground.phase }, { on := 2, ground := Ground.phase }, { on := 3, ground := Ground.phase }, { on := 4, ground := Ground.phase }, { on := 5, ground := Ground.phase }, { on := 6, ground := Ground.phase }, { on := 7, ground := Ground.phase }, { on := 8, ground := Ground.phase }, { on := 9, ground := Ground.phase }, { on := 10, ground := Ground.textOnly Departure.lateStores }, { on := 11, ground := Ground.phase }], guard := none }
@[reducible] def cv13 : Oper := { dst := some 18, op := Op.assign (Operand.tmp 100), type := 29, pos := "outright.go:247", after := #[{ on := 10, ground := Ground.data }, { on := 12, ground := Ground.chain }, { on := 0, ground := Ground.phase }, { on := 1, ground := Ground.phase }, { on := 2, ground := Ground.phase }, { on := 3, ground := Ground.phase }, { on := 4, ground := Ground.phase }, { on := 5, ground := Ground.phase }, { on := 6, ground := Ground.phase }, { on := 7, ground := Ground.phase }, { on := 8, ground := Ground.phase }, { on := 9, ground := Ground.phase }, { on := 10, ground := Ground.phase }, { on := 11, ground := Ground.phase }, { on := 12, ground := Ground.phase }], guard := none }
@[reducible] def cvOps : List Oper := [cv0, cv1, cv2, cv3, cv4, cv5, cv6, cv7, cv8, cv9, cv10, cv11, cv12, cv13]
@[reducible] def cvDs : List (Nat × Nat) := [(0, 91), (1, 92), (2, 93), (3, 94), (4, 95), (5, 96), (6, 97), (7, 90), (8, 98), (9, 99), (10, 100), (11, 16), (12, 17), (13, 18)]
theorem cvB : lowB cvOps = true := by kernel_rfl
theorem cvOk : okB cvOps cvDs 219 = true := by decide +kernel

set_option maxRecDepth 100000 in
set_option maxHeartbeats 4000000 in
theorem region_cv {rid : Nat} {Q : Exit → Act → World → Prop} {a0 : Act} {w : World} {ao : Option Addr} {cap : Nat} {d : Dye} {lo : Option Addr} {lb lf n lcap db : Nat} {P : Value → Value → Value → World → Prop} (hsz : a0.tmps.size = 219)
    (x3 : a0.eval (.tmp 3) = .pointer (some ⟨db, 0, none⟩)) (x1 : a0.eval (.tmp 1) = .slice lo n lcap) (hlo : lo = some ⟨lb, lf, none⟩) (hn : 1 ≤ n) (hnc : n ≤ lcap) (hcm : lcap ≤ 9223372036854775807) (hn2 : n ≤ 100)
    (hdie : w.heap[db]? = some (.cells (dyC ao d.bl.length cap d) 24))
    (HC : ∀ W, Mod noB w W → Calls Tryd.prog 20 #[dyV ao d.bl.length cap d, .slice lo (n - 1) lcap] W fun e w' => (∃ x y z, e = .returned (.tuple #[x, y, z]) ∧ Kept w' (P x y z)) ∧ Mod noB W w')
    (hend : ∀ (vs : Nat → Value) w' x y z, vs 11 = x → vs 12 = y → vs 13 = z → Kept w' (P x y z) → Mod noB w w' → Q .normal (cvDs.foldl (fun a x => a.put (some x.2) (vs x.1)) a0) w') : (Code.region rid cvOps.toArray true).wp Tryd.prog Q a0 w := by
  subst hlo
  refine region_word2 cvB cvDs 219 hsz cvOk (CuW (cuC ao cap d (some ⟨lb, lf, none⟩) n lcap) P w) ?_ ?_ ?_
  · exact ⟨fun _ _ h => absurd h (by decide), fun h => absurd h (by decide), (Mod.refl _ _).drew⟩
  · intro D vs i' o ρ w' hlt hcl ho hD hdep EV EO hW
    have far : ∀ s, s ∉ cvDs.map Prod.snd → ρ.eval (.tmp s) = a0.eval (.tmp s) := fun s hs => EO s fun x hx e => absurd (e ▸ List.mem_map.2 ⟨x, hx, rfl⟩ : s ∈ cvDs.map Prod.snd) hs
    have kn : ∀ j s', j < 6 → (∃ e ∈ o.after, Region.binds .any e = true ∧ e.on = j) → (j, s') ∈ cvDs → ρ.eval (.tmp s') = cuC ao cap d (some ⟨lb, lf, none⟩) n lcap j := fun j s' h1 ⟨e, he, hb, hje⟩ hm => (EV _ _ hm (hje ▸ hdep e he hb)).trans (hW.c j h1 (hje ▸ hdep e he hb))
    have c7 : D 7 = true → D 6 = true := fun h => hcl 7 cv7 rfl h ⟨6, .data⟩ (by simp) rfl
    have c8 : D 8 = true → D 7 = true := fun h => hcl 8 cv8 rfl h ⟨7, .data⟩ (by simp) rfl
    have c9 : D 9 = true → D 7 = true := fun h => hcl 9 cv9 rfl h ⟨7, .data⟩ (by simp) rfl
    have c10 : D 10 = true → D 7 = true := fun h => hcl 10 cv10 rfl h ⟨7, .data⟩ (by simp) rfl
    have c11 : D 11 = true → D 8 = true := fun h => hcl 11 cv11 rfl h ⟨8, .data⟩ (by simp) rfl
    have c12 : D 12 = true → D 9 = true := fun h => hcl 12 cv12 rfl h ⟨9, .data⟩ (by simp) rfl
    have c13 : D 13 = true → D 10 = true := fun h => hcl 13 cv13 rfl h ⟨10, .data⟩ (by simp) rfl
    have hlt' : i' < 14 := hlt
    rcases (by omega : i' = 0 ∨ i' = 1 ∨ i' = 2 ∨ i' = 3 ∨ i' = 4 ∨ i' = 5 ∨ i' = 6 ∨ i' = 7 ∨ i' = 8 ∨ i' = 9 ∨ i' = 10 ∨ i' = 11 ∨ i' = 12 ∨ i' = 13) with rfl | rfl | rfl | rfl | rfl | rfl | rfl | rfl | rfl | rfl | rfl | rfl | rfl | rfl
    all_goals (obtain rfl := Option.some.inj ho)
    · exact step_loadRow rfl 24 rfl db ((far 3 (by decide)).trans x3) _ 24 _ (hW.m.at hdie id) rfl Tryd.underlying24 info24 ⟨_, rfl, hW.read (by omega)⟩
    · exact step_run rfl _ _ (run_move rfl ((far 1 (by decide)).trans x1)) ⟨_, rfl, hW.read (by omega)⟩
    · exact step_run rfl _ _ (run_move rfl ((far 1 (by decide)).trans x1)) ⟨_, rfl, hW.read (by omega)⟩
    · exact step_run rfl _ _ (run_len33 rfl (kn 2 93 (by omega) ⟨⟨2, .data⟩, by simp, rfl, rfl⟩ (by decide))) ⟨_, rfl, hW.read (by omega)⟩
    · exact step_run rfl _ _ (run_sub rfl (kn 3 94 (by omega) ⟨⟨3, .data⟩, by simp, rfl, rfl⟩ (by decide)) rfl (show (n : Int) - 1 = ((n - 1 : Nat) : Int) by omega) (by omega) (by omega)) ⟨_, rfl, hW.read (by omega)⟩
    · exact step_run rfl _ _ (run_slice33 rfl (kn 1 92 (by omega) ⟨⟨1, .data⟩, by simp, rfl, rfl⟩ (by decide)) (kn 4 95 (by omega) ⟨⟨4, .data⟩, by simp, rfl, rfl⟩ (by decide)) (by omega) hnc hcm) ⟨_, rfl, hW.read (by omega)⟩
    · have e0 : ρ.eval (.tmp 91) = dyV ao d.bl.length cap d := kn 0 91 (by omega) ⟨⟨0, .data⟩, by simp, rfl, rfl⟩ (by decide)
      have e5 : ρ.eval (.tmp 96) = .slice (some ⟨lb, lf, none⟩) (n - 1) lcap := kn 5 96 (by omega) ⟨⟨5, .data⟩, by simp, rfl, rfl⟩ (by decide)
      refine step_call rfl 20 _ _ rfl enter20 ?_
      simp only [List.map_toArray, List.map_cons, List.map_nil, e0, e5]
      refine (HC w' hW.m).mono ?_
      rintro e w2 ⟨⟨x, y, z, h1, hk⟩, h2⟩
      have n6 : ∀ k, (D k = true → D 6 = true) → D k = false := fun k h => by
        cases hk : D k with
        | false => rfl
        | true => rw [h hk] at hD; cases hD
      refine ⟨_, h1, _, rfl, ⟨fun j a hd => ?_, fun _ => ⟨x, y, z, hk, by simp, ?_⟩, hW.m.trans h2⟩⟩
      · have e : ¬ j = 6 := by omega
        have e2 : (j == 6) = false := by simpa using e
        simp only [e, if_false]
        simp only [e2, Bool.false_or] at hd
        exact hW.c j a hd
      · simp [n6 7 c7, n6 8 (c7 ∘ c8), n6 9 (c7 ∘ c9), n6 10 (c7 ∘ c10), n6 11 (c7 ∘ c8 ∘ c11), n6 12 (c7 ∘ c9 ∘ c12), n6 13 (c7 ∘ c10 ∘ c13)]
    · have h6 : D 6 = true := hdep ⟨6, .data⟩ (by simp) rfl
      obtain ⟨x, y, z, _, t6, _⟩ := hW.p h6
      exact step_run rfl _ _ (run_move rfl ((EV 6 97 (by decide) h6).trans t6)) ⟨_, rfl, hW.late h6 (by omega) (by omega) (fun _ _ _ he => t6.symm.trans he)⟩
    · have h7 : D 7 = true := hdep ⟨7, .data⟩ (by simp) rfl
      obtain ⟨x, y, z, _, t6, t7, _⟩ := hW.p (c7 h7)
      exact step_run rfl _ _ (run_extract 0 rfl ((EV 7 90 (by decide) h7).trans (t7 h7)) rfl) ⟨_, rfl, hW.late (c7 h7) (by omega) (by omega) (fun _ _ _ he => (tup3 (t6.symm.trans he)).1)⟩
    · have h7 : D 7 = true := hdep ⟨7, .data⟩ (by simp) rfl
      obtain ⟨x, y, z, _, t6, t7, _⟩ := hW.p (c7 h7)
      exact step_run rfl _ _ (run_extract 1 rfl ((EV 7 90 (by decide) h7).trans (t7 h7)) rfl) ⟨_, rfl, hW.late (c7 h7) (by omega) (by omega) (fun _ _ _ he => (tup3 (t6.symm.trans he)).2.1)⟩
    · have h7 : D 7 = true := hdep ⟨7, .data⟩ (by simp) rfl
      obtain ⟨x, y, z, _, t6, t7, _⟩ := hW.p (c7 h7)
      exact step_run rfl _ _ (run_extract 2 rfl ((EV 7 90 (by decide) h7).trans (t7 h7)) rfl) ⟨_, rfl, hW.late (c7 h7) (by omega) (by omega) (fun _ _ _ he => (tup3 (t6.symm.trans he)).2.2)⟩
    · have hq : D 8 = true := hdep ⟨8, .data⟩ (by simp) rfl
      obtain ⟨x, y, z, _, t6, t7, t8, t9, t10, _⟩ := hW.p (c7 (c8 hq))
      exact step_run rfl _ _ (run_assign rfl ((EV 8 98 (by decide) hq).trans (t8 hq))) ⟨_, rfl, hW.late (c7 (c8 hq)) (by omega) (by omega) (fun _ _ _ he => (tup3 (t6.symm.trans he)).1)⟩
    · have hq : D 9 = true := hdep ⟨9, .data⟩ (by simp) rfl
      obtain ⟨x, y, z, _, t6, t7, t8, t9, t10, _⟩ := hW.p (c7 (c9 hq))
      exact step_run rfl _ _ (run_assign rfl ((EV 9 99 (by decide) hq).trans (t9 hq))) ⟨_, rfl, hW.late (c7 (c9 hq)) (by omega) (by omega) (fun _ _ _ he => (tup3 (t6.symm.trans he)).2.1)⟩
    · have hq : D 10 = true := hdep ⟨10, .data⟩ (by simp) rfl
      obtain ⟨x, y, z, _, t6, t7, t8, t9, t10, _⟩ := hW.p (c7 (c10 hq))
      exact step_run rfl _ _ (run_assign rfl ((EV 10 100 (by decide) hq).trans (t10 hq))) ⟨_, rfl, hW.late (c7 (c10 hq)) (by omega) (by omega) (fun _ _ _ he => (tup3 (t6.symm.trans he)).2.2)⟩
  · intro vs D w' hall hW
    obtain ⟨x, y, z, hK, _, _, _, _, _, e11, e12, e13⟩ := hW.p (hall 6 (by decide))
    exact hend vs w' x y z (e11 (hall 11 (by decide))) (e12 (hall 12 (by decide))) (e13 (hall 13 (by decide))) hK hW.m

end Go.Proofs.YtdncppempgpooaaDoor

/- RuleLess: blades appended to blades. -/
namespace Go.Proofs.YtdncppempgpooaaDoor
open Go Go.RowKit Go.Shelf Go.Maps Go.WideMaps

def flatB (L : List Bld) : List Value := L.flatMap fun b => (blC b).toList
theorem flatB_len (L : List Bld) : (flatB L).length = L.length * 4 := by
  induction L with
  | nil => rfl
  | cons b L ih => simp only [flatB, List.flatMap_cons, List.length_append] at ih ⊢; rw [ih]; simp; omega
theorem flatB_append (L M : List Bld) : flatB (L ++ M) = flatB L ++ flatB M := by simp [flatB]
theorem flatB_one (L : List Bld) : ∀ u ∈ flatB L, u.oneCell' = true := by
  intro u hu
  obtain ⟨b, _, h⟩ := List.mem_flatMap.1 hu
  simp at h
  rcases h with rfl | rfl | rfl | rfl <;> rfl
theorem info53 : (Tryd.prog.info? 53).map (fun i => (i.zero, i.size, i.bytes)) = some (some (blV ⟨(0, 0), (0, 0)⟩), 4, 32) := by kernel_rfl
/-- A list of blades of one's own. -/
def OwnB (base : Nat) (v : Value) (n : Nat) (L : List Bld) (W : World) : Prop := W.ownsRow base 53 4 v n (flatB L) ∧ ∃ g cap, v = .slice (some ⟨g, 0, none⟩) n cap ∧ n ≤ cap

theorem run_build22 {o : Oper} {a : Act} {w : World} (hop : o.op = .buildSlice 22 0 #[]) : (execOp a.eval o).run Tryd.prog w = .ok (.value (.slice (some ⟨w.heap.size, 0, none⟩) 0 0)) (w.alloc (.cells #[] 53)) := by
  simp only [execOp, hop]
  go_simp
  done
theorem own_build (w : World) : OwnB w.heap.size (.slice (some ⟨w.heap.size, 0, none⟩) 0 0) 0 [] (w.alloc (.cells #[] 53)) :=
  ⟨⟨rfl, .inr ⟨w.heap.size, 0, #[], rfl, Nat.le_refl _, World.alloc_heap_new _ _, Nat.le_refl _, by decide, rfl, rfl⟩⟩, _, _, rfl, Nat.le_refl _⟩

theorem own_le {base n cap g : Nat} {W : World} {xs : List Value} (h : W.ownsRow base 53 4 (.slice (some ⟨g, 0, none⟩) n cap) n xs) : n ≤ cap := by
  rcases h.2 with ⟨h, _⟩ | ⟨g', cap', cur, hv, _, _, h1, _⟩
  · cases h
  · cases hv; exact h1

set_option maxHeartbeats 1000000 in
theorem app_blades {ops : Array Oper} {rest : List Oper} {o : Oper} {ρ : Act} {Q : Exit → Act → World → Prop} {W : World} {s x : Operand} {base n m c : Nat} {v : Value} {L1 L2 : List Bld} {ad : Addr} (hgd : o.guard = none)
    (hop : o.op = Op.call { callee := Callee.builtin Builtin.append, args := #[s, x], argTypes := #[22, 22] }) (hs : ρ.eval s = v) (hown : OwnB base v n L1 W) (hx : ρ.eval x = .slice (some ad) m c) (hm : L2.length = m)
    (hnews : ∀ j u, (flatB L2)[j]? = some u → W.cell? (ad.add j) = some u) (hb : base ≤ W.heap.size) (hsm : n + m ≤ 100)
    (h : ∀ v' w', OwnB base v' (n + m) (L1 ++ L2) w' → Mod (fun j => base ≤ j) W w' → wpList Tryd.prog ops Q rest (ρ.put o.dst v') w') : wpList Tryd.prog ops Q (o :: rest) ρ W := by
  obtain ⟨i0, hi, hz0, hz1, hz2⟩ := info_parts info53
  obtain ⟨hrow, g, cap, rfl, hncap⟩ := hown
  rcases Nat.eq_zero_or_pos m with h0 | h0
  · subst h0
    have hL2 : L2 = [] := List.length_eq_zero_iff.1 hm
    subst hL2
    have hrow' := hrow
    rcases hrow.2 with ⟨hno, _⟩ | ⟨g', cap', cur, hv, hg1, hg2, hg3, hg4, hg5, hg6⟩
    · cases hno
    · cases hv
      have hcl : ∀ j u, (flatB L1)[j]? = some u → W.cell? ⟨g, 0 + j, none⟩ = some u := fun j u hj => by
        rw [Nat.zero_add, cellsAt hg2]
        rw [← hg6] at hj
        have hlt := (List.getElem?_eq_some_iff.1 hj).1
        rw [List.getElem?_take_of_lt (by rw [List.length_take] at hlt; omega), Array.getElem?_toList] at hj
        exact hj
      refine wpList_append_arg W hgd s x 22 hop 53 i0 (blV ⟨(0, 0), (0, 0)⟩) 4 32 Tryd.underlying22 hi hz0 hz1 hz2 rfl (by decide) g 0 n cap (flatB L1) hs hrow.1 hcl ad 0 c [] hx rfl (fun j u hj => by simp at hj) (fun u hu => by simp at hu) (fun _ j hj => by simp at hj) (by unfold maxLen; omega) (by omega) ?_ (fun hh => by omega)
      intro _
      have hw : W.setCells g (0 + n * 4) [] = W := rfl
      rw [hw]
      exact h _ _ ⟨by rw [List.append_nil]; exact hrow', g, cap, rfl, hncap⟩ (Mod.refl _ _)
  · refine wpList_append_own_at _ hgd s x 22 hop base 53 i0 (blV ⟨(0, 0), (0, 0)⟩) 4 32 Tryd.underlying22 hi hz0 hz1 hz2 rfl (by decide) _ n (flatB L1) hs hrow ad m c (flatB L2) hx (by rw [flatB_len, hm]) hnews (flatB_one _) (by unfold maxLen; omega) (by omega) hb ?_
    intro v' w2 hown2 hgr _ _
    rcases hown2.2 with ⟨_, hz⟩ | ⟨g2, cap2, _, rfl, _⟩
    · omega
    refine h _ _ ⟨by rw [flatB_append]; exact hown2, g2, cap2, rfl, own_le hown2⟩ (Mod.of_grownBy hgr fun r hr _ => (own_block hrow hr).1)
end Go.Proofs.YtdncppempgpooaaDoor

/- RuleLess: the region that takes a blade out of the die. -/
namespace Go.Proofs.YtdncppempgpooaaDoor
open Go Go.RowKit Go.Shelf Go.Maps Go.WideMaps

@[reducible] def fw0 : Oper := { dst := some 171, op := Op.buildSlice 22 0 #[], type := 22, pos := "outright.go:257", after := #[], guard := none }
@[reducible] def fw1 : Oper := { dst := some 172, op := Op.fieldAddr 24 (Operand.tmp 3) 0, type := 0, pos := "outright.go:257", after := #[], guard := none }
@[reducible] def fw2 : Oper := { dst := some 173, op := Op.load 22 (Operand.tmp 172), type := 22, pos := "outright.go:257", after := #[{ on := 1, ground := Ground.data }], guard := none }
@[reducible] def fw3 : Oper := { dst := some 174, op := Op.move (Operand.tmp 19), type := 3, pos := "outright.go:257", after := #[], guard := none }
@[reducible] def fw4 : Oper := { dst := some 175, op := Op.slice 22 (Operand.tmp 173) none (some (Operand.tmp 174)) none, type := 22, pos := "outright.go:257", after := #[{ on := 2, ground := Ground.data }, { on := 3, ground := Ground.data }], guard := none }
@[reducible] def fw5 : Oper := { dst := some 176, op := Op.call { callee := Callee.builtin Builtin.append, args := #[Operand.tmp 171, Operand.tmp 175], argTypes := #[22, 22] }, type := 22, pos := "outright.go:257", after := #[{ on := 0, ground := Ground.data }, { on := 4, ground := Ground.data }], guard := none }
@[reducible] def fw6 : Oper := { dst := some 177, op := Op.fieldAddr 24 (Operand.tmp 3) 0, type := 0, pos := "outright.go:257", after := #[], guard := none }
@[reducible] def fw7 : Oper := { dst := some 178, op := Op.load 22 (Operand.tmp 177), type := 22, pos := "outright.go:257", after := #[{ on := 6, ground := Ground.data }], guard := none }
@[reducible] def fw8 : Oper := { dst := some 179, op := Op.move (Operand.tmp 19), type := 3, pos := "outright.go:257", after := #[], guard := none }
@[reducible] def fw9 : Oper := { dst := some 180, op := Op.binOp BinOp.add 3 (Operand.tmp 179) (Operand.const (Value.int IntKind.i64 1)) 3, type := 3, pos := "outright.go:257", after := #[{ on := 8, ground := Ground.data }], guard := none }
@[reducible] def fw10 : Oper := { dst := some 181, op := Op.slice 22 (Operand.tmp 178) (some (Operand.tmp 180)) none none, type := 22, pos := "outright.go:257", after := #[{ on := 7, ground := Ground.data }, { on := 9, ground := Ground.data }], guard := none }
@[reducible] def fw11 : Oper := { dst := some 182, op := Op.call { callee := Callee.builtin Builtin.append, args := #[Operand.tmp 176, Operand.tmp 181], argTypes := #[22, 22] }, type := 22, pos := "outright.go:257", after := #[{ on := 5, ground := Ground.data }, { on := 10, ground := Ground.data }, { on := 5, ground := Ground.chain }], guard := none }
@[reducible] def fw12 : Oper := { dst := some 183, op := Op.fieldAddr 24 (Operand.tmp 20) 0, type := 0, pos := "outright.go:257", after := #[{ on := 0, ground := Ground.phase }, { on := 1, ground := Ground.phase }, { on := 2, ground := Ground.phase }, { on := 3, ground := Ground.phase }, { on := 4, ground := Ground.phase }, { on := 5, ground := Ground.phase }, { on := 6, ground := Ground.phase }, { on := 7, ground := Ground.phase }, { on := 8, ground := Ground.phase }, { on := 9, ground := Ground.phase }, { on := 10, ground := Ground.phase }, { on := 11, ground := Ground.phase }], guard := none }
@[reducible] def fw13 : Oper := { dst := none, op := Op.store 22 (Operand.tmp 183) (Operand.tmp 182), type := 0, pos := "outright.go:257", after := #[{ on := 12, ground := Ground.data }, { on := 11, ground := Ground.data }, { on := 11, ground := Ground.chain }, { on := 0, ground := Ground.phase }, { on := 1, ground := Ground.phase }, { on := 2, ground := Ground.phase }, { on := 3, ground := Ground.phase }, { on := 4, ground := Ground.phase }, { on := 5, ground := Ground.phase }, { on := 6, ground := Ground.phase }, { on := 7, ground := Ground.phase }, { on := 8, ground := Ground.phase }, { on := 9, ground := Ground.phase }, { on := 10, ground := Ground.phase }, { on := 11, ground := Ground.phase }], guard := none }
@[reducible] def fwOps : List Oper := [fw0, fw1, fw2, fw3, fw4, fw5, fw6, fw7, fw8, fw9, fw10, fw11, fw12, fw13]
@[reducible] def fwDs : List (Nat × Nat) := [(0, 171), (1, 172), (2, 173), (3, 174), (4, 175), (5, 176), (6, 177), (7, 178), (8, 179), (9, 180), (10, 181), (11, 182), (12, 183)]
theorem fwB : lowB fwOps = true := by kernel_rfl
theorem fwOk : okB fwOps fwDs 219 = true := by decide +kernel
section
variable {o : Oper} {a : Act} {w : World} {x y z : Operand}
theorem run_slice22a (hop : o.op = .slice 22 x none (some y) none) {b f n c k : Nat} (hx : a.eval x = .slice (some ⟨b, f, none⟩) n c) (hy : a.eval y = .int .i64 k) (hk : k ≤ n) (hc : n ≤ c) (hcm : c ≤ 9223372036854775807) : (execOp a.eval o).run Tryd.prog w = .ok (.value (.slice (some ⟨b, f, none⟩) k c)) w := by
  have h1 : (k : Int) ≤ c := by omega
  have h0 : (0 : Int) ≤ k := by omega
  have h3 : k ≤ c := by omega
  simp only [execOp, hop, Option.map_some, Option.map_none, hx, hy]
  go_simp
  done
theorem run_slice22b (hop : o.op = .slice 22 x (some y) none none) {b f n c k : Nat} (hx : a.eval x = .slice (some ⟨b, f, none⟩) n c) (hy : a.eval y = .int .i64 ((k : Int) + 1)) (hk : k < n) (hc : n ≤ c) (hm : c ≤ 9223372036854775807) : (execOp a.eval o).run Tryd.prog w = .ok (.value (.slice (if c = k + 1 then some ⟨b, f, none⟩ else some ⟨b, f + (k + 1) * 4, none⟩) (n - (k + 1)) (c - (k + 1)))) w := by
  have h1 : (k : Int) + 1 ≤ n := by omega
  have h0 : 0 ≤ (k : Int) + 1 := by omega
  simp only [execOp, hop, Option.map_some, Option.map_none, hx, hy]
  go_simp
  done
end
theorem flat_cell {u : Value} : ∀ (L : List Bld) (j : Nat), (flatB L)[j]? = some u → ∃ x, L[j / 4]? = some x ∧ (blC x)[j % 4]? = some u := by
  intro L
  induction L with
  | nil => intro j h; simp [flatB] at h
  | cons b L ih =>
    intro j h
    have e : flatB (b :: L) = (blC b).toList ++ flatB L := by simp [flatB]
    rw [e] at h
    rcases Nat.lt_or_ge j 4 with hj | hj
    · rw [List.getElem?_append_left (by simpa using hj)] at h
      refine ⟨b, by rw [show j / 4 = 0 by omega]; rfl, ?_⟩
      rw [show j % 4 = j by omega]
      simpa using h
    · rw [List.getElem?_append_right (by simpa using hj)] at h
      obtain ⟨x, h1, h2⟩ := ih (j - 4) (by simpa using h)
      refine ⟨x, ?_, ?_⟩
      · rw [show j / 4 = (j - 4) / 4 + 1 by omega, List.getElem?_cons_succ]; exact h1
      · rw [show j % 4 = (j - 4) % 4 by omega]; exact h2
/-- Cells of a part of the blades. -/
theorem part_cells {W : World} {ab af : Nat} {l L : List Bld} {k : Nat} (h : ∀ i x, l[i]? = some x → ∀ j, j < 4 → W.cell? ⟨ab, af + i * 4 + j, none⟩ = (blC x)[j]?) (hL : ∀ i x, L[i]? = some x → l[k + i]? = some x) : ∀ j u, (flatB L)[j]? = some u → W.cell? (Addr.add ⟨ab, af + k * 4, none⟩ j) = some u := fun j u hj => by
  obtain ⟨x, h1, h2⟩ := flat_cell L j hj
  have := h _ x (hL _ x h1) (j % 4) (by omega)
  rw [h2] at this
  rw [Addr.add_lit, ← this]
  congr 2
  omega

structure FeW (ab af cap wn db fb : Nat) (d : Dye) (w : World) (D : Nat → Bool) (vs : Nat → Value) (w' : World) : Prop where
  c1 : D 1 = true → vs 1 = .pointer (some ⟨db, 0, none⟩)
  c2 : D 2 = true → vs 2 = .slice (some ⟨ab, af, none⟩) d.bl.length cap
  c3 : D 3 = true → vs 3 = .int .i64 wn
  c4 : D 4 = true → vs 4 = .slice (some ⟨ab, af, none⟩) wn cap
  c6 : D 6 = true → vs 6 = .pointer (some ⟨db, 0, none⟩)
  c7 : D 7 = true → vs 7 = .slice (some ⟨ab, af, none⟩) d.bl.length cap
  c8 : D 8 = true → vs 8 = .int .i64 wn
  c9 : D 9 = true → vs 9 = .int .i64 ((wn : Int) + 1)
  c10 : D 10 = true → vs 10 = .slice (if cap = wn + 1 then some ⟨ab, af, none⟩ else some ⟨ab, af + (wn + 1) * 4, none⟩) (d.bl.length - (wn + 1)) (cap - (wn + 1))
  c12 : D 12 = true → vs 12 = .pointer (some ⟨fb, 0, none⟩)
  o0 : D 0 = true → D 5 = false → OwnB w.heap.size (vs 0) 0 [] w'
  o5 : D 5 = true → D 11 = false → OwnB w.heap.size (vs 5) wn (d.bl.take wn) w'
  o11 : D 11 = true → OwnB w.heap.size (vs 11) (fewD d wn).bl.length (fewD d wn).bl w'
  s0 : D 13 = false → w'.heap[fb]? = some (.cells (dyC (some ⟨ab, af, none⟩) d.bl.length cap d) 24)
  s1 : D 13 = true → D 11 = true ∧ w'.heap[fb]? = some (.cells #[vs 11, .int .i64 d.bound, .int .i64 d.stop, .int .i64 d.bend] 24)
  m : Mod (fun j => j = fb) w w'
theorem FeW.pure {ab af cap wn db fb : Nat} {d : Dye} {w : World} {D : Nat → Bool} {vs : Nat → Value} {w' : World} (h : FeW ab af cap wn db fb d w D vs w') {i : Nat} (v : Value) (h0 : i ≠ 0) (h5 : i ≠ 5) (h11 : i ≠ 11) (h13 : i ≠ 13)
    (hv : match i with | 1 | 6 => v = .pointer (some ⟨db, 0, none⟩) | 2 | 7 => v = .slice (some ⟨ab, af, none⟩) d.bl.length cap | 3 | 8 => v = .int .i64 wn | 4 => v = .slice (some ⟨ab, af, none⟩) wn cap | 9 => v = .int .i64 ((wn : Int) + 1) | 10 => v = .slice (if cap = wn + 1 then some ⟨ab, af, none⟩ else some ⟨ab, af + (wn + 1) * 4, none⟩) (d.bl.length - (wn + 1)) (cap - (wn + 1)) | 12 => v = .pointer (some ⟨fb, 0, none⟩) | _ => False) :
    FeW ab af cap wn db fb d w (fun j => j == i || D j) (fun j => if j = i then v else vs j) w' := by
  have hi : i = 1 ∨ i = 2 ∨ i = 3 ∨ i = 4 ∨ i = 6 ∨ i = 7 ∨ i = 8 ∨ i = 9 ∨ i = 10 ∨ i = 12 := by
    rcases i with _ | _ | _ | _ | _ | _ | _ | _ | _ | _ | _ | _ | _ | i <;> first | omega | exact absurd hv (by simp) | skip
  obtain ⟨c1, c2, c3, c4, c6, c7, c8, c9, c10, c12, o0, o5, o11, s0, s1, m⟩ := h
  rcases hi with rfl | rfl | rfl | rfl | rfl | rfl | rfl | rfl | rfl | rfl
  all_goals
    simp only at hv
    constructor <;> first | assumption | (intro _; exact hv) | skip

theorem step_store22 {ops : Array Oper} {K : Act → World → Prop} {o : Oper} {a : Act} {w : World} {x y : Operand} (hg : o.guard = none) (hop : o.op = .store 22 x y) {b : Nat} (hx : a.eval x = .pointer (some ⟨b, 0, none⟩)) {ao : Option Addr} {n cap : Nat} (hy : a.eval y = .slice ao n cap) {u0 u1 u2 u3 : Value} {t : TypeId} (hb : w.heap[b]? = some (.cells #[u0, u1, u2, u3] t)) (h : K (a.put o.dst undef) (w.setCell ⟨b, 0, none⟩ (.slice ao n cap))) : wpList Tryd.prog ops (only K) [o] a w := by
  refine wpList_plain hg fun K' hK => ?_
  have c0 : w.cell? ⟨b, 0, none⟩ = some u0 := cellsAt hb 0
  have f0 := frozen_at hb 0
  unfold Oper.wp
  simp only [execOp, hop, hx, hy]
  go_simp
  exact hK _ _ ⟨rfl, h⟩
theorem OwnB.same {base n : Nat} {v : Value} {L : List Bld} {W W' : World} (h : OwnB base v n L W) (hs : ∀ r, base ≤ r → r < W.heap.size → W'.heap[r]? = W.heap[r]?) : OwnB base v n L W' :=
  ⟨own_same h.1 (fun r hr => by obtain ⟨h1, cur, h2⟩ := own_block h.1 hr; exact hs r h1 (at_ltS h2)), h.2⟩
theorem own_build2 {base : Nat} {w : World} (h : base ≤ w.heap.size) : OwnB base (.slice (some ⟨w.heap.size, 0, none⟩) 0 0) 0 [] (w.alloc (.cells #[] 53)) :=
  ⟨⟨rfl, .inr ⟨w.heap.size, 0, #[], rfl, h, World.alloc_heap_new _ _, Nat.le_refl _, by decide, rfl, rfl⟩⟩, _, _, rfl, Nat.le_refl _⟩

set_option maxRecDepth 100000 in
set_option maxHeartbeats 4000000 in
theorem region_few {rid : Nat} {Q : Exit → Act → World → Prop} {a0 : Act} {w : World} {ab af cap wn db fb B : Nat} {d : Dye} (hsz : a0.tmps.size = 219)
    (x3 : a0.eval (.tmp 3) = .pointer (some ⟨db, 0, none⟩)) (x19 : a0.eval (.tmp 19) = .int .i64 wn) (x20 : a0.eval (.tmp 20) = .pointer (some ⟨fb, 0, none⟩))
    (hw : wn < d.bl.length) (h5 : d.bl.length ≤ 5) (hcap : d.bl.length ≤ cap) (hcm : cap ≤ 9223372036854775807) (hne : fb ≠ db)
    (hdie : w.heap[db]? = some (.cells (dyC (some ⟨ab, af, none⟩) d.bl.length cap d) 24)) (hfew : w.heap[fb]? = some (.cells (dyC (some ⟨ab, af, none⟩) d.bl.length cap d) 24))
    (hbl : BladesAt B w (some ⟨ab, af, none⟩) d.bl) (hB : B ≤ w.heap.size) (hfB : B ≤ fb)
    (hend : ∀ (vs : Nat → Value) w' v, w'.heap[fb]? = some (.cells #[v, .int .i64 d.bound, .int .i64 d.stop, .int .i64 d.bend] 24) → OwnB w.heap.size v (fewD d wn).bl.length (fewD d wn).bl w' → Mod (fun j => j = fb) w w' → Q .normal (fwDs.foldl (fun a x => a.put (some x.2) (vs x.1)) a0) w') : (Code.region rid fwOps.toArray true).wp Tryd.prog Q a0 w := by
  have hfl := at_ltS hfew
  obtain ⟨b0, o0, hb0, hab, hcells⟩ := hbl.lies (fun e => by rw [e] at hw; simp at hw)
  obtain ⟨rfl, rfl⟩ : ab = b0 ∧ af = o0 := by
    have := Option.some.inj hb0
    exact ⟨congrArg Addr.block this, congrArg Addr.off this⟩
  have hl : (fewD d wn).bl.length = wn + (d.bl.length - (wn + 1)) := by simp; omega
  refine region_word2 fwB fwDs 219 hsz fwOk (FeW ab af cap wn db fb d w) ?_ ?_ ?_
  · exact ⟨fun h => absurd h (by decide), fun h => absurd h (by decide), fun h => absurd h (by decide), fun h => absurd h (by decide), fun h => absurd h (by decide), fun h => absurd h (by decide), fun h => absurd h (by decide), fun h => absurd h (by decide), fun h => absurd h (by decide), fun h => absurd h (by decide), fun h => absurd h (by decide), fun h => absurd h (by decide), fun h => absurd h (by decide), fun _ => hfew, fun h => absurd h (by decide), (Mod.refl _ _).drew⟩
  · intro D vs i' o ρ w' hlt hcl ho hD hdep EV EO hW
    have far : ∀ s, s ∉ fwDs.map Prod.snd → ρ.eval (.tmp s) = a0.eval (.tmp s) := fun s hs => EO s fun x hx e => absurd (e ▸ List.mem_map.2 ⟨x, hx, rfl⟩ : s ∈ fwDs.map Prod.snd) hs
    have k5 : D 5 = true → D 0 = true := fun h => hcl 5 fw5 rfl h ⟨0, .data⟩ (by simp) rfl
    have k11 : D 11 = true → D 5 = true := fun h => hcl 11 fw11 rfl h ⟨5, .data⟩ (by simp) rfl
    have k13 : D 13 = true → D 11 = true := fun h => hcl 13 fw13 rfl h ⟨11, .data⟩ (by simp) rfl
    have hdw : w'.heap[db]? = some (.cells (dyC (some ⟨ab, af, none⟩) d.bl.length cap d) 24) := hW.m.at hdie (fun e => hne e.symm)
    have hcw : ∀ i x, d.bl[i]? = some x → ∀ j, j < 4 → w'.cell? ⟨ab, af + i * 4 + j, none⟩ = (blC x)[j]? := fun i x hx j hj => (cell_same (hW.m.block ab (by omega) (by omega)) _).trans (hcells i x hx j hj)
    have hsz' := hW.m.size
    have hlt' : i' < 14 := hlt
    rcases (by omega : i' = 0 ∨ i' = 1 ∨ i' = 2 ∨ i' = 3 ∨ i' = 4 ∨ i' = 5 ∨ i' = 6 ∨ i' = 7 ∨ i' = 8 ∨ i' = 9 ∨ i' = 10 ∨ i' = 11 ∨ i' = 12 ∨ i' = 13) with rfl | rfl | rfl | rfl | rfl | rfl | rfl | rfl | rfl | rfl | rfl | rfl | rfl | rfl
    all_goals (obtain rfl := Option.some.inj ho)
    · have no0 : ∀ {p : Prop}, D 0 = true → p := fun h => by rw [hD] at h; cases h
      exact step_run rfl _ _ (run_build22 rfl) ⟨_, rfl, ⟨hW.c1, hW.c2, hW.c3, hW.c4, hW.c6, hW.c7, hW.c8, hW.c9, hW.c10, hW.c12, fun _ _ => own_build2 hsz', fun h => no0 (k5 h), fun h => no0 (k5 (k11 h)), fun h => ((Mod.refl noB w').alloc _).at (hW.s0 h) id, fun h => no0 (k5 (k11 (k13 h))), hW.m.alloc _⟩⟩
    · exact step_run rfl _ _ (run_field24 rfl ((far 3 (by decide)).trans x3)) ⟨_, rfl, hW.pure _ (by omega) (by omega) (by omega) (by omega) rfl⟩
    · have g : D 1 = true := hdep ⟨1, .data⟩ (by simp) rfl
      exact step_run rfl _ _ (run_load22 rfl ((EV 1 172 (by decide) g).trans (hW.c1 g)) (cellsAt hdw 0)) ⟨_, rfl, hW.pure _ (by omega) (by omega) (by omega) (by omega) rfl⟩
    · exact step_run rfl _ _ (run_move rfl ((far 19 (by decide)).trans x19)) ⟨_, rfl, hW.pure _ (by omega) (by omega) (by omega) (by omega) rfl⟩
    · have g2 : D 2 = true := hdep ⟨2, .data⟩ (by simp) rfl
      have g3 : D 3 = true := hdep ⟨3, .data⟩ (by simp) rfl
      exact step_run rfl _ _ (run_slice22a rfl ((EV 2 173 (by decide) g2).trans (hW.c2 g2)) ((EV 3 174 (by decide) g3).trans (hW.c3 g3)) (by omega) hcap hcm) ⟨_, rfl, hW.pure _ (by omega) (by omega) (by omega) (by omega) rfl⟩
    · have no5 : ∀ {p : Prop}, D 5 = true → p := fun h => by rw [hD] at h; cases h
      have g0 : D 0 = true := hdep ⟨0, .data⟩ (by simp) rfl
      have g4 : D 4 = true := hdep ⟨4, .data⟩ (by simp) rfl
      have hp := part_cells (k := 0) (L := d.bl.take wn) hcw (fun i x h => by
        have hlt := (List.getElem?_eq_some_iff.1 h).1
        rw [List.getElem?_take_of_lt (by rw [List.length_take] at hlt; omega)] at h
        rw [Nat.zero_add]; exact h)
      rw [Nat.zero_mul, Nat.add_zero] at hp
      refine app_blades rfl rfl (EV 0 171 (by decide) g0) (hW.o0 g0 hD) ((EV 4 175 (by decide) g4).trans (hW.c4 g4)) (L2 := d.bl.take wn) (by rw [List.length_take]; omega) hp hsz' (by omega) ?_
      intro v' w2 hown hm
      rw [Nat.zero_add, List.nil_append] at hown
      exact wpList_nil ⟨rfl, v', rfl, ⟨hW.c1, hW.c2, hW.c3, hW.c4, hW.c6, hW.c7, hW.c8, hW.c9, hW.c10, hW.c12, fun _ h => absurd h (by simp), fun _ _ => hown, fun h => no5 (k11 h), fun h => hm.at (hW.s0 h) (by omega), fun h => no5 (k11 (k13 h)), hW.m.then hm (fun i h1 h2 => by omega)⟩⟩
    · exact step_run rfl _ _ (run_field24 rfl ((far 3 (by decide)).trans x3)) ⟨_, rfl, hW.pure _ (by omega) (by omega) (by omega) (by omega) rfl⟩
    · have g : D 6 = true := hdep ⟨6, .data⟩ (by simp) rfl
      exact step_run rfl _ _ (run_load22 rfl ((EV 6 177 (by decide) g).trans (hW.c6 g)) (cellsAt hdw 0)) ⟨_, rfl, hW.pure _ (by omega) (by omega) (by omega) (by omega) rfl⟩
    · exact step_run rfl _ _ (run_move rfl ((far 19 (by decide)).trans x19)) ⟨_, rfl, hW.pure _ (by omega) (by omega) (by omega) (by omega) rfl⟩
    · have g8 : D 8 = true := hdep ⟨8, .data⟩ (by simp) rfl
      exact step_run rfl _ _ (run_add rfl ((EV 8 179 (by decide) g8).trans (hW.c8 g8)) rfl rfl (by omega) (by omega)) ⟨_, rfl, hW.pure _ (by omega) (by omega) (by omega) (by omega) rfl⟩
    · have g7 : D 7 = true := hdep ⟨7, .data⟩ (by simp) rfl
      have g9 : D 9 = true := hdep ⟨9, .data⟩ (by simp) rfl
      exact step_run rfl _ _ (run_slice22b rfl ((EV 7 178 (by decide) g7).trans (hW.c7 g7)) ((EV 9 180 (by decide) g9).trans (hW.c9 g9)) hw hcap hcm) ⟨_, rfl, hW.pure _ (by omega) (by omega) (by omega) (by omega) rfl⟩
    · have no11 : ∀ {p : Prop}, D 11 = true → p := fun h => by rw [hD] at h; cases h
      have g5 : D 5 = true := hdep ⟨5, .data⟩ (by simp) rfl
      have g10 : D 10 = true := hdep ⟨10, .data⟩ (by simp) rfl
      have hx := (EV 10 181 (by decide) g10).trans (hW.c10 g10)
      obtain ⟨ad, had, hp⟩ : ∃ ad, (if cap = wn + 1 then some (⟨ab, af, none⟩ : Addr) else some ⟨ab, af + (wn + 1) * 4, none⟩) = some ad ∧ ∀ j u, (flatB (d.bl.drop (wn + 1)))[j]? = some u → w'.cell? (Addr.add ad j) = some u := by
        by_cases hce : cap = wn + 1
        · refine ⟨_, if_pos hce, fun j u h => ?_⟩
          rw [List.drop_eq_nil_of_le (by omega)] at h
          simp [flatB] at h
        · exact ⟨_, if_neg hce, part_cells (k := wn + 1) hcw (fun i x h => by rw [List.getElem?_drop] at h; exact h)⟩
      rw [had] at hx
      refine app_blades rfl rfl (EV 5 176 (by decide) g5) (hW.o5 g5 hD) hx (L2 := d.bl.drop (wn + 1)) (by rw [List.length_drop]) hp hsz' (by omega) ?_
      intro v' w2 hown hm
      rw [← hl] at hown
      exact wpList_nil ⟨rfl, v', rfl, ⟨hW.c1, hW.c2, hW.c3, hW.c4, hW.c6, hW.c7, hW.c8, hW.c9, hW.c10, hW.c12, fun h1 h2 => absurd ((show D 5 = false from h2).symm.trans g5) (by decide), fun _ h => absurd h (by simp), fun _ => hown, fun h => hm.at (hW.s0 h) (by omega), fun h => no11 (k13 h), hW.m.then hm (fun i h1 h2 => by omega)⟩⟩
    · exact step_run rfl _ _ (run_field24 rfl ((far 20 (by decide)).trans x20)) ⟨_, rfl, hW.pure _ (by omega) (by omega) (by omega) (by omega) rfl⟩
    · have g11 : D 11 = true := hdep ⟨11, .data⟩ (by simp) rfl
      have g12 : D 12 = true := hdep ⟨12, .data⟩ (by simp) rfl
      have hown := hW.o11 g11
      obtain ⟨_, g, cp, hv, _⟩ := hown
      have hs0 := hW.s0 hD
      refine step_store22 rfl rfl ((EV 12 183 (by decide) g12).trans (hW.c12 g12)) ((EV 11 182 (by decide) g11).trans hv) hs0 ⟨_, rfl, ⟨hW.c1, hW.c2, hW.c3, hW.c4, hW.c6, hW.c7, hW.c8, hW.c9, hW.c10, hW.c12, fun _ h2 => absurd ((show D 5 = false from h2).symm.trans (k11 g11)) (by decide), fun _ h2 => absurd ((show D 11 = false from h2).symm.trans g11) (by decide), fun _ => (hW.o11 g11).same (fun r h1 h2 => (((Mod.refl (fun j => j = fb) w').setCell (p := ⟨fb, 0, none⟩) (fun _ => rfl) _).block r h2 (by omega))), fun h => absurd h (by simp), fun _ => ⟨g11, ?_⟩, hW.m.setCell (fun _ => rfl) _⟩⟩
      rw [setCell_at hs0]
      show _ = some (Obj.cells #[vs 11, _, _, _] 24)
      rw [hv]
      rfl
  · intro vs D w' hall hW
    obtain ⟨h1, h2⟩ := hW.s1 (hall 13 (by decide))
    exact hend vs w' _ h2 (hW.o11 h1) hW.m
end Go.Proofs.YtdncppempgpooaaDoor

/- RuleLess: rooms of slices that came in, and of Proof's lists; a part of the stints. -/
namespace Go.Proofs.YtdncppempgpooaaDoor
open Go Go.ChangeShapes Go.WideShapes Go.ChangeAt Go.RowKit Go.Joins Go.Shelf
section
variable {H : Type} {enc : TypeId × Value → H} {W : World} {base : Nat} {sp : Nat → Bool} {held : Bool}
theorem slice_caps {T E : TypeId} (hT : Tryd.prog.underlying T = some (.slice E)) {fuel : Nat} {ao : Option Addr} {n cap : Nat} {x : DataW H × List MemPlace}
    (h : DataW.trod enc Tryd.prog W base sp held fuel T [.slice ao n cap] = some x) : n ≤ cap ∧ cap ≤ 9223372036854775807 := by
  rcases DataW.trod_slice hT h with ⟨e, _⟩ | ⟨a, len, cap', elems, rest, k, _, e, _, _, hl, hm, _⟩
  · simp only [List.cons.injEq, and_true, Value.slice.injEq] at e
    omega
  · simp only [List.cons.injEq, and_true, Value.slice.injEq] at e
    unfold maxLen at hm
    omega
theorem stints_caps {b0 : Nat} {ao : Option Addr} {n cap : Nat} {d : DataW H} {p : List MemPlace} (h : DataW.Trod enc Tryd.prog W b0 sp held 33 (.slice ao n cap) d p) : n ≤ cap ∧ cap ≤ 9223372036854775807 := by
  obtain ⟨fuel, hf⟩ := h
  exact slice_caps Tryd.underlying33 hf
set_option maxRecDepth 100000 in
theorem die_caps {r : Reach} {b0 : Nat} {ao : Option Addr} {n cap : Nat} {y : Dye} {d : DataW H} {p : List MemPlace} (hv : Value.okWide Tryd.prog W r base 24 (dyV ao n cap y)) (h : DataW.Trod enc Tryd.prog W b0 sp held 24 (dyV ao n cap y) d p) : n ≤ cap ∧ cap ≤ 9223372036854775807 := by
  obtain ⟨v0, v1, v2, v3, y0, y1, y2, y3, m, e, _, _, t0, t1, t2, t3⟩ := open_agg4 Tryd.underlying24 (by kernel_rfl) cellsOf24 hv h
  have e0 : v0 = .slice ao n cap := by
    have := congrArg (fun v => match v with | .agg cs => cs[0]? | _ => none) e
    simpa using this.symm
  subst e0
  exact slice_caps Tryd.underlying22 t0
end
/-- A part of a list in memory lies there too. -/
theorem ListAt.take {α : Type} {B : Nat} {w : World} {sz : Nat} {cs : α → Array Value} {ao : Option Addr} {l : List α} (h : ListAt B w sz cs ao l) (n : Nat) : ListAt B w sz cs ao (l.take n) :=
  ⟨fun hne => by
    obtain ⟨b, off, h1, h2, h3⟩ := h.lies (fun e => hne (by rw [e, List.take_nil]))
    refine ⟨b, off, h1, h2, fun k x hx => h3 k x ?_⟩
    have hlt := (List.getElem?_eq_some_iff.1 hx).1
    rw [List.getElem?_take_of_lt (by rw [List.length_take] at hlt; omega)] at hx
    exact hx, Nat.le_trans (by rw [List.length_take]; omega) h.small⟩
theorem IntsAt.take {w : World} {ao : Option Addr} {zs : List Int} (h : IntsAt w ao zs) (n : Nat) : IntsAt w ao (zs.take n) :=
  ⟨fun hne => by
    obtain ⟨b, off, h1, h2, h3⟩ := h.lies (fun e => hne (by rw [e, List.take_nil]))
    refine ⟨b, off, h1, h2, fun j hj => ?_⟩
    rw [List.length_take] at hj
    rw [h3 j (by omega), List.getElem?_take_of_lt (by omega)], Nat.le_trans (by rw [List.length_take]; omega) h.small⟩
theorem InB.take {B : Nat} {w : World} {ao : Option Addr} {d : Dye} {lo : Option Addr} {l : List (Int × Int)} (h : InB B w ao d lo l) (n : Nat) : InB B w ao d lo (l.take n) := ⟨h.bl, h.st.take n, h.le, h.tab, h.one⟩
theorem own_room {base n sz : Nat} {e : TypeId} {w : World} {ao : Option Addr} {cap : Nat} {xs : List Value} (h : w.ownsRow base e sz (.slice ao n cap) n xs) : n ≤ cap ∧ cap ≤ 9223372036854775807 := by
  rcases h.2 with ⟨h, hz⟩ | ⟨g', cap', cur, hv, _, _, h1, h2, _⟩
  · cases h; omega
  · cases hv; unfold maxLen at h2; omega
/-- What Proof returns, as lists in memory, and their rooms. -/
theorem proof_lists2 {v : List (Int × Int) × List Int × Int} {w : World} {e : Ending} {w' : World} (h : ProofOut v w e w') (hl : v.1.length ≤ 100) (hl2 : v.2.1.length = v.1.length) : ∃ a1 k1 a2 k2, e = .returned (.tuple #[.slice a1 v.1.length k1, .slice a2 v.1.length k2, .int .i64 v.2.2]) ∧ ListAt w'.heap.size w' 2 spC a1 v.1 ∧ IntsAt w' a2 v.2.1 ∧ (v.1.length ≤ k1 ∧ k1 ≤ 9223372036854775807) ∧ (v.1.length ≤ k2 ∧ k2 ≤ 9223372036854775807) ∧ Mod noB w w' := by
  obtain ⟨vR, vB, he, o1, o2, hm⟩ := h
  obtain ⟨a1, k1, rfl, i1⟩ := spans_own o1 rfl (by omega)
  obtain ⟨a2, k2, rfl, i2, _⟩ := ints_of_owns o2 rfl (by omega)
  have r1 := own_room o1
  have r2 := own_room o2
  rw [hl2] at he r2
  exact ⟨a1, k1, a2, k2, he, i1, i2, r1, r2, hm⟩
end Go.Proofs.YtdncppempgpooaaDoor

/- RuleLess: the law's walk. -/
namespace Go.Proofs.YtdncppempgpooaaDoor
open Go Go.RowKit Go.Shelf

end Go.Proofs.YtdncppempgpooaaDoor

/- RuleLess: the law's walk, of dies and stints that are valid. -/
namespace Go.Proofs.YtdncppempgpooaaDoor
open Go Go.RowKit Go.Shelf

/-- What Plan and Proof return, kept. -/
def PlanP (c : Int) : Value → Value → Value → World → Prop := fun _ y z _ => y = .int .i64 c ∧ z = .int .i64 0
def ProofP (R : List (Int × Int)) (K : List Int) : Value → Value → Value → World → Prop := fun x y z W => ∃ a1 k1 a2 k2, x = .slice a1 R.length k1 ∧ y = .slice a2 R.length k2 ∧ z = .int .i64 0 ∧ ListAt W.heap.size W 2 spC a1 R ∧ IntsAt W a2 K
theorem proofP_kept {R : List (Int × Int)} {K : List Int} {x y z : Value} {W : World} (h : ProofP R K x y z W) : Kept W (ProofP R K x y z) := fun W' hm => by
  obtain ⟨a1, k1, a2, k2, h1, h2, h3, h4, h5⟩ := h
  exact ⟨a1, k1, a2, k2, h1, h2, h3, kept_spans h4 W' hm, h5.mod hm⟩

theorem flat_at : ∀ (L : List Bld) (k : Nat) (x : Bld), L[k]? = some x → ∀ j, j < 4 → (flatB L)[k * 4 + j]? = (blC x)[j]? := by
  intro L
  induction L with
  | nil => intro k x h; simp at h
  | cons b L ih =>
    intro k x h j hj
    have e : flatB (b :: L) = (blC b).toList ++ flatB L := by simp [flatB]
    rw [e]
    cases k with
    | zero =>
      obtain rfl : b = x := by simpa using h
      rw [List.getElem?_append_left (by simp; omega), Nat.zero_mul, Nat.zero_add]
      simp
    | succ k =>
      rw [List.getElem?_append_right (by simp; omega), show (k + 1) * 4 + j - (blC b).toList.length = k * 4 + j by simp; omega]
      exact ih k x (by simpa using h) j hj
theorem own_blades {base n g cp : Nat} {L : List Bld} {W : World} (h : OwnB base (.slice (some ⟨g, 0, none⟩) n cp) n L W) (hn : L.length = n) (hs : L.length ≤ 1000000000000) : BladesAt W.heap.size W (some ⟨g, 0, none⟩) L := by
  refine ⟨fun hne => ?_, hs⟩
  have h0 := h.1
  rcases h0.2 with ⟨hz, _⟩ | ⟨g', cap', cur, hv, _, hh, _⟩
  · cases hz
  · cases hv
    refine ⟨g, 0, rfl, at_ltS hh, fun k x hx j hj => ?_⟩
    have hk := (List.getElem?_eq_some_iff.1 hx).1
    rw [Nat.zero_add, h0.cellAt (k * 4 + j) (by omega)]
    exact flat_at L k x hx j hj

end Go.Proofs.YtdncppempgpooaaDoor

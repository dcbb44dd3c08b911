/- Several texts in one (a claim holds at most 60 files): each has its own words ahead of it. -/
import Derived.Test.YtnplhlcifagimaaRuA
import Derived.Test.YtnplhlcifagimaaGev
import Derived.Deep.RegionHeld3
import Derived.Laws.EntriesVeiled
import Derived.Deep.QuietTactic
import Derived.BigQuiet
set_option linter.unusedSimpArgs false
set_option linter.unusedVariables false

/- Dies, blades, stints, spans: how they lie in memory; which of them are valid. -/
namespace Go.Proofs.Ytnplhlcifagimaa
open Go.RowKit

@[reducible] def spVQ (s : Int × Int) : Value := .agg #[.int .i64 s.1, .int .i64 s.2]
@[reducible] def spC (s : Int × Int) : Array Value := #[.int .i64 s.1, .int .i64 s.2]
@[reducible] def blC (b : Bld) : Array Value := #[.int .i64 b.f.1, .int .i64 b.f.2, .int .i64 b.w.1, .int .i64 b.w.2]
@[reducible] def blV (b : Bld) : Value := .agg #[.int .i64 b.f.1, .int .i64 b.f.2, .int .i64 b.w.1, .int .i64 b.w.2]
@[reducible] def dyC (ao : Option Addr) (n cap : Nat) (d : Dye) : Array Value := #[.slice ao n cap, .int .i64 d.bound, .int .i64 d.stop, .int .i64 d.bend]
@[reducible] def dyV (ao : Option Addr) (n cap : Nat) (d : Dye) : Value := .agg #[.slice ao n cap, .int .i64 d.bound, .int .i64 d.stop, .int .i64 d.bend]

/-- No block below B has turned. -/
def Low (B : Nat) (W W' : World) : Prop := W.heap.size ≤ W'.heap.size ∧ ∀ k, k < B → W'.heap[k]? = W.heap[k]?
theorem Low.of {T : Nat → Prop} {B : Nat} {W W' : World} (h : Mod T W W') (hB : B ≤ W.heap.size) (hT : ∀ k, T k → B ≤ k) : Low B W W' :=
  ⟨h.size, fun k hk => h.block k (by omega) (fun ht => by have := hT k ht; omega)⟩
theorem Low.ofN {B : Nat} {W W' : World} (h : Mod noB W W') (hB : B ≤ W.heap.size) : Low B W W' := Low.of h hB (fun _ h => h.elim)
theorem Low.trans {B : Nat} {W W' W'' : World} (h : Low B W W') (k : Low B W' W'') : Low B W W'' := ⟨Nat.le_trans h.1 k.1, fun i hi => (k.2 i hi).trans (h.2 i hi)⟩

/-- A slice's value reads as a list of things of so many cells, in blocks below B. -/
structure ListAt {α : Type} (B : Nat) (w : World) (sz : Nat) (cs : α → Array Value) (ao : Option Addr) (l : List α) : Prop where
  lies : l ≠ [] → ∃ b off, ao = some ⟨b, off, none⟩ ∧ b < B ∧ ∀ k x, l[k]? = some x → ∀ j, j < sz → w.cell? ⟨b, off + k * sz + j, none⟩ = (cs x)[j]?
  small : l.length ≤ 1000000000000
theorem ListAt.low {α : Type} {B : Nat} {w w' : World} {sz : Nat} {cs : α → Array Value} {ao : Option Addr} {l : List α} (h : ListAt B w sz cs ao l) (hm : Low B w w') : ListAt B w' sz cs ao l :=
  ⟨fun hne => by obtain ⟨b, off, h1, h2, h3⟩ := h.lies hne; exact ⟨b, off, h1, h2, fun k x hx j hj => (cell_same (hm.2 b h2) _).trans (h3 k x hx j hj)⟩, h.small⟩
theorem ListAt.mono {α : Type} {B C : Nat} {w : World} {sz : Nat} {cs : α → Array Value} {ao : Option Addr} {l : List α} (h : ListAt B w sz cs ao l) (hB : B ≤ C) : ListAt C w sz cs ao l :=
  ⟨fun hne => by obtain ⟨b, off, h1, h2, h3⟩ := h.lies hne; exact ⟨b, off, h1, by omega, h3⟩, h.small⟩

abbrev BladesAt (B : Nat) (w : World) (ao : Option Addr) (l : List Bld) : Prop := ListAt B w 4 blC ao l
abbrev StintsAt (B : Nat) (w : World) (ao : Option Addr) (l : List (Int × Int)) : Prop := ListAt B w 2 spC ao l
theorem ListAt.blade {B : Nat} {w : World} {ao : Option Addr} {l : List Bld} (h : BladesAt B w ao l) {k : Nat} {x : Bld} (hx : l[k]? = some x) : ∃ b off, ao = some ⟨b, off, none⟩ ∧ b < B ∧
    w.cell? ⟨b, off + k * 4, none⟩ = some (.int .i64 x.f.1) ∧ w.cell? ⟨b, off + k * 4 + 1, none⟩ = some (.int .i64 x.f.2) ∧ w.cell? ⟨b, off + k * 4 + 2, none⟩ = some (.int .i64 x.w.1) ∧ w.cell? ⟨b, off + k * 4 + 3, none⟩ = some (.int .i64 x.w.2) := by
  obtain ⟨b, off, e, hb, hc⟩ := h.lies (fun e => by rw [e] at hx; simp at hx)
  have g := hc k x hx
  exact ⟨b, off, e, hb, g 0 (by omega), g 1 (by omega), g 2 (by omega), g 3 (by omega)⟩
theorem ListAt.stint {B : Nat} {w : World} {ao : Option Addr} {l : List (Int × Int)} (h : StintsAt B w ao l) {k : Nat} {x : Int × Int} (hx : l[k]? = some x) : ∃ b off, ao = some ⟨b, off, none⟩ ∧ b < B ∧
    w.cell? ⟨b, off + k * 2, none⟩ = some (.int .i64 x.1) ∧ w.cell? ⟨b, off + k * 2 + 1, none⟩ = some (.int .i64 x.2) := by
  obtain ⟨b, off, e, hb, hc⟩ := h.lies (fun e => by rw [e] at hx; simp at hx)
  have g := hc k x hx
  exact ⟨b, off, e, hb, g 0 (by omega), g 1 (by omega)⟩

set_option maxHeartbeats 400000 in
theorem isFrom_any (lo hi n : Int) (w : World) : Calls Try.prog 13 #[.int .i64 lo, .int .i64 hi, .int .i64 n] w fun e w' => e = .returned (.bool (fromB lo hi n)) ∧ Mod noB w w' := by
  by_cases h1 : lo ≤ n <;> by_cases h2 : n ≤ hi
  all_goals
    have he : Hold (fromB lo hi n = (decide (lo ≤ n) && decide (n ≤ hi))) := ⟨rfl⟩
    go_enter Try.func13, Try.ntmps13
    go_wp2
    go_ret
    exact ⟨by rw [he.out]; simp [*]; try omega, Mod.refl _ _⟩

set_option maxHeartbeats 400000 in
theorem isAway_any (s : Int × Int) (w : World) : Calls Try.prog 20 #[spVQ s] w fun e w' => e = .returned (.bool (awayB s)) ∧ Mod noB w w' := by
  obtain ⟨a, b⟩ := s
  by_cases h1 : 0 ≤ a <;> by_cases h2 : a ≤ b <;> by_cases h3 : b ≤ 10000
  all_goals try (exfalso; omega)
  all_goals
    have he : Hold (awayB (a, b) = (decide (0 ≤ a) && decide (a ≤ b) && decide (b ≤ 10000))) := ⟨rfl⟩
    go_enter Try.func20, Try.ntmps20
    go_wp2
    go_ret
    exact ⟨by rw [he.out]; simp [*]; try omega, (Mod.refl _ _).alloc _⟩

set_option maxHeartbeats 1000000 in
theorem isDie1_any (b : Bld) (w : World) : Calls Try.prog 19 #[blV b] w fun r w' => r = .returned (.bool (!bladeB b)) ∧ Mod noB w w' := by
  obtain ⟨f, u⟩ := b
  have HM := Hold.mk ((Mod.refl noB w).alloc (.cells (blC ⟨f, u⟩) 42))
  have HN := Hold.mk (new_at w (.cells (blC ⟨f, u⟩) 42))
  have H2 := Hold.mk (fun w => isAway_any u w)
  cases hf : awayB f with
  | false =>
    have H1 : Hold (∀ w, Calls Try.prog 20 #[spVQ f] w fun e w' => e = .returned (.bool false) ∧ Mod noB w w') := ⟨fun w => by rw [← hf]; exact isAway_any _ _⟩
    have he : Hold ((!bladeB ⟨f, u⟩) = true) := ⟨by simp [bladeB, hf]⟩
    clear hf
    go_enter Try.func19, Try.ntmps19
    go_wp2_with (go_at_call 20; refine (H1.out _).mono ?_; rintro e w1 ⟨rfl, hM⟩; have HM := Hold.mk (HM.out.trans hM); clear hM)
    go_ret
    exact ⟨by rw [he.out]; rfl, HM.out⟩
  | true =>
    have H1 : Hold (∀ w, Calls Try.prog 20 #[spVQ f] w fun e w' => e = .returned (.bool true) ∧ Mod noB w w') := ⟨fun w => by rw [← hf]; exact isAway_any _ _⟩
    have he : Hold ((!bladeB ⟨f, u⟩) = !awayB u) := ⟨by simp [bladeB, hf]⟩
    clear hf
    generalize awayB u = s at *
    go_enter Try.func19, Try.ntmps19
    go_wp2_with (first
      | (go_at_call 20; have H1x := H1; refine (H1.out _).mono ?_; rintro e w1 ⟨rfl, hM⟩; have h1 := HN.out _ hM; have c2 := cellsAt h1 2; have c3 := cellsAt h1 3; have HM := Hold.mk (HM.out.trans hM); clear hM H1 H1x h1)
      | (go_at_call 20; refine (H2.out _).mono ?_; rintro e w1 ⟨rfl, hM⟩; have HM := Hold.mk (HM.out.trans hM); clear hM))
    go_ret
    exact ⟨by rw [he.out]; rfl, HM.out⟩
end Go.Proofs.Ytnplhlcifagimaa

/- ContainsFunc over blades, stints and numbers; isDie, areStints, isPlan, hasBlade. -/
namespace Go.Proofs.Ytnplhlcifagimaa
open Go.RowKit

theorem ret_i64Q {a b : Int} (h : a = b) : Ending.returned (.int .i64 a) = .returned (.int .i64 b) := by rw [h]
/-- The first index of an element that is p, or -1. -/
def idxOfQ {α : Type} (p : α → Bool) (l : List α) : Int := match l.findIdx? p with | some i => i | none => -1

theorem idxOf_atQ {α : Type} {p : α → Bool} {l : List α} {k : Nat} {x : α} (hk : l[k]? = some x) (h1 : p x = true) (h0 : ∀ j y, j < k → l[j]? = some y → p y = false) : idxOfQ p l = k := by
  obtain ⟨hlt, hx⟩ := List.getElem?_eq_some_iff.1 hk
  have : l.findIdx? p = some k := by
    rw [List.findIdx?_eq_some_iff_getElem]
    refine ⟨hlt, by rw [hx]; exact h1, fun j hj => ?_⟩
    have := h0 j l[j] hj (List.getElem?_eq_getElem (by omega))
    simp [this]
  simp [idxOfQ, this]
theorem idxOf_noneQ {α : Type} {p : α → Bool} {l : List α} (h0 : ∀ j y, j < l.length → l[j]? = some y → p y = false) : idxOfQ p l = -1 := by
  have : l.findIdx? p = none := by
    rw [List.findIdx?_eq_none_iff]
    intro x hx
    obtain ⟨j, hj⟩ := List.mem_iff_getElem?.1 hx
    exact h0 j x (List.getElem?_eq_some_iff.1 hj).1 hj
  simp [idxOfQ, this]
theorem idxOf_anyQ {α : Type} (f : α → Bool) (l : List α) : decide (0 ≤ idxOfQ f l) = l.any f := by
  cases h : l.findIdx? f with
  | none =>
    have h' := h
    rw [List.findIdx?_eq_none_iff] at h
    have : l.any f = false := by simpa using h
    simp [idxOfQ, h', this]
  | some i =>
    obtain ⟨hi, hp, _⟩ := List.findIdx?_eq_some_iff_getElem.1 h
    have : l.any f = true := by simp only [List.any_eq_true]; exact ⟨_, List.getElem_mem hi, hp⟩
    simp [idxOfQ, h, this]
theorem all_notQ {α : Type} (f : α → Bool) (l : List α) : l.all f = !(l.any fun e => !f e) := by
  induction l with
  | nil => rfl
  | cons x l ih => simp only [List.all_cons, List.any_cons, ih, Bool.not_or, Bool.not_not]

set_option maxHeartbeats 1000000 in
theorem indexFuncEQ (B : Nat) (ao : Option Addr) (es : List (Bld)) (cap : Nat) (fn : Nat) (lb : Array Value) (f : Bld → Bool) (w : World) (hB : B ≤ w.heap.size) (hs : BladesAt B w ao es)
    (eg : ∀ args w, (callFunc fn args).run Try.prog w = .ok (.enter fn args) w)
    (hf : ∀ (e : Bld) (w1 : World), Mod noB w w1 → Calls Try.prog fn (#[blV e] ++ lb) w1 fun r w' => r = .returned (.bool (f e)) ∧ Mod noB w1 w') :
    Calls Try.prog 32 #[.slice ao es.length cap, .func (.func fn) #[] lb] w fun e w' => e = .returned (.int .i64 (idxOfQ f es)) ∧ Mod noB w w' := by
  have hsm := hs.small
  have HF := Hold.mk hf
  have HS := Hold.mk hs
  have HB := Hold.mk hB
  clear hf hs hB
  go_enter Try.func32, Try.ntmps32
  go_wp2
  go_loopw [8] (fun i wr => ∃ k : Nat, k ≤ es.length ∧ i = .int .i64 k ∧ (∀ j y, j < k → es[j]? = some y → f y = false) ∧ Mod noB w wr) (fun i _ => es.length - (intOf i).toNat)
  case atStart => exact ⟨0, Nat.zero_le _, rfl, fun j _ hj => absurd hj (Nat.not_lt_zero _), Mod.refl _ _⟩
  case round =>
    obtain ⟨k, hk, rfl, h0, hmr⟩ := hrel
    have H0 := Hold.mk h0
    clear h0
    by_cases hlt : k < es.length
    · obtain ⟨z, hz⟩ : ∃ z, es[k]? = some z := ⟨_, List.getElem?_eq_getElem hlt⟩
      obtain ⟨b, off, rfl, _, q0, q1, q2, q3⟩ := (HS.out.low (Low.ofN hmr HB.out)).blade hz
      have Hz := Hold.mk hz
      have HM := Hold.mk hmr
      clear hz hmr
      cases hx : f z with
      | true =>
        have Hx := Hold.mk hx
        have HF' : Hold (Calls Try.prog fn (#[blV z] ++ lb) wr fun r w' => r = .returned (.bool true) ∧ Mod noB wr w') := ⟨by rw [← hx]; exact HF.out z wr HM.out⟩
        clear hx
        go_wp2_with (refine HF'.out.mono ?_; rintro e w' ⟨rfl, hM⟩; have HM2 := Hold.mk hM; clear hM)
        go_ret
        exact ⟨ret_i64Q (idxOf_atQ Hz.out Hx.out H0.out).symm, HM.out.trans HM2.out⟩
      | false =>
        have Hx := Hold.mk hx
        have HF' : Hold (Calls Try.prog fn (#[blV z] ++ lb) wr fun r w' => r = .returned (.bool false) ∧ Mod noB wr w') := ⟨by rw [← hx]; exact HF.out z wr HM.out⟩
        clear hx
        go_wp2_with (refine HF'.out.mono ?_; rintro e w' ⟨rfl, hM⟩; have HM2 := Hold.mk hM; clear hM)
        go_roundw
        case rel => exact ⟨k + 1, by omega, by go_num, fun j y hj hy => by
          rcases Nat.lt_succ_iff_lt_or_eq.1 hj with h | rfl
          · exact H0.out j y h hy
          · rw [Hz.out] at hy; cases hy; exact Hx.out, HM.out.trans HM2.out⟩
        case measure => simp [intOf]; omega
    · obtain rfl : k = es.length := by omega
      go_wp2
      go_ret
      exact ⟨ret_i64Q (idxOf_noneQ H0.out).symm, hmr⟩

set_option maxHeartbeats 1000000 in
theorem containsFuncEQ (B : Nat) (ao : Option Addr) (es : List (Bld)) (cap : Nat) (fn : Nat) (lb : Array Value) (f : Bld → Bool) (w : World) (hB : B ≤ w.heap.size) (hs : BladesAt B w ao es)
    (eg : ∀ args w, (callFunc fn args).run Try.prog w = .ok (.enter fn args) w)
    (hf : ∀ (e : Bld) (w1 : World), Mod noB w w1 → Calls Try.prog fn (#[blV e] ++ lb) w1 fun r w' => r = .returned (.bool (f e)) ∧ Mod noB w1 w') :
    Calls Try.prog 21 #[.slice ao es.length cap, .func (.func fn) #[] lb] w fun e w' => e = .returned (.bool (es.any f)) ∧ Mod noB w w' := by
  have HI := Hold.mk (indexFuncEQ B ao es cap fn lb f w hB hs eg hf)
  have HA := Hold.mk (idxOf_anyQ f es)
  clear hf hs hB
  obtain ⟨i, hi⟩ : ∃ i, idxOfQ f es = i := ⟨_, rfl⟩
  rw [hi] at HI HA
  clear hi
  go_enter Try.func21, Try.ntmps21
  go_wp2_with (go_at_call 32; refine HI.out.mono ?_; rintro e w' ⟨rfl, hM⟩; have HM2 := Hold.mk hM; clear hM)
  go_ret
  exact ⟨by rw [← HA.out]; rfl, HM2.out⟩

theorem enter60 : ∀ args w, (callFunc 19 args).run Try.prog w = .ok (.enter 19 args) w := enters_of Try.func19 (by kernel_rfl) rfl
end Go.Proofs.Ytnplhlcifagimaa

/- isDie, areStints, hasBlade, allBlades, isPlan. -/
namespace Go.Proofs.Ytnplhlcifagimaa
open Go.RowKit

theorem from_eq (lo hi n : Int) (v : Bool) (h : fromB lo hi n = v) : Hold (∀ w, Calls Try.prog 13 #[.int .i64 lo, .int .i64 hi, .int .i64 n] w fun e w' => e = .returned (.bool v) ∧ Mod noB w w') :=
  ⟨fun w => by rw [← h]; exact isFrom_any _ _ _ _⟩

set_option maxHeartbeats 2000000 in
theorem isDie_any (B : Nat) (ao : Option Addr) (cap : Nat) (d : Dye) (w : World) (hB : B ≤ w.heap.size) (hs : BladesAt B w ao d.bl) :
    Calls Try.prog 11 #[dyV ao d.bl.length cap d] w fun r w' => r = .returned (.bool (dieB d)) ∧ Mod noB w w' := by
  obtain ⟨bl, bound, stop, bend⟩ := d
  simp only at hs
  have hsm := hs.small
  have HM := Hold.mk ((Mod.refl noB w).alloc (.cells (dyC ao bl.length cap ⟨bl, bound, stop, bend⟩) 24))
  have HN := Hold.mk (new_at w (.cells (dyC ao bl.length cap ⟨bl, bound, stop, bend⟩) 24))
  cases h1 : fromB 1 5 bl.length with
  | false =>
    have H1 := from_eq _ _ _ _ h1
    have he : Hold (dieB ⟨bl, bound, stop, bend⟩ = false) := ⟨by simp only [dieB, h1, Bool.false_and]⟩
    clear h1 hs hB
    go_enter Try.func11, Try.ntmps11
    go_wp2_with (go_at_call 13; refine (H1.out _).mono ?_; rintro e w1 ⟨rfl, hM⟩; have HM1 := Hold.mk hM; clear hM)
    go_ret
    exact ⟨by rw [he.out] <;> rfl, HM.out.trans HM1.out⟩
  | true =>
    have H1 := from_eq _ _ _ _ h1
    have HC : Hold (∀ w1, Mod noB w w1 → Calls Try.prog 21 #[.slice ao bl.length cap, .func (.func 19) #[] #[]] w1 fun e w' => e = .returned (.bool (!bl.all bladeB)) ∧ Mod noB w1 w') :=
      ⟨fun w1 hm => by
        have := containsFuncEQ B ao bl cap 19 #[] (fun b => !bladeB b) w1 (Nat.le_trans hB hm.size) (hs.low (Low.ofN hm hB)) enter60 (fun e w1 _ => isDie1_any e w1)
        rw [all_notQ, Bool.not_not]; exact this⟩
    clear hs hB
    cases h2 : bl.all bladeB with
    | false =>
      rw [h2] at HC
      have he : Hold (dieB ⟨bl, bound, stop, bend⟩ = false) := ⟨by simp only [dieB, h2, Bool.false_and, Bool.and_false]⟩
      clear h1 h2
      go_enter Try.func11, Try.ntmps11
      go_wp2_with (first
        | (go_at_call 13; refine (H1.out _).mono ?_; rintro e w1 ⟨rfl, hM⟩; have hb := HN.out _ hM; have c0 := cellsAt hb 0; have c1 := cellsAt hb 1; have c2 := cellsAt hb 2; have c3 := cellsAt hb 3; have HM1 := Hold.mk (HM.out.trans hM); clear hM hb)
        | (go_at_call 21; refine (HC.out _ HM1.out).mono ?_; rintro e w1 ⟨rfl, hM⟩; have HM2 := Hold.mk (HM1.out.trans hM); clear hM))
      go_ret
      exact ⟨by rw [he.out] <;> rfl, HM2.out⟩
    | true =>
      rw [h2] at HC
      have H3 : ∀ v, fromB 0 100000 bound = v → Hold (∀ w, Calls Try.prog 13 #[.int .i64 0, .int .i64 100000, .int .i64 bound] w fun e w' => e = .returned (.bool v) ∧ Mod noB w w') := fun v h => from_eq _ _ _ _ h
      have H4 : ∀ v, fromB 0 10000 stop = v → Hold (∀ w, Calls Try.prog 13 #[.int .i64 0, .int .i64 10000, .int .i64 stop] w fun e w' => e = .returned (.bool v) ∧ Mod noB w w') := fun v h => from_eq _ _ _ _ h
      have H5 : Hold (∀ w, Calls Try.prog 13 #[.int .i64 0, .int .i64 10000, .int .i64 bend] w fun e w' => e = .returned (.bool (fromB 0 10000 bend)) ∧ Mod noB w w') := ⟨fun w => isFrom_any _ _ _ _⟩
      cases h3 : fromB 0 100000 bound with
      | false =>
        have H3 := H3 _ h3
        have he : Hold (dieB ⟨bl, bound, stop, bend⟩ = false) := ⟨by simp only [dieB, h3, Bool.false_and, Bool.and_false]⟩
        clear h1 h2 h3 H4
        go_enter Try.func11, Try.ntmps11
        go_wp2_with (first
          | (go_at_call 13; have H1x := H1; refine (H1.out _).mono ?_; rintro e w1 ⟨rfl, hM⟩; have hb := HN.out _ hM; have c0 := cellsAt hb 0; have c1 := cellsAt hb 1; have c2 := cellsAt hb 2; have c3 := cellsAt hb 3; have HM1 := Hold.mk (HM.out.trans hM); have HR := Hold.mk hM; clear hM hb H1 H1x)
          | (go_at_call 21; refine (HC.out _ HM1.out).mono ?_; rintro e w2 ⟨rfl, hM⟩; have hb := HN.out _ (HR.out.trans hM); have c0 := cellsAt hb 0; have c1 := cellsAt hb 1; have c2 := cellsAt hb 2; have c3 := cellsAt hb 3; have HM2 := Hold.mk (HM1.out.trans hM); clear hM hb)
          | (go_at_call 13; refine (H3.out _).mono ?_; rintro e w3 ⟨rfl, hM⟩; have HM3 := Hold.mk (HM2.out.trans hM); clear hM))
        go_ret
        exact ⟨by rw [he.out] <;> rfl, HM3.out⟩
      | true =>
        have H3 := H3 _ h3
        cases h4 : fromB 0 10000 stop with
        | false =>
          have H4 := H4 _ h4
          have he : Hold (dieB ⟨bl, bound, stop, bend⟩ = false) := ⟨by simp only [dieB, h4, Bool.false_and, Bool.and_false]⟩
          clear h1 h2 h3 h4
          go_enter Try.func11, Try.ntmps11
          go_wp2_with (first
            | (go_at_call 13; have H1x := H1; refine (H1.out _).mono ?_; rintro e w1 ⟨rfl, hM⟩; have hb := HN.out _ hM; have c0 := cellsAt hb 0; have c1 := cellsAt hb 1; have c2 := cellsAt hb 2; have c3 := cellsAt hb 3; have HM1 := Hold.mk (HM.out.trans hM); have HR := Hold.mk hM; clear hM hb H1 H1x)
            | (go_at_call 21; refine (HC.out _ HM1.out).mono ?_; rintro e w2 ⟨rfl, hM⟩; have hb := HN.out _ (HR.out.trans hM); have c0 := cellsAt hb 0; have c1 := cellsAt hb 1; have c2 := cellsAt hb 2; have c3 := cellsAt hb 3; have HM2 := Hold.mk (HM1.out.trans hM); replace HR := Hold.mk (HR.out.trans hM); clear hM hb)
            | (go_at_call 13; have H3x := H3; refine (H3.out _).mono ?_; rintro e w3 ⟨rfl, hM⟩; have hb := HN.out _ (HR.out.trans hM); have c0 := cellsAt hb 0; have c1 := cellsAt hb 1; have c2 := cellsAt hb 2; have c3 := cellsAt hb 3; have HM3 := Hold.mk (HM2.out.trans hM); clear hM hb H3 H3x)
            | (go_at_call 13; refine (H4.out _).mono ?_; rintro e w3 ⟨rfl, hM⟩; have HM4 := Hold.mk (HM3.out.trans hM); clear hM))
          go_ret
          exact ⟨by rw [he.out] <;> rfl, HM4.out⟩
        | true =>
          have H4 := H4 _ h4
          have he : Hold (dieB ⟨bl, bound, stop, bend⟩ = fromB 0 10000 bend) := ⟨by simp only [dieB, h1, h2, h3, h4, Bool.true_and, Bool.and_true]⟩
          clear h1 h2 h3 h4
          generalize fromB 0 10000 bend = s at *
          go_enter Try.func11, Try.ntmps11
          go_wp2_with (first
            | (go_at_call 13; have H1x := H1; refine (H1.out _).mono ?_; rintro e w1 ⟨rfl, hM⟩; have hb := HN.out _ hM; have c0 := cellsAt hb 0; have c1 := cellsAt hb 1; have c2 := cellsAt hb 2; have c3 := cellsAt hb 3; have HM1 := Hold.mk (HM.out.trans hM); have HR := Hold.mk hM; clear hM hb H1 H1x)
            | (go_at_call 21; refine (HC.out _ HM1.out).mono ?_; rintro e w2 ⟨rfl, hM⟩; have hb := HN.out _ (HR.out.trans hM); have c0 := cellsAt hb 0; have c1 := cellsAt hb 1; have c2 := cellsAt hb 2; have c3 := cellsAt hb 3; have HM2 := Hold.mk (HM1.out.trans hM); replace HR := Hold.mk (HR.out.trans hM); clear hM hb)
            | (go_at_call 13; have H3x := H3; refine (H3.out _).mono ?_; rintro e w3 ⟨rfl, hM⟩; have hb := HN.out _ (HR.out.trans hM); have c0 := cellsAt hb 0; have c1 := cellsAt hb 1; have c2 := cellsAt hb 2; have c3 := cellsAt hb 3; have HM3 := Hold.mk (HM2.out.trans hM); replace HR := Hold.mk (HR.out.trans hM); clear hM hb H3 H3x)
            | (go_at_call 13; have H4x := H4; refine (H4.out _).mono ?_; rintro e w4 ⟨rfl, hM⟩; have hb := HN.out _ (HR.out.trans hM); have c0 := cellsAt hb 0; have c1 := cellsAt hb 1; have c2 := cellsAt hb 2; have c3 := cellsAt hb 3; have HM4 := Hold.mk (HM3.out.trans hM); clear hM hb H4 H4x)
            | (go_at_call 13; refine (H5.out _).mono ?_; rintro e w5 ⟨rfl, hM⟩; have HM5 := Hold.mk (HM4.out.trans hM); clear hM))
          go_ret
          exact ⟨by rw [he.out] <;> rfl, HM5.out⟩

set_option maxHeartbeats 400000 in
theorem hasBlade_any (ao : Option Addr) (cap : Nat) (d : Dye) (k : Int) (w : World) (hsm : d.bl.length ≤ 1000000000000) :
    Calls Try.prog 12 #[dyV ao d.bl.length cap d, .int .i64 k] w fun r w' => r = .returned (.bool (hasB d k)) ∧ Mod noB w w' := by
  have H : Hold (∀ w, Calls Try.prog 13 #[.int .i64 0, .int .i64 (d.bl.length - 1), .int .i64 k] w fun e w' => e = .returned (.bool (hasB d k)) ∧ Mod noB w w') := ⟨fun w => isFrom_any _ _ _ _⟩
  have HM0 := Hold.mk ((Mod.refl noB w).alloc (.cells (dyC ao d.bl.length cap d) 24))
  go_enter Try.func12, Try.ntmps12
  go_wp2_with (go_at_call 13; refine (H.out _).mono ?_; rintro e w1 ⟨rfl, hM⟩; have HM := Hold.mk hM; clear hM)
  go_ret
  exact ⟨rfl, HM0.out.trans HM.out⟩
end Go.Proofs.Ytnplhlcifagimaa

/- offOf: how far a blade is off, as two functions; sort.Search. -/
namespace Go.Proofs.Ytnplhlcifagimaa
open Go.RowKit

@[reducible] def offC (p : Nat × Nat × Nat × Nat) : Array Value := #[.func (.func 23) #[] #[.pointer (some ⟨p.1, 0, none⟩), .pointer (some ⟨p.2.1, 0, none⟩)], .func (.func 23) #[] #[.pointer (some ⟨p.2.2.1, 0, none⟩), .pointer (some ⟨p.2.2.2, 0, none⟩)]]
@[reducible] def offV (p : Nat × Nat × Nat × Nat) : Value := .agg #[.func (.func 23) #[] #[.pointer (some ⟨p.1, 0, none⟩), .pointer (some ⟨p.2.1, 0, none⟩)], .func (.func 23) #[] #[.pointer (some ⟨p.2.2.1, 0, none⟩), .pointer (some ⟨p.2.2.2, 0, none⟩)]]
/-- What the two functions of a blade have captured. -/
structure OffIs (B : Nat) (w : World) (p : Nat × Nat × Nat × Nat) (b : Bld) : Prop where
  l1 : p.1 < B
  l2 : p.2.1 < B
  l3 : p.2.2.1 < B
  l4 : p.2.2.2 < B
  c1 : w.heap[p.1]? = some (.cells #[.int .i64 b.f.1] 3)
  c2 : w.heap[p.2.1]? = some (.cells #[.int .i64 b.w.1] 3)
  c3 : w.heap[p.2.2.1]? = some (.cells #[.int .i64 b.f.2] 3)
  c4 : w.heap[p.2.2.2]? = some (.cells #[.int .i64 b.w.2] 3)
theorem OffIs.low {B : Nat} {w w' : World} {p : Nat × Nat × Nat × Nat} {b : Bld} (h : OffIs B w p b) (hm : Low B w w') : OffIs B w' p b :=
  ⟨h.l1, h.l2, h.l3, h.l4, (hm.2 _ h.l1).trans h.c1, (hm.2 _ h.l2).trans h.c2, (hm.2 _ h.l3).trans h.c3, (hm.2 _ h.l4).trans h.c4⟩
theorem OffIs.mono {B C : Nat} {w : World} {p : Nat × Nat × Nat × Nat} {b : Bld} (h : OffIs B w p b) (hB : B ≤ C) : OffIs C w p b :=
  ⟨Nat.lt_of_lt_of_le h.l1 hB, Nat.lt_of_lt_of_le h.l2 hB, Nat.lt_of_lt_of_le h.l3 hB, Nat.lt_of_lt_of_le h.l4 hB, h.c1, h.c2, h.c3, h.c4⟩

set_option maxHeartbeats 400000 in
theorem after_any (a c : Int) (w : World) : Calls Try.prog 22 #[.int .i64 a, .int .i64 c] w fun e w' =>
    e = .returned (.func (.func 23) #[] #[.pointer (some ⟨w.heap.size, 0, none⟩), .pointer (some ⟨w.heap.size + 1, 0, none⟩)]) ∧ w' = (w.alloc (.cells #[.int .i64 a] 3)).alloc (.cells #[.int .i64 c] 3) := by
  go_enter Try.func22, Try.ntmps22
  go_wp2
  go_ret
  exact ⟨rfl, rfl⟩

/-- The function that offOf's function returns: a + n c. -/
theorem clo_any (p q : Nat) (a c n : Int) (w : World) (hp : w.heap[p]? = some (.cells #[.int .i64 a] 3)) (hq : w.heap[q]? = some (.cells #[.int .i64 c] 3)) (ha : 0 ≤ a ∧ a ≤ 10000) (hc : 0 ≤ c ∧ c ≤ 10000) (hn : 0 ≤ n ∧ n ≤ 100000) :
    Calls Try.prog 23 #[.int .i64 n, .pointer (some ⟨p, 0, none⟩), .pointer (some ⟨q, 0, none⟩)] w fun e w' => e = .returned (.int .i64 (a + n * c)) ∧ w = w' := by
  have c0 := cellsAt hp 0
  have c1 := cellsAt hq 0
  obtain ⟨m1, m2⟩ := mul_bd (m := 100000) (k := 10000) (a := n) (b := c) (by omega) (by omega)
  obtain ⟨n1, n2⟩ := hn
  obtain ⟨a1, a2⟩ := ha
  clear hp hq
  go_enter Try.func23, Try.ntmps23
  go_wp2
  go_ret
  exact ⟨rfl, rfl⟩

def OffOut (b : Bld) (w : World) (e : Ending) (w' : World) : Prop := ∃ p, e = .returned (offV p) ∧ OffIs w'.heap.size w' p b ∧ Mod noB w w'
theorem off_out {b : Bld} {w w' : World} {x y z u : Nat} (h1 : Mod noB w w') (l1 : w'.heap[x]? = some (.cells #[.int .i64 b.f.1] 3)) (l2 : w'.heap[y]? = some (.cells #[.int .i64 b.w.1] 3)) (l3 : w'.heap[z]? = some (.cells #[.int .i64 b.f.2] 3)) (l4 : w'.heap[u]? = some (.cells #[.int .i64 b.w.2] 3)) :
    OffOut b w (.returned (.agg #[.func (.func 23) #[] #[.pointer (some ⟨x, 0, none⟩), .pointer (some ⟨y, 0, none⟩)], .func (.func 23) #[] #[.pointer (some ⟨z, 0, none⟩), .pointer (some ⟨u, 0, none⟩)]])) w' :=
  ⟨(x, y, z, u), rfl, ⟨at_ltS l1, at_ltS l2, at_ltS l3, at_ltS l4, l1, l2, l3, l4⟩, h1⟩

theorem Mod.setNewQ {T : Nat → Prop} {A B : World} (h : Mod T A B) {b o : Nat} (hb : A.heap.size ≤ b) (v : Value) : Mod T A (B.setCell ⟨b, o, none⟩ v) :=
  h.setCell (fun hl => absurd hl (by show ¬ (b < A.heap.size); omega)) v
theorem four_at {w w' : World} {v0 v1 v2 v3 : Value} (h : Mod noB (w.alloc (.cells #[v0, v1, v2, v3] 42)) w') :
    w'.cell? ⟨w.heap.size, 0, none⟩ = some v0 ∧ w'.cell? ⟨w.heap.size, 1, none⟩ = some v1 ∧ w'.cell? ⟨w.heap.size, 2, none⟩ = some v2 ∧ w'.cell? ⟨w.heap.size, 3, none⟩ = some v3 := by
  have hb := new_at w _ w' h
  exact ⟨cellsAt hb 0, cellsAt hb 1, cellsAt hb 2, cellsAt hb 3⟩
theorem six_new {w : World} {o1 o2 o3 o4 o5 o6 : Obj} {W : World} (hW : W = ((((((w.alloc o1).alloc o2).alloc o3).alloc o4).alloc o5).alloc o6).drew) :
    Mod noB w W ∧ W.heap[w.heap.size + 1 + 1]? = some o3 ∧ W.heap[w.heap.size + 1 + 1 + 1]? = some o4 ∧ W.heap[w.heap.size + 1 + 1 + 1 + 1]? = some o5 ∧ W.heap[w.heap.size + 1 + 1 + 1 + 1 + 1]? = some o6 := by
  subst hW
  have hL := allocL_at [o1, o2, o3, o4, o5, o6] w
  exact ⟨((((((((Mod.refl _ _).alloc _).alloc _).alloc _).alloc _).alloc _).alloc _).drew), hL 2 _ rfl, hL 3 _ rfl, hL 4 _ rfl, hL 5 _ rfl⟩

set_option maxHeartbeats 4000000 in
theorem offOf_any (b : Bld) (w : World) : Calls Try.prog 14 #[blV b] w (OffOut b w) := by
  obtain ⟨⟨f1, f2⟩, w1, w2⟩ := b
  go_enter Try.func14, Try.ntmps14
  go_wp2
  go_region_held3 (fun w' => w'.cell? ⟨w.heap.size, 0, none⟩ = some (.int .i64 f1) ∧ w'.cell? ⟨w.heap.size, 1, none⟩ = some (.int .i64 f2) ∧ w'.cell? ⟨w.heap.size, 2, none⟩ = some (.int .i64 w1) ∧ w'.cell? ⟨w.heap.size, 3, none⟩ = some (.int .i64 w2))
    (((try dsimp only); refine four_at (w := w) ?_; repeat (first | exact Mod.refl _ _ | refine Mod.drew ?_ | refine Mod.alloc ?_ _ | refine Mod.setNewQ ?_ (by simp) _)))
    (first | (go_at_call 22; refine (after_any _ _ _).mono ?_; rintro e w' ⟨rfl, rfl⟩))
  go_wp2
  obtain ⟨hm, h3, h4, h5, h6⟩ := six_new (w := w) rfl
  exact bodyPost_ret (v := .agg #[.func (.func 23) #[] #[.pointer (some ⟨w.heap.size + 1 + 1, 0, none⟩), .pointer (some ⟨w.heap.size + 1 + 1 + 1, 0, none⟩)], .func (.func 23) #[] #[.pointer (some ⟨w.heap.size + 1 + 1 + 1 + 1, 0, none⟩), .pointer (some ⟨w.heap.size + 1 + 1 + 1 + 1 + 1, 0, none⟩)]]) (by simp [results, Try.results14, go_sem]) rfl
    (off_out hm h3 h4 h5 h6)

set_option maxHeartbeats 1000000 in
theorem search_any (n : Int) (fn : Nat) (lb : Array Value) (p : Int → Bool) (w : World) (hn : 0 ≤ n ∧ n ≤ 1000000)
    (eg : ∀ args w, (callFunc fn args).run Try.prog w = .ok (.enter fn args) w)
    (hf : ∀ (k : Int) (w1 : World), 0 ≤ k → k < n → Mod noB w w1 → Calls Try.prog fn (#[.int .i64 k] ++ lb) w1 fun r w' => r = .returned (.bool (p k)) ∧ Mod noB w1 w') :
    Calls Try.prog 30 #[.int .i64 n, .func (.func fn) #[] lb] w fun e w' => ∃ i, e = .returned (.int .i64 i) ∧ 0 ≤ i ∧ i ≤ n ∧ (i = 0 ∨ p (i - 1) = false) ∧ (i = n ∨ p i = true) ∧ Mod noB w w' := by
  have HF := Hold.mk hf
  obtain ⟨n1, n2⟩ := hn
  clear hf
  go_enter Try.func30, Try.ntmps30
  go_wp2
  go_loopw [5, 6] (fun x y wr => ∃ i j : Int, 0 ≤ i ∧ i ≤ j ∧ j ≤ n ∧ x = .int .i64 i ∧ y = .int .i64 j ∧ (i = 0 ∨ p (i - 1) = false) ∧ (j = n ∨ p j = true) ∧ Mod noB w wr) (fun x y _ => (intOf y - intOf x).toNat)
  case atStart => exact ⟨0, n, by omega, by omega, by omega, rfl, rfl, .inl rfl, .inl rfl, Mod.refl _ _⟩
  case round =>
    obtain ⟨i, j, hi, hij, hj, rfl, rfl, h1, h2, hm⟩ := hrel
    have H := Hold.mk (And.intro h1 (And.intro h2 hm))
    clear h1 h2 hm
    by_cases hlt : i < j
    · cases hp : p ((i + j) / 2) with
      | true =>
        have HF' : Hold (Calls Try.prog fn (#[.int .i64 ((i + j) / 2)] ++ lb) wr fun r w' => r = .returned (.bool true) ∧ Mod noB wr w') := ⟨by rw [← hp]; exact HF.out _ wr (by omega) (by omega) H.out.2.2⟩
        have HP := Hold.mk hp
        clear hp
        go_wp2_with (refine HF'.out.mono ?_; rintro e w' ⟨rfl, hM⟩; have HM2 := Hold.mk hM; clear hM)
        go_roundw
        case rel => exact ⟨i, (i + j) / 2, by omega, by omega, by omega, rfl, rfl, H.out.1, .inr HP.out, H.out.2.2.trans HM2.out⟩
        case measure => simp [intOf]; omega
      | false =>
        have HF' : Hold (Calls Try.prog fn (#[.int .i64 ((i + j) / 2)] ++ lb) wr fun r w' => r = .returned (.bool false) ∧ Mod noB wr w') := ⟨by rw [← hp]; exact HF.out _ wr (by omega) (by omega) H.out.2.2⟩
        have HP := Hold.mk hp
        clear hp
        go_wp2_with (refine HF'.out.mono ?_; rintro e w' ⟨rfl, hM⟩; have HM2 := Hold.mk hM; clear hM)
        go_roundw
        case rel => exact ⟨(i + j) / 2 + 1, j, by omega, by omega, by omega, rfl, rfl, .inr (by rw [Int.add_sub_cancel]; exact HP.out), H.out.2.1, H.out.2.2.trans HM2.out⟩
        case measure => simp [intOf]; omega
    · obtain rfl : i = j := by omega
      go_wp2
      go_ret
      exact ⟨i, rfl, hi, hj, H.out.1, H.out.2.1, H.out.2.2⟩
end Go.Proofs.Ytnplhlcifagimaa

/- Off, Lasts. -/
namespace Go.Proofs.Ytnplhlcifagimaa
open Go.RowKit Go.Shelf

theorem enter66 : ∀ args w, (callFunc 31 args).run Try.prog w = .ok (.enter 31 args) w := enters_of Try.func31 (by kernel_rfl) rfl

/-- Is it off by more than the bound after one thousand more? -/
def pastB (a c bound n : Int) : Bool := decide (bound < a + (n + 1) * c)

set_option maxHeartbeats 1000000 in
theorem past_any (p q x y : Nat) (a c bound n : Int) (w : World) (hp : w.heap[p]? = some (.cells #[.int .i64 a] 3)) (hq : w.heap[q]? = some (.cells #[.int .i64 c] 3))
    (hx : w.heap[x]? = some (.cells #[.func (.func 23) #[] #[.pointer (some ⟨p, 0, none⟩), .pointer (some ⟨q, 0, none⟩)]] 45)) (hy : w.heap[y]? = some (.cells #[.int .i64 bound] 3))
    (ha : 0 ≤ a ∧ a ≤ 10000) (hc : 0 ≤ c ∧ c ≤ 10000) (hn : 0 ≤ n ∧ n ≤ 10000) :
    Calls Try.prog 31 #[.int .i64 n, .pointer (some ⟨x, 0, none⟩), .pointer (some ⟨y, 0, none⟩)] w fun e w' => e = .returned (.bool (pastB a c bound n)) ∧ Mod noB w w' := by
  have HC : Hold (∀ W', Mod noB w W' → Calls Try.prog 23 #[.int .i64 (n + 1), .pointer (some ⟨p, 0, none⟩), .pointer (some ⟨q, 0, none⟩)] W' fun e w'' => e = .returned (.int .i64 (a + (n + 1) * c)) ∧ W' = w'') :=
    ⟨fun W' h => clo_any p q a c (n + 1) W' (h.at hp id) (h.at hq id) ha hc (by omega)⟩
  have c1 := cellsAt hx 0
  have c2 := cellsAt hy 0
  have FIN : Hold (∀ W', Mod noB w W' → W'.cell? ⟨x, 0, none⟩ = some (.func (.func 23) #[] #[.pointer (some ⟨p, 0, none⟩), .pointer (some ⟨q, 0, none⟩)]) ∧ W'.cell? ⟨y, 0, none⟩ = some (.int .i64 bound)) := ⟨fun W' h => ⟨(cellsAt (h.at hx id) 0), (cellsAt (h.at hy id) 0)⟩⟩
  have hb : Hold (pastB a c bound n = decide (bound < a + (n + 1) * c)) := ⟨rfl⟩
  generalize pastB a c bound n = pb at *
  generalize hv : a + (n + 1) * c = v at *
  have v1 : IntKind.i64.wrap (n + 1) = n + 1 := IntWalk.i64_in _ (by omega)
  obtain ⟨n1, n2⟩ := hn
  clear hp hq hx hy ha hc hv
  go_enter Try.func31, Try.ntmps31
  go_wp2
  refine region_quietP (by kernel_rfl) (by kernel_rfl) (fun W' => Mod noB w W') ((Mod.refl _ _).drew) ?_
  repeat
    (first
      | go_big_quiet_skip
      | (go_big_quiet_want
         go_simp
         first
           | go_big_quiet_on
           | (apply Exists.intro
              refine ⟨fun W' hC => ?_, ?_⟩
              · obtain ⟨q0, q1⟩ := FIN.out W' hC
                first
                  | (go_at_call 23; refine (HC.out _ hC).mono fun e w'' he => ⟨he.1, he.2 ▸ hC⟩)
                  | with_reducible rfl
                  | (go_simp; first | rfl | exact ⟨rfl, rfl⟩)
              go_big_quiet_on)
           | (refine ⟨⟨_, fun _ _ => rfl⟩, ?_⟩; go_big_quiet_on)))
  refine wpQuiet_nil ?_
  intro Wq hq
  have HQ := Hold.mk hq
  clear hq
  go_wp2
  go_ret
  exact ⟨by rw [hb.out]; rfl, HQ.out⟩

set_option maxHeartbeats 1000000 in
theorem lasts_any (p q : Nat) (a c bound : Int) (w : World) (hp : w.heap[p]? = some (.cells #[.int .i64 a] 3)) (hq : w.heap[q]? = some (.cells #[.int .i64 c] 3))
    (ha : 0 ≤ a ∧ a ≤ 10000) (hc : 0 ≤ c ∧ c ≤ 10000) (hab : a ≤ bound) :
    Calls Try.prog 18 #[.func (.func 23) #[] #[.pointer (some ⟨p, 0, none⟩), .pointer (some ⟨q, 0, none⟩)], .int .i64 bound] w fun e w' => e = .returned (.int .i64 (lastR a c bound)) ∧ Mod noB w w' := by
  obtain ⟨W1, hW1⟩ : ∃ W1, (w.alloc (.cells #[.func (.func 23) #[] #[.pointer (some ⟨p, 0, none⟩), .pointer (some ⟨q, 0, none⟩)]] 45)).alloc (.cells #[.int .i64 bound] 3) = W1 := ⟨_, rfl⟩
  have hm0 : Mod noB w W1 := by rw [← hW1]; exact ((Mod.refl _ _).alloc _).alloc _
  have hx : W1.heap[w.heap.size]? = some (.cells #[.func (.func 23) #[] #[.pointer (some ⟨p, 0, none⟩), .pointer (some ⟨q, 0, none⟩)]] 45) := by rw [← hW1]; exact allocL_at [_, _] w 0 _ rfl
  have hy : W1.heap[w.heap.size + 1]? = some (.cells #[.int .i64 bound] 3) := by rw [← hW1]; exact allocL_at [_, _] w 1 _ rfl
  have HS := Hold.mk (search_any 7000 31 #[.pointer (some ⟨w.heap.size, 0, none⟩), .pointer (some ⟨w.heap.size + 1, 0, none⟩)] (pastB a c bound) W1 (by omega) enter66
    (fun k w1 h0 h7 hm => past_any p q w.heap.size (w.heap.size + 1) a c bound k w1 ((hm0.trans hm).at hp id) ((hm0.trans hm).at hq id) (hm.at hx id) (hm.at hy id) ha hc (by omega)))
  have HM := Hold.mk hm0
  have HL : Hold (∀ i, 0 ≤ i → i ≤ 7000 → (i = 0 ∨ pastB a c bound (i - 1) = false) → (i = 7000 ∨ pastB a c bound i = true) → i = lastR a c bound) := ⟨fun i h0 h7 h1 h2 => by
    refine lastR_of hc.1 h0 h7 ?_ ?_
    · rcases h1 with rfl | h1
      · omega
      · simp only [pastB, decide_eq_false_iff_not, Int.not_lt, Int.sub_add_cancel] at h1
        exact h1
    · rcases h2 with h2 | h2
      · exact .inl h2
      · simp only [pastB, decide_eq_true_eq] at h2
        exact .inr h2⟩
  clear hp hq ha hc hab hm0 hx hy
  go_enter Try.func18, Try.ntmps18
  go_wp2_with (go_at_call 30; (try rw [hW1]); refine HS.out.mono ?_; rintro e w' ⟨i, rfl, h0, h7, h1, h2, hM⟩; have hi := HL.out i h0 h7 h1 h2; have HI := Hold.mk hi; have HM2 := Hold.mk hM; clear h0 h7 h1 h2 hM hi)
  go_ret
  exact ⟨ret_i64Q HI.out, HM.out.trans HM2.out⟩
end Go.Proofs.Ytnplhlcifagimaa

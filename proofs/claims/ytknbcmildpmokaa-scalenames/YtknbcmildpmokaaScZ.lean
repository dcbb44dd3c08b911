/- Maps of lists; the set of the tests that a list could pass. -/
import Derived.Test.YtknbcmildpmokaaScY
import Derived.DeepKeys4
import Derived.Maps.Own
import Derived.Maps.OwnSet
import Derived.Maps.OwnIn
import Derived.Maps.Views
import Derived.Maps.RangeWalk
import Derived.Laws.BitsLemmas
set_option linter.unusedSimpArgs false
set_option linter.unusedVariables false
namespace Go.Proofs.Ytknbcmildpmokaa
open Go.RowKit Go.Shelf Go.Maps Go.WideMaps


abbrev wf64 (n : Int) : Prop := (Lit.int .i64 n).wf = true
theorem wf64_of {n : Int} (h1 : -9223372036854775808 ≤ n) (h2 : n ≤ 9223372036854775807) : wf64 n := WalkArith.wf_i64 (by omega)
theorem laidOut : laidOutB Try.prog = true := by kernel_rfl
theorem row77 : (77 : TypeId) < Try.prog.types.size := of_decide_eq_true (by kernel_rfl)
theorem wide77 : (match Try.prog.underlying 77 with | some (.array _ _) | some (.struct _) => true | _ => false) = true := by kernel_rfl
set_option maxRecDepth 100000 in
theorem law77 : Keyed Try.prog 77 := Keyed.of_law (deep_law_laid laidOut (m := 2) (by omega) row77 (by kernel_rfl) wide77)
theorem keyType77 : Try.prog.keyType 77 = true := by kernel_rfl
theorem cells77 : Try.prog.cellsOf 77 = 4 := by kernel_rfl
theorem cells3 : Try.prog.cellsOf 3 = 1 := by kernel_rfl
theorem posN {P : Program} {k : Nat} (h : k < P.types.size) : ∃ n, P.types.size = n + 1 := ⟨_, (Nat.succ_pred_eq_of_pos (Nat.lt_of_le_of_lt (Nat.zero_le _) h)).symm⟩
theorem typesN : ∃ n, Try.prog.types.size = n + 1 := posN row77
set_option maxRecDepth 100000 in
theorem key77 {r : List Int} (h : ∀ k, k < 4 → wf64 (r[k]?.getD 0)) : ∃ l, keyOf Try.prog 77 (liV r) = some l := by
  have hf : (liV r).formed Try.prog 77 = true := by simp [Value.formed, Try.underlying77, cells77]
  have hc : (liV r).cells.toList = [.int .i64 (r[0]?.getD 0), .int .i64 (r[1]?.getD 0), .int .i64 (r[2]?.getD 0), .int .i64 (r[3]?.getD 0)] := by simp [Value.cells]
  obtain ⟨N, hN⟩ := typesN
  have h0 : ∀ n : Int, wf64 n → Try.prog.keyLits (N + 1) 3 [.int .i64 n] = some [.int .i64 n] := fun n hn => by
    unfold Program.keyLits
    rw [Try.underlying3]
    simp [hn]
  have hl : Try.prog.keyLits (N + 1 + 1) 77 [.int .i64 (r[0]?.getD 0), .int .i64 (r[1]?.getD 0), .int .i64 (r[2]?.getD 0), .int .i64 (r[3]?.getD 0)] = some [.int .i64 (r[0]?.getD 0), .int .i64 (r[1]?.getD 0), .int .i64 (r[2]?.getD 0), .int .i64 (r[3]?.getD 0)] := by
    unfold Program.keyLits
    rw [Try.underlying77]
    have e : List.range 4 = [0, 1, 2, 3] := rfl
    simp only [cells77, cells3, e]
    simp [h0 _ (h 0 (by omega)), h0 _ (h 1 (by omega)), h0 _ (h 2 (by omega)), h0 _ (h 3 (by omega))]
  unfold keyOf
  rw [Try.underlying77]
  simp only [keyType77, hf, Bool.and_self, if_true, hN, hc, hl]
  exact ⟨_, rfl⟩
theorem liV_inj {x y : List Int} (h : liV x = liV y) (hl : x.length = y.length) (h4 : x.length ≤ 4) : x = y := by
  simp only [Value.agg.injEq, Array.mk.injEq, List.cons.injEq, Value.int.injEq, true_and, and_true] at h
  obtain ⟨h0, h1, h2, h3⟩ := h
  apply List.ext_getElem? fun i => ?_
  by_cases hi : i < x.length
  · have hy : i < y.length := by omega
    have hp : i = 0 ∨ i = 1 ∨ i = 2 ∨ i = 3 := by omega
    have : x[i]?.getD 0 = y[i]?.getD 0 := by rcases hp with rfl | rfl | rfl | rfl <;> assumption
    rw [List.getElem?_eq_getElem hi, List.getElem?_eq_getElem hy] at this ⊢
    exact congrArg some this
  · rw [List.getElem?_eq_none (by omega), List.getElem?_eq_none (by omega)]
/-- The key of a list. -/
noncomputable def kx (x : List Int) : Lit := (keyOf Try.prog 77 (liV x)).getD (.string [])
/-- A list that is a key. -/
def KeyOk (n : Nat) (x : List Int) : Prop := x.length = n ∧ n ≤ 4 ∧ ∀ z ∈ x, -10000 ≤ z ∧ z ≤ 10000
theorem kx_key {n : Nat} {x : List Int} (h : KeyOk n x) : keyOf Try.prog 77 (liV x) = some (kx x) := by
  obtain ⟨l, hl⟩ := key77 (r := x) (fun k _ => by
    cases hz : x[k]? with
    | none => exact wf64_of (by simp) (by simp)
    | some z =>
      have := h.2.2 z (List.mem_of_getElem? hz)
      exact wf64_of (by simp only [Option.getD_some]; omega) (by simp only [Option.getD_some]; omega))
  rw [kx, hl]; rfl
set_option maxRecDepth 100000 in
theorem kx_is {n : Nat} {x : List Int} (h : KeyOk n x) : WideAt.IsKeyLit (kx x) := law77.key (v := liV x) (kx_key h)
set_option maxRecDepth 100000 in
theorem kx_inj {n : Nat} {x y : List Int} (hx : KeyOk n x) (hy : KeyOk n y) (h : kx x = kx y) : x = y := by
  have h1 := kx_key hx
  have h2 := kx_key hy
  rw [← h] at h2
  exact liV_inj (law77.inj h1 h2) (by rw [hx.1, hy.1]) (by rw [hx.1]; exact hx.2.1)
/-- A map tells of just these lists what f does. -/
structure Told (n : Nat) (f : List Int → Nat) (L : List (List Int)) (D : DataW Unit) : Prop where
  ok : ∀ x ∈ L, KeyOk n x
  is : IsMap D
  val : ∀ x ∈ L, ∀ z, D.atKey (kx x) z = .lit (.int .i64 (f x))
  only : ∀ k, has D k = true → ∃ x ∈ L, kx x = k
theorem told_nil (n : Nat) (f : List Int → Nat) : Told n f [] (.map []) := ⟨fun _ h => (by cases h), isMap_empty, fun _ h => (by cases h), fun k h => (by rw [has_eq] at h; cases h)⟩
set_option maxRecDepth 100000 in
theorem Told.put {n : Nat} {f : List Int → Nat} {L : List (List Int)} {D : DataW Unit} (h : Told n f L D) {x : List Int} (hx : KeyOk n x) : Told n f (L ++ [x]) (D.put (kx x) (.lit (.int .i64 (f x)))) := by
  have hk := kx_is hx
  refine ⟨fun y hy => ?_, h.is.put _ _, fun y hy z => ?_, fun k hk2 => ?_⟩
  · rcases List.mem_append.1 hy with hy | hy
    · exact h.ok y hy
    · rw [List.mem_singleton.1 hy]; exact hx
  · by_cases e : kx y = kx x
    · have hyo : KeyOk n y := by
        rcases List.mem_append.1 hy with hy | hy
        · exact h.ok y hy
        · rw [List.mem_singleton.1 hy]; exact hx
      rw [kx_inj hyo hx e, atKey_put_same h.is hk]
    · rcases List.mem_append.1 hy with hy | hy
      · rw [atKey_put_other e]; exact h.val y hy z
      · exact absurd (by rw [List.mem_singleton.1 hy]) e
  · by_cases e : k = kx x
    · exact ⟨x, by simp, e.symm⟩
    · rw [has_put_other e] at hk2
      obtain ⟨y, hy, hyk⟩ := h.only k hk2
      exact ⟨y, by simp [hy], hyk⟩
/-- What has come out of the map. -/
theorem Told.came {n : Nat} {f : List Int → Nat} {L : List (List Int)} {D : DataW Unit} (h : Told n f L D) {kl : Lit} {d : DataW Unit} (hat : ∀ zd, D.atKey kl zd = d) : ∃ x ∈ L, kx x = kl ∧ d = .lit (.int .i64 (f x)) := by
  obtain ⟨x, hx, hk⟩ := h.only kl (has_true_of_atKey hat)
  exact ⟨x, hx, hk, by rw [← hat .nil, ← hk, h.val x hx]⟩

/-! ### Sets of tests -/
theorem passSet_snoc (b : Bx) (x : List Int) (t : Tst) : ∀ (ts : List Tst) (i : Nat), passSet b x i (ts ++ [t]) = passSet b x i ts + (if passB b t x then 2 ^ (i + ts.length) else 0) := by
  intro ts
  induction ts with
  | nil => intro i; simp [passSet]
  | cons s ts ih =>
    intro i
    rw [List.cons_append, passSet, passSet, ih, List.length_cons]
    have : i + 1 + ts.length = i + (ts.length + 1) := by omega
    rw [this]; omega
theorem passSet_lt (b : Bx) (x : List Int) : ∀ (ts : List Tst) (i : Nat), passSet b x i ts + 2 ^ i ≤ 2 ^ (i + ts.length) := by
  intro ts
  induction ts with
  | nil => intro i; simp [passSet]
  | cons s ts ih =>
    intro i
    have := ih (i + 1)
    have e : i + 1 + ts.length = i + (ts.length + 1) := by omega
    rw [passSet, List.length_cons, ← e]
    have h2 : 2 ^ (i + 1) = 2 ^ i + 2 ^ i := by rw [Nat.pow_succ]; omega
    have := Nat.two_pow_pos i
    split <;> omega
theorem passSet_small {b : Bx} {x : List Int} {ts : List Tst} (h : ts.length ≤ 8) : passSet b x 0 ts < 256 := by
  have := passSet_lt b x ts 0
  have h2 : 2 ^ (0 + ts.length) ≤ 2 ^ 8 := Nat.pow_le_pow_right (by decide) (by omega)
  omega
def passT (b : Bx) (x : List Int) (ts : List Tst) (k : Nat) : Nat := passSet b x 0 (ts.take k)
theorem passT_next {b : Bx} {x : List Int} {ts : List Tst} {k : Nat} {t : Tst} (h : ts[k]? = some t) : passT b x ts (k + 1) = passT b x ts k ||| (if passB b t x then 2 ^ k else 0) := by
  have hk := (List.getElem?_eq_some_iff.1 h).1
  have hl : (ts.take k).length = k := by rw [List.length_take]; omega
  unfold passT
  rw [take_snoc' h, passSet_snoc, hl, Nat.zero_add]
  have hlt : passSet b x 0 (ts.take k) < 2 ^ k := by
    have := passSet_lt b x (ts.take k) 0
    rw [hl, Nat.zero_add] at this; omega
  split
  · have := Nat.two_pow_add_eq_or_of_lt hlt 1
    rw [Nat.mul_one] at this
    rw [Nat.or_comm, ← this, Nat.add_comm]
  · rw [Nat.or_zero, Nat.add_zero]
theorem passT_all (b : Bx) (x : List Int) (ts : List Tst) : passT b x ts ts.length = passSet b x 0 ts := by rw [passT, List.take_length]
theorem passT_small {b : Bx} {x : List Int} {ts : List Tst} (h : ts.length ≤ 8) (k : Nat) : passT b x ts k < 256 := passSet_small (by rw [List.length_take]; omega)
theorem bit_or {u y : Nat} (hu : u < 256) (hy : y < 8) : bits .or .i64 (u : Int) (2 ^ y) = ((u ||| 2 ^ y : Nat) : Int) := by
  have hp : (2 : Int) ^ y = ((2 ^ y : Nat) : Int) := by simp
  have h2 : 2 ^ y < 2 ^ 20 := Nat.pow_lt_pow_right (by decide) (by omega)
  rw [hp, (bits_nat .i64 20 (by decide) wraps_small u (2 ^ y) (by omega) h2).2]
theorem bit_andNot {a b : Nat} (ha : a < 256) (hb : b < 256) : (bits .andNot .i64 (a : Int) (b : Int) == 0) = (a &&& b == a) := by
  have e : bits .andNot .i64 (a : Int) (b : Int) = (((BitVec.ofNat 64 a &&& ~~~ BitVec.ofNat 64 b).toNat : Nat) : Int) := by
    have hle : (BitVec.ofNat 64 a &&& ~~~ BitVec.ofNat 64 b).toNat ≤ a := by
      rw [BitVec.toNat_and, BitVec.toNat_ofNat, Nat.mod_eq_of_lt (by omega)]
      exact Nat.and_le_left
    have e0 : bits .andNot .i64 (a : Int) (b : Int) = IntKind.i64.wrap (((BitVec.ofInt 64 (a : Int) &&& ~~~ BitVec.ofInt 64 (b : Int)).toNat : Nat) : Int) := rfl
    rw [e0, BitVec.ofInt_natCast, BitVec.ofInt_natCast]
    exact IntWalk.i64_in _ (by omega)
  rw [e]
  have h1 : (((BitVec.ofNat 64 a &&& ~~~ BitVec.ofNat 64 b).toNat : Nat) : Int) = 0 ↔ a &&& b = a := by
    rw [Int.natCast_eq_zero]
    have ma : a % 2 ^ 64 = a := Nat.mod_eq_of_lt (by omega)
    have mb : b % 2 ^ 64 = b := Nat.mod_eq_of_lt (by omega)
    have e2 : (BitVec.ofNat 64 a &&& ~~~ BitVec.ofNat 64 b).toNat = 0 ↔ BitVec.ofNat 64 a &&& ~~~ BitVec.ofNat 64 b = 0#64 := by
      constructor
      · intro h; apply BitVec.eq_of_toNat_eq; rw [h]; rfl
      · intro h; rw [h]; rfl
    have e3 : a &&& b = a ↔ BitVec.ofNat 64 a &&& BitVec.ofNat 64 b = BitVec.ofNat 64 a := by
      constructor
      · intro h; apply BitVec.eq_of_toNat_eq; rw [BitVec.toNat_and, BitVec.toNat_ofNat, BitVec.toNat_ofNat, ma, mb, h]
      · intro h; have := congrArg BitVec.toNat h; rwa [BitVec.toNat_and, BitVec.toNat_ofNat, BitVec.toNat_ofNat, ma, mb] at this
    rw [e2, e3]
    generalize BitVec.ofNat 64 a = x
    generalize BitVec.ofNat 64 b = y
    constructor
    · intro h
      apply BitVec.eq_of_getLsbD_eq
      intro i hi
      have := congrArg (fun v => v.getLsbD i) h
      simp [hi] at this ⊢
      exact this
    · intro h
      apply BitVec.eq_of_getLsbD_eq
      intro i hi
      have := congrArg (fun v => v.getLsbD i) h
      simp [hi] at this ⊢
      exact this
  by_cases h : a &&& b = a
  · rw [h1.2 h, h]; simp
  · have h2 : ¬ (((BitVec.ofNat 64 a &&& ~~~ BitVec.ofNat 64 b).toNat : Nat) : Int) = 0 := fun e => h (h1.1 e)
    rw [beq_eq_false_iff_ne.2 h2, beq_eq_false_iff_ne.2 h]

end Go.Proofs.Ytknbcmildpmokaa

/- whole: are all cells of a block of one piece? -/
import Derived.Test.YtogalmkeipigeaaNumbers
import Derived.Test.YtogalmkeipigeaaTally
set_option linter.unusedSimpArgs false
set_option linter.unusedVariables false
namespace Go.Proofs.Ytogalmkeipigeaa
open Go.RowKit Go.Shelf

theorem key3_inv {v : Value} {l : Lit} (h : keyOf Try.prog 3 v = some l) : ∃ n, v = .int .i64 n := by
  rw [keyOf_int Try.underlying3] at h
  unfold mapKey at h
  rw [Try.underlying3] at h
  cases v <;> simp at h
  rename_i q n
  exact ⟨n, by rw [h.1.1]⟩

/-- Are all numbers of a list the same, and is there one? -/
def wholeB : List Int → Bool
  | [] => false
  | a :: t => t.all (· == a)
theorem wholeB_iff (L : List Int) : wholeB L = true ↔ L ≠ [] ∧ ∃ a, ∀ x ∈ L, x = a := by
  cases L with
  | nil => simp [wholeB]
  | cons a t =>
    simp only [wholeB, List.all_eq_true, beq_iff_eq, ne_eq, reduceCtorEq, not_false_eq_true, true_and, List.mem_cons, forall_eq_or_imp]
    constructor
    · intro h; exact ⟨a, rfl, h⟩
    · rintro ⟨b, rfl, h⟩; exact h

theorem map_one {w : World} {b : Nat} {L : List Int} (h : MapIs Try.prog 3 intV w b (tal L)) : ∃ es c, w.heap[b]? = some (.map es c) ∧ decide (es.size = 1) = wholeB L := by
  obtain ⟨es, c, hb, hk, hu, hg⟩ := h
  refine ⟨es, c, hb, ?_⟩
  have inL : ∀ e ∈ es.toList, ∃ n, e.key = intV n ∧ n ∈ L := fun e he => by
    obtain ⟨l, hl⟩ := hk e he
    obtain ⟨n, hn⟩ := key3_inv hl
    obtain ⟨m, hm, _⟩ := (hg n).1 e he hn
    refine ⟨n, hn, ?_⟩
    unfold tal at hm
    split at hm
    · assumption
    · cases hm
  have ofL : ∀ n ∈ L, ∃ e ∈ es.toList, e.key = intV n := fun n hn => by
    apply Classical.byContradiction
    intro hno
    have := (hg n).2 (fun e he hx => hno ⟨e, he, hx⟩)
    unfold tal at this
    rw [if_pos hn] at this
    cases this
  rw [Bool.eq_iff_iff, wholeB_iff, decide_eq_true_eq]
  constructor
  · intro h1
    obtain ⟨e0, h0⟩ : ∃ e0, es.toList = [e0] := List.length_eq_one_iff.1 (by simpa using h1)
    obtain ⟨n0, hn0, hm0⟩ := inL e0 (by rw [h0]; simp)
    refine ⟨List.ne_nil_of_mem hm0, n0, fun x hx => ?_⟩
    obtain ⟨e, he, hx2⟩ := ofL x hx
    rw [h0, List.mem_singleton] at he
    subst he
    exact intV_inj _ _ (hx2.symm.trans hn0)
  · rintro ⟨hne, a, ha⟩
    obtain ⟨x, hx⟩ := List.exists_mem_of_ne_nil L hne
    obtain ⟨e, he, _⟩ := ofL x hx
    have hpos : 0 < es.toList.length := List.length_pos_of_mem he
    have hone : es.toList.length ≤ 1 := by
      apply Classical.byContradiction
      intro hgt
      have h0 : es.toList[0]? = some (es.toList[0]'(by omega)) := List.getElem?_eq_getElem (by omega)
      have h1 : es.toList[1]? = some (es.toList[1]'(by omega)) := List.getElem?_eq_getElem (by omega)
      obtain ⟨n0, k0, m0⟩ := inL _ (List.getElem_mem (by omega : 0 < es.toList.length))
      obtain ⟨n1, k1, m1⟩ := inL _ (List.getElem_mem (by omega : 1 < es.toList.length))
      have := hu 0 1 _ _ h0 h1 (by rw [k0, k1, ha n0 m0, ha n1 m1])
      omega
    simp only [Array.length_toList] at hpos hone
    omega

theorem numbersL_short (g : Int × Int → Option Int) {lt tp rt bt : Nat} (h2 : rt ≤ 12) (h4 : bt ≤ 12) : (numbersL g lt tp rt bt).length ≤ 1000000 := by
  unfold numbersL
  rw [List.length_map, cellsL_len]
  exact Nat.le_trans (Nat.mul_le_mul (Nat.le_trans (Nat.sub_le _ _) h4) (Nat.le_trans (Nat.sub_le _ _) h2)) (by decide : 12 * 12 ≤ 1000000)
theorem cellsL_box {lt tp rt bt : Nat} {p : Int × Int} (h : p ∈ cellsL lt tp rt bt) : (lt : Int) ≤ p.1 ∧ p.1 < rt ∧ (tp : Int) ≤ p.2 ∧ p.2 < bt := by
  simp only [cellsL, List.mem_map, List.mem_range] at h
  obtain ⟨m, hm, rfl⟩ := h
  have hpos : 0 < rt - lt := by
    rcases Nat.eq_zero_or_pos (rt - lt) with e | e
    · rw [e] at hm; simp at hm
    · exact e
  have h1 := Nat.mod_lt m hpos
  have h3 : m / (rt - lt) < bt - tp := (Nat.div_lt_iff_lt_mul hpos).2 hm
  generalize m % (rt - lt) = u at *
  generalize m / (rt - lt) = v at *
  refine ⟨?_, ?_, ?_, ?_⟩
  · show (lt : Int) ≤ ((lt + u : Nat) : Int)
    omega
  · show ((lt + u : Nat) : Int) < rt
    omega
  · show (tp : Int) ≤ ((tp + v : Nat) : Int)
    omega
  · show ((tp + v : Nat) : Int) < bt
    omega
theorem numbersL_le {g : Int × Int → Option Int} {W H : Nat} (G : Grid g W H) {lt tp rt bt : Nat} (h2 : rt ≤ W) (h4 : bt ≤ H) {x : Int} (hx : x ∈ numbersL g lt tp rt bt) : 0 ≤ x ∧ x < 40 := by
  unfold numbersL at hx
  obtain ⟨p, hp, rfl⟩ := List.mem_map.1 hx
  obtain ⟨a1, a2, a3, a4⟩ := cellsL_box hp
  exact G.at_in ⟨by omega, by omega, by omega, by omega⟩

theorem tallyNumbers (g : Int × Int → Option Int) (W H : Nat) (G : Grid g W H) (N : Int) (mb lt tp rt bt : Nat) (h1 : lt ≤ rt) (h2 : rt ≤ W) (h3 : tp ≤ bt) (h4 : bt ≤ H) (w : World) (hm : MapIs Try.prog 106 cellV w mb g) :
    Calls Try.prog 48 #[.func (.func 88) #[] #[.pointer (some ⟨w.heap.size + 1, 0, none⟩), .pointer (some ⟨w.heap.size, 0, none⟩)]] ((w.alloc (.cells #[.int .i64 W, .int .i64 H, .int .i64 N, .map (some mb)] 71)).alloc (.cells #[.int .i64 lt, .int .i64 tp, .int .i64 rt, .int .i64 bt] 97)) fun e w' =>
      ∃ mb2, e = .returned (.map (some mb2)) ∧ Mod noB w w' ∧ MapIs Try.prog 3 intV w' mb2 (tal (numbersL g lt tp rt bt)) := by
  rw [allocL2]
  have hM := allocL_mod noB [.cells #[.int .i64 W, .int .i64 H, .int .i64 N, .map (some mb)] 71, .cells #[.int .i64 lt, .int .i64 tp, .int .i64 rt, .int .i64 bt] 97] w
  have hz := allocL_size [.cells #[.int .i64 W, .int .i64 H, .int .i64 N, .map (some mb)] 71, .cells #[.int .i64 lt, .int .i64 tp, .int .i64 rt, .int .i64 bt] 97] w
  have b0 := allocL_at [.cells #[.int .i64 W, .int .i64 H, .int .i64 N, .map (some mb)] 71, .cells #[.int .i64 lt, .int .i64 tp, .int .i64 rt, .int .i64 bt] 97] w 0 _ rfl
  have b1 := allocL_at [.cells #[.int .i64 W, .int .i64 H, .int .i64 N, .map (some mb)] 71, .cells #[.int .i64 lt, .int .i64 tp, .int .i64 rt, .int .i64 bt] 97] w 1 _ rfl
  generalize allocL w [.cells #[.int .i64 W, .int .i64 H, .int .i64 N, .map (some mb)] 71, .cells #[.int .i64 lt, .int .i64 tp, .int .i64 rt, .int .i64 bt] 97] = W1 at *
  have hm1 := hm.same (hM.block mb hm.lt id)
  have hlt := hm.lt
  have hw2 := G.w2
  have hh2 := G.h2
  simp only [List.length_cons, List.length_nil] at hz
  refine (tallyInt_any 88 _ _ _ W1 (numbers1_runs (w.heap.size + 1) w.heap.size mb lt tp rt bt W H N g W1 b1 b0 hm1 h1 (by omega) h3 (by omega)) ?_ enter88 ?_ (numbersL_short g (by omega) (by omega))).mono ?_
  · rintro k (rfl | rfl | rfl) <;> omega
  · intro x hx
    have := numbersL_le G h2 h4 hx
    exact key3 (wf64_of (by omega) (by omega))
  · rintro e w' ⟨mb2, rfl, h1, _, h2⟩
    exact ⟨mb2, rfl, hM.trans h1, h2⟩

@[reducible] def blockV (lt tp rt bt : Nat) : Value := .agg #[.int .i64 lt, .int .i64 tp, .int .i64 rt, .int .i64 bt]

set_option maxRecDepth 100000 in
set_option maxHeartbeats 2000000 in
theorem whole_is (g : Int × Int → Option Int) (W H : Nat) (G : Grid g W H) (N : Int) (mb lt tp rt bt : Nat) (h1 : lt ≤ rt) (h2 : rt ≤ W) (h3 : tp ≤ bt) (h4 : bt ≤ H) (w : World) (hm : MapIs Try.prog 106 cellV w mb g) :
    Calls Try.prog 78 #[picV W H N mb, blockV lt tp rt bt] w fun e w' => e = .returned (.bool (wholeB (numbersL g lt tp rt bt))) ∧ Mod noB w w' := by
  have ht := tallyNumbers g W H G N mb lt tp rt bt h1 h2 h3 h4 ((w.alloc (.cells #[.int .i64 W, .int .i64 H, .int .i64 N, .map (some mb)] 71)).alloc (.cells #[.int .i64 lt, .int .i64 tp, .int .i64 rt, .int .i64 bt] 97)) ((hm.alloc _).alloc _)
  simp only [World.size_alloc] at ht
  have HT := Hold.mk ht
  have HM0 := Hold.mk (((Mod.refl noB w).alloc (.cells #[.int .i64 W, .int .i64 H, .int .i64 N, .map (some mb)] 71)).alloc (.cells #[.int .i64 lt, .int .i64 tp, .int .i64 rt, .int .i64 bt] 97))
  clear ht hm G
  go_enter Try.func78, Try.ntmps78
  go_wp2_with (first
    | (go_at_call 84; refine (numbers_any _ _ _ _ _ _ _ _ _).mono ?_; rintro e w' ⟨rfl, rfl⟩)
    | (go_at_call 48; refine HT.out.mono ?_; rintro e w4 ⟨mb2, rfl, hM4, hmp4⟩; obtain ⟨es, cl, hes, hone⟩ := map_one hmp4; have hln := run_len_map (P := Try.prog) (w := w4) 78 3 mb2 es cl (by kernel_rfl) hes; have hbq : (((es.size : Nat) : Int) == 1) = wholeB (numbersL g lt tp rt bt) := (by rw [← hone, Bool.eq_iff_iff]; simp; omega); have HM4 := Hold.mk hM4; clear hM4 hmp4 hone hes))
  go_ret
  exact ⟨rfl, HM0.out.trans HM4.out⟩
end Go.Proofs.Ytogalmkeipigeaa

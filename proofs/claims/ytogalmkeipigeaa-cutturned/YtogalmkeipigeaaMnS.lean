/- Several texts in one (a claim holds at most 60 files): each has its own words ahead of it. -/
import Derived.Test.YtogalmkeipigeaaNumbers
import Derived.Test.YtogalmkeipigeaaTally
import Derived.Test.YtogalmkeipigeaaOutside
import Derived.Test.YtogalmkeipigeaaTail
import Derived.Laws.ResultCell
import Derived.Deep.RegionHeld3
import Derived.Test.YtogalmkeipigeaaOpen
import Derived.Test.YtogalmkeipigeaaSame
import Derived.Test.YtogalmkeipigeaaOpened
set_option linter.unusedSimpArgs false
set_option linter.unusedVariables false

/- whole: are all cells of a block of one piece? -/
namespace Go.Proofs.Ytogalmkeipigeaa
open Go.RowKit Go.Shelf

theorem key3_inv {v : Value} {l : Lit} (h : keyOf Try.prog 3 v = some l) : ∃ n, v = .int .i64 n := by
  rw [keyOf_int Try.underlying3] at h
  unfold mapKey at h
  rw [Try.underlying3] at h
  cases v <;> simp at h
  rename_i q n
  exact ⟨n, by rw [h.1.1]⟩

/-- Are all numbers of a list the same, and is there one? -/
def wholeB : List Int → Bool
  | [] => false
  | a :: t => t.all (· == a)
theorem wholeB_iff (L : List Int) : wholeB L = true ↔ L ≠ [] ∧ ∃ a, ∀ x ∈ L, x = a := by
  cases L with
  | nil => simp [wholeB]
  | cons a t =>
    simp only [wholeB, List.all_eq_true, beq_iff_eq, ne_eq, reduceCtorEq, not_false_eq_true, true_and, List.mem_cons, forall_eq_or_imp]
    constructor
    · intro h; exact ⟨a, rfl, h⟩
    · rintro ⟨b, rfl, h⟩; exact h

theorem map_one {w : World} {b : Nat} {L : List Int} (h : MapIs Try.prog 3 intV w b (tal L)) : ∃ es c, w.heap[b]? = some (.map es c) ∧ decide (es.size = 1) = wholeB L := by
  obtain ⟨es, c, hb, hk, hu, hg⟩ := h
  refine ⟨es, c, hb, ?_⟩
  have inL : ∀ e ∈ es.toList, ∃ n, e.key = intV n ∧ n ∈ L := fun e he => by
    obtain ⟨l, hl⟩ := hk e he
    obtain ⟨n, hn⟩ := key3_inv hl
    obtain ⟨m, hm, _⟩ := (hg n).1 e he hn
    refine ⟨n, hn, ?_⟩
    unfold tal at hm
    split at hm
    · assumption
    · cases hm
  have ofL : ∀ n ∈ L, ∃ e ∈ es.toList, e.key = intV n := fun n hn => by
    apply Classical.byContradiction
    intro hno
    have := (hg n).2 (fun e he hx => hno ⟨e, he, hx⟩)
    unfold tal at this
    rw [if_pos hn] at this
    cases this
  rw [Bool.eq_iff_iff, wholeB_iff, decide_eq_true_eq]
  constructor
  · intro h1
    obtain ⟨e0, h0⟩ : ∃ e0, es.toList = [e0] := List.length_eq_one_iff.1 (by simpa using h1)
    obtain ⟨n0, hn0, hm0⟩ := inL e0 (by rw [h0]; simp)
    refine ⟨List.ne_nil_of_mem hm0, n0, fun x hx => ?_⟩
    obtain ⟨e, he, hx2⟩ := ofL x hx
    rw [h0, List.mem_singleton] at he
    subst he
    exact intV_inj _ _ (hx2.symm.trans hn0)
  · rintro ⟨hne, a, ha⟩
    obtain ⟨x, hx⟩ := List.exists_mem_of_ne_nil L hne
    obtain ⟨e, he, _⟩ := ofL x hx
    have hpos : 0 < es.toList.length := List.length_pos_of_mem he
    have hone : es.toList.length ≤ 1 := by
      apply Classical.byContradiction
      intro hgt
      have h0 : es.toList[0]? = some (es.toList[0]'(by omega)) := List.getElem?_eq_getElem (by omega)
      have h1 : es.toList[1]? = some (es.toList[1]'(by omega)) := List.getElem?_eq_getElem (by omega)
      obtain ⟨n0, k0, m0⟩ := inL _ (List.getElem_mem (by omega : 0 < es.toList.length))
      obtain ⟨n1, k1, m1⟩ := inL _ (List.getElem_mem (by omega : 1 < es.toList.length))
      have := hu 0 1 _ _ h0 h1 (by rw [k0, k1, ha n0 m0, ha n1 m1])
      omega
    simp only [Array.length_toList] at hpos hone
    omega

theorem numbersL_short (g : Int × Int → Option Int) {lt tp rt bt : Nat} (h2 : rt ≤ 12) (h4 : bt ≤ 12) : (numbersL g lt tp rt bt).length ≤ 1000000 := by
  unfold numbersL
  rw [List.length_map, cellsL_len]
  exact Nat.le_trans (Nat.mul_le_mul (Nat.le_trans (Nat.sub_le _ _) h4) (Nat.le_trans (Nat.sub_le _ _) h2)) (by decide : 12 * 12 ≤ 1000000)
theorem cellsL_box {lt tp rt bt : Nat} {p : Int × Int} (h : p ∈ cellsL lt tp rt bt) : (lt : Int) ≤ p.1 ∧ p.1 < rt ∧ (tp : Int) ≤ p.2 ∧ p.2 < bt := by
  simp only [cellsL, List.mem_map, List.mem_range] at h
  obtain ⟨m, hm, rfl⟩ := h
  have hpos : 0 < rt - lt := by
    rcases Nat.eq_zero_or_pos (rt - lt) with e | e
    · rw [e] at hm; simp at hm
    · exact e
  have h1 := Nat.mod_lt m hpos
  have h3 : m / (rt - lt) < bt - tp := (Nat.div_lt_iff_lt_mul hpos).2 hm
  generalize m % (rt - lt) = u at *
  generalize m / (rt - lt) = v at *
  refine ⟨?_, ?_, ?_, ?_⟩
  · show (lt : Int) ≤ ((lt + u : Nat) : Int)
    omega
  · show ((lt + u : Nat) : Int) < rt
    omega
  · show (tp : Int) ≤ ((tp + v : Nat) : Int)
    omega
  · show ((tp + v : Nat) : Int) < bt
    omega
theorem numbersL_le {g : Int × Int → Option Int} {W H : Nat} (G : Grid g W H) {lt tp rt bt : Nat} (h2 : rt ≤ W) (h4 : bt ≤ H) {x : Int} (hx : x ∈ numbersL g lt tp rt bt) : 0 ≤ x ∧ x < 40 := by
  unfold numbersL at hx
  obtain ⟨p, hp, rfl⟩ := List.mem_map.1 hx
  obtain ⟨a1, a2, a3, a4⟩ := cellsL_box hp
  exact G.at_in ⟨by omega, by omega, by omega, by omega⟩

theorem tallyNumbers (g : Int × Int → Option Int) (W H : Nat) (G : Grid g W H) (N : Int) (mb lt tp rt bt : Nat) (h1 : lt ≤ rt) (h2 : rt ≤ W) (h3 : tp ≤ bt) (h4 : bt ≤ H) (w : World) (hm : MapIs Try.prog 106 cellV w mb g) :
    Calls Try.prog 48 #[.func (.func 88) #[] #[.pointer (some ⟨w.heap.size + 1, 0, none⟩), .pointer (some ⟨w.heap.size, 0, none⟩)]] ((w.alloc (.cells #[.int .i64 W, .int .i64 H, .int .i64 N, .map (some mb)] 71)).alloc (.cells #[.int .i64 lt, .int .i64 tp, .int .i64 rt, .int .i64 bt] 97)) fun e w' =>
      ∃ mb2, e = .returned (.map (some mb2)) ∧ Mod noB w w' ∧ MapIs Try.prog 3 intV w' mb2 (tal (numbersL g lt tp rt bt)) := by
  rw [allocL2]
  have hM := allocL_mod noB [.cells #[.int .i64 W, .int .i64 H, .int .i64 N, .map (some mb)] 71, .cells #[.int .i64 lt, .int .i64 tp, .int .i64 rt, .int .i64 bt] 97] w
  have hz := allocL_size [.cells #[.int .i64 W, .int .i64 H, .int .i64 N, .map (some mb)] 71, .cells #[.int .i64 lt, .int .i64 tp, .int .i64 rt, .int .i64 bt] 97] w
  have b0 := allocL_at [.cells #[.int .i64 W, .int .i64 H, .int .i64 N, .map (some mb)] 71, .cells #[.int .i64 lt, .int .i64 tp, .int .i64 rt, .int .i64 bt] 97] w 0 _ rfl
  have b1 := allocL_at [.cells #[.int .i64 W, .int .i64 H, .int .i64 N, .map (some mb)] 71, .cells #[.int .i64 lt, .int .i64 tp, .int .i64 rt, .int .i64 bt] 97] w 1 _ rfl
  generalize allocL w [.cells #[.int .i64 W, .int .i64 H, .int .i64 N, .map (some mb)] 71, .cells #[.int .i64 lt, .int .i64 tp, .int .i64 rt, .int .i64 bt] 97] = W1 at *
  have hm1 := hm.same (hM.block mb hm.lt id)
  have hlt := hm.lt
  have hw2 := G.w2
  have hh2 := G.h2
  simp only [List.length_cons, List.length_nil] at hz
  refine (tallyInt_any 88 _ _ _ W1 (numbers1_runs (w.heap.size + 1) w.heap.size mb lt tp rt bt W H N g W1 b1 b0 hm1 h1 (by omega) h3 (by omega)) ?_ enter88 ?_ (numbersL_short g (by omega) (by omega))).mono ?_
  · rintro k (rfl | rfl | rfl) <;> omega
  · intro x hx
    have := numbersL_le G h2 h4 hx
    exact key3 (wf64_of (by omega) (by omega))
  · rintro e w' ⟨mb2, rfl, h1, _, h2⟩
    exact ⟨mb2, rfl, hM.trans h1, h2⟩

@[reducible] def blockV (lt tp rt bt : Nat) : Value := .agg #[.int .i64 lt, .int .i64 tp, .int .i64 rt, .int .i64 bt]

set_option maxRecDepth 100000 in
set_option maxHeartbeats 2000000 in
theorem whole_is (g : Int × Int → Option Int) (W H : Nat) (G : Grid g W H) (N : Int) (mb lt tp rt bt : Nat) (h1 : lt ≤ rt) (h2 : rt ≤ W) (h3 : tp ≤ bt) (h4 : bt ≤ H) (w : World) (hm : MapIs Try.prog 106 cellV w mb g) :
    Calls Try.prog 78 #[picV W H N mb, blockV lt tp rt bt] w fun e w' => e = .returned (.bool (wholeB (numbersL g lt tp rt bt))) ∧ Mod noB w w' := by
  have ht := tallyNumbers g W H G N mb lt tp rt bt h1 h2 h3 h4 ((w.alloc (.cells #[.int .i64 W, .int .i64 H, .int .i64 N, .map (some mb)] 71)).alloc (.cells #[.int .i64 lt, .int .i64 tp, .int .i64 rt, .int .i64 bt] 97)) ((hm.alloc _).alloc _)
  simp only [World.size_alloc] at ht
  have HT := Hold.mk ht
  have HM0 := Hold.mk (((Mod.refl noB w).alloc (.cells #[.int .i64 W, .int .i64 H, .int .i64 N, .map (some mb)] 71)).alloc (.cells #[.int .i64 lt, .int .i64 tp, .int .i64 rt, .int .i64 bt] 97))
  clear ht hm G
  go_enter Try.func78, Try.ntmps78
  go_wp2_with (first
    | (go_at_call 84; refine (numbers_any _ _ _ _ _ _ _ _ _).mono ?_; rintro e w' ⟨rfl, rfl⟩)
    | (go_at_call 48; refine HT.out.mono ?_; rintro e w4 ⟨mb2, rfl, hM4, hmp4⟩; obtain ⟨es, cl, hes, hone⟩ := map_one hmp4; have hln := run_len_map (P := Try.prog) (w := w4) 78 3 mb2 es cl (by kernel_rfl) hes; have hbq : (((es.size : Nat) : Int) == 1) = wholeB (numbersL g lt tp rt bt) := (by rw [← hone, Bool.eq_iff_iff]; simp; omega); have HM4 := Hold.mk hM4; clear hM4 hmp4 hone hes))
  go_ret
  exact ⟨rfl, HM0.out.trans HM4.out⟩
end Go.Proofs.Ytogalmkeipigeaa

/- within: the pieces that have cells in a block. -/
namespace Go.Proofs.Ytogalmkeipigeaa
open Go.RowKit Go.Shelf
attribute [local go_sem] Oper.semAt_some

def memB (L : List Int) (k : Nat) : Bool := decide ((k : Int) ∈ L)
theorem memB_snoc (L : List Int) (x : Nat) : (fun j => if j = x then true else memB L j) = memB (L ++ [(x : Int)]) := by
  funext j
  unfold memB
  by_cases e : j = x
  · subst e; simp
  · rw [if_neg e]
    have : ¬ ((j : Int) = (x : Int)) := by omega
    simp [this]

set_option maxRecDepth 100000 in
set_option maxHeartbeats 4000000 in
theorem within_any (g : Int × Int → Option Int) (W H : Nat) (G : Grid g W H) (N : Int) (mb lt tp rt bt : Nat) (h1 : lt ≤ rt) (h2 : rt ≤ W) (h3 : tp ≤ bt) (h4 : bt ≤ H) (w : World) (hm : MapIs Try.prog 106 cellV w mb g) :
    Calls Try.prog 86 #[picV W H N mb, blockV lt tp rt bt] w fun e w' => e = .returned (.agg (boolCells 40 (memB (numbersL g lt tp rt bt)))) ∧ Mod noB w w' := by
  have hw2 := G.w2
  have hh2 := G.h2
  have HL : Hold (∀ x ∈ numbersL g lt tp rt bt, 0 ≤ x ∧ x < 40) := ⟨fun x hx => numbersL_le G h2 h4 hx⟩
  refine callsIn_wide (n := 3) |>.1 ?_
  refine callsIn_of_wp_marks Try.func86 rfl trivial ?_ rfl
  simp only [Try.ntmps86, List.size_toArray, List.length_cons, List.length_nil, Nat.reduceAdd, Nat.reduceSub, Array.replicate_succ, Array.replicate_zero, List.push_toArray, List.append_toArray, List.nil_append, List.cons_append]
  have HM := Hold.mk hm
  clear hm G
  gi_wp2_with (refine ⟨trivial, ?_⟩; gi_at_call 84; refine (callsIn_wide.2 (numbers_any _ _ _ _ _ _ _ _ _)).mono ?_; rintro e w' ⟨rfl, rfl⟩)
  rw [zero84, allocL6]
  obtain ⟨W1, hW1⟩ : ∃ W1, allocL w [.cells #[.int .i64 W, .int .i64 H, .int .i64 N, .map (some mb)] 71, .cells #[.int .i64 lt, .int .i64 tp, .int .i64 rt, .int .i64 bt] 97, .cells (boolCells 40 fun _ => false) 84, .cells (boolCells 40 fun _ => false) 84,
    .cells #[.int .i64 W, .int .i64 H, .int .i64 N, .map (some mb)] 71, .cells #[.int .i64 lt, .int .i64 tp, .int .i64 rt, .int .i64 bt] 97] = W1 := ⟨_, rfl⟩
  have hM1 : Mod noB w W1 := by rw [← hW1]; exact allocL_mod _ _ _
  have hz1 : W1.heap.size = w.heap.size + 6 := by rw [← hW1]; exact allocL_size _ _
  have bres : W1.heap[w.heap.size + 2]? = some (.cells (boolCells 40 fun _ => false) 84) := by rw [← hW1]; exact allocL_at _ _ _ _ rfl
  have bl : W1.heap[w.heap.size + 3]? = some (.cells (boolCells 40 fun _ => false) 84) := by rw [← hW1]; exact allocL_at _ _ _ _ rfl
  have bp : W1.heap[w.heap.size + 4]? = some (.cells #[.int .i64 W, .int .i64 H, .int .i64 N, .map (some mb)] 71) := by rw [← hW1]; exact allocL_at _ _ _ _ rfl
  have bb : W1.heap[w.heap.size + 5]? = some (.cells #[.int .i64 lt, .int .i64 tp, .int .i64 rt, .int .i64 bt] 97) := by rw [← hW1]; exact allocL_at _ _ _ _ rfl
  rw [hW1]
  clear hW1
  have hm1 := HM.out.same (hM1.block mb HM.out.lt id)
  have hml := HM.out.lt
  refine range_plain (gf := 88) (lb := #[.pointer (some ⟨w.heap.size + 1 + 1 + 1 + 1 + 1, 0, none⟩), .pointer (some ⟨w.heap.size + 1 + 1 + 1 + 1, 0, none⟩)]) rfl rfl enter88 (numbers1_runs (w.heap.size + 1 + 1 + 1 + 1 + 1) (w.heap.size + 1 + 1 + 1 + 1) mb lt tp rt bt W H N g W1 bb bp hm1 h1 (by omega) h3 (by omega))
    (by rintro b (rfl | rfl | rfl) <;> omega) (fun b => b = w.heap.size + 3) (by rintro b rfl; exact ⟨by omega, by omega⟩)
    (fun pre Wr => Wr.heap[w.heap.size + 3]? = some (.cells (boolCells 40 (memB pre)) 84) ∧ Mod (fun b => b = w.heap.size + 3) W1 Wr)
    (fun _ _ _ => False)
    (fun s A B h hg => ⟨hg.at h.1 (by omega), h.2.then hg (fun i h1 h2 => by omega)⟩)
    (fun c s A B h hg => h)
    ⟨by have e : memB [] = fun _ => false := by funext j; simp [memB]
        rw [e]; exact bl, Mod.refl _ _⟩
    none
    (fun _ x => { tmps := #[picV W H N mb, blockV lt tp rt bt, .pointer (some ⟨w.heap.size, 0, none⟩), .pointer (some ⟨w.heap.size + 1, 0, none⟩), .pointer (some ⟨w.heap.size + 1 + 1, 0, none⟩), .pointer (some ⟨w.heap.size + 1 + 1 + 1, 0, none⟩), .int .i64 x,
      .agg #[.int .i64 W, .int .i64 H, .int .i64 N, .map (some mb)], .agg #[.int .i64 lt, .int .i64 tp, .int .i64 rt, .int .i64 bt],
      .func (.func 88) #[] #[.pointer (some ⟨w.heap.size + 1 + 1 + 1 + 1 + 1, 0, none⟩), .pointer (some ⟨w.heap.size + 1 + 1 + 1 + 1, 0, none⟩)], .int .i64 x, undef, undef, undef], defers := [] })
    ?assign ?body ?done ?stop
  case assign =>
    intro l x W K hK
    gi_wp2
    exact hK
  case body =>
    rintro l2 pre x rest a' Wr hL hl2 hr2 hzr ⟨hrr, hmr⟩ rfl
    obtain ⟨hx1, hx2⟩ := HL.out x (by rw [hL]; simp)
    obtain ⟨x, rfl⟩ := Int.eq_ofNat_of_zero_le hx1
    have hx : x < 40 := by omega
    have c0 : Wr.cell? ⟨w.heap.size + 1 + 1 + 1, x, none⟩ = some (.bool (memB pre x)) := fcells_cell hrr hx
    have c1 : Wr.frozen? ⟨w.heap.size + 1 + 1 + 1, x, none⟩ = false := cells_frozen hrr x
    have HF := Hold.mk (And.intro hrr hmr)
    clear hL hrr hmr bres bl bp bb hm1
    gi_wp2
    obtain ⟨hrr, hmr⟩ := HF.out
    refine ⟨(Mod.refl (fun b => b = w.heap.size + 3) Wr).setCell (p := ⟨w.heap.size + 3, x, none⟩) (fun _ => rfl) _, ?_, hmr.setCell (p := ⟨w.heap.size + 3, x, none⟩) (fun _ => rfl) _⟩
    rw [← memB_snoc]
    exact boolCells_store hrr x
  case done =>
    rintro D W' hD hz ⟨hr, hm'⟩ hK
    have hres := hm'.at bres (by omega)
    have e1 : (Try.prog.info? 84).map (·.size) = some (boolCells 40 (memB (numbersL g lt tp rt bt))).size := by rw [boolCells, fcells_size]; kernel_rfl
    have e2 : (boolCells 40 (memB (numbersL g lt tp rt bt))).all (·.oneCell') = true := by simp [boolCells, fcells, Value.oneCell']
    have e3 : (boolCells 40 fun _ => false).size = (boolCells 40 (memB (numbersL g lt tp rt bt))).size := by simp [boolCells, fcells_size]
    have E := Hold.mk (And.intro e1 (And.intro e2 (And.intro e3 (And.intro hr (And.intro hres (And.intro hm' hK))))))
    clear hr hres bres bl bp bb hm1 e1 e2 e3 hm' hK
    gi_wp2_with (first
      | (refine wpListIn_loadRow rfl 84 (.tmp 5) rfl (w.heap.size + 1 + 1 + 1) rfl 84 _ _ E.out.2.2.2.1 Try.underlying84 rfl E.out.1 ?_)
      | (refine wpListIn_storeRow rfl 84 (.tmp 4) (.tmp 13) rfl (w.heap.size + 1 + 1) rfl _ rfl 84 _ E.out.2.2.2.2.1 E.out.1 E.out.2.2.1 E.out.2.1 ?_))
    obtain ⟨e1, e2, e3, hr, hres, hm', hK⟩ := E.out
    refine ⟨by simp, .inl ⟨_, _, rfl, run_takeDeferred ((World.putObj_heap_other (by omega)).trans hK), ?_⟩⟩
    have hlt := (Array.getElem?_eq_some_iff.1 hres).1
    have hg : ((W'.putObj (w.heap.size + 2) (.cells (boolCells 40 (memB (numbersL g lt tp rt bt))) 84)).putObj D (.deferred none)).heap[w.heap.size + 2]? = some (.cells (boolCells 40 (memB (numbersL g lt tp rt bt))) 84) :=
      (World.putObj_heap_other (by omega)).trans (World.putObj_heap_same hlt)
    refine ⟨_, results_cell_row (fn := Try.f86) rfl _ _ (w.heap.size + 2) 84 _ (0, 0) _ rfl hg Try.underlying84 rfl e1, rfl, ?_⟩
    exact ((hM1.then hm' (fun i h1 h2 => by omega)).putObj (fun h => by omega) _).putObj (fun h => by omega) _
  case stop =>
    rintro D c pre Wx hD hz hpre h hK
    exact h.elim
end Go.Proofs.Ytogalmkeipigeaa

/- rows, columns, the two ways to split a block, and the two directions. -/
namespace Go.Proofs.Ytogalmkeipigeaa
open Go.RowKit Go.Shelf

set_option maxRecDepth 100000 in
set_option maxHeartbeats 1000000 in
theorem rows_any (a b c d : Int) (w : World) :
    Calls Try.prog 89 #[.agg #[.int .i64 a, .int .i64 b, .int .i64 c, .int .i64 d]] w fun e w' => e = .returned (.tuple #[.int .i64 b, .int .i64 d]) ∧ Mod noB w w' := by
  go_enter Try.func89, Try.ntmps89
  go_wp2
  go_quiet (fail)
  go_wp2
  go_ret2
  exact ⟨rfl, ((Mod.refl noB w).alloc _).drewN _⟩

set_option maxRecDepth 100000 in
set_option maxHeartbeats 1000000 in
theorem columns_any (a b c d : Int) (w : World) :
    Calls Try.prog 90 #[.agg #[.int .i64 a, .int .i64 b, .int .i64 c, .int .i64 d]] w fun e w' => e = .returned (.tuple #[.int .i64 a, .int .i64 c]) ∧ Mod noB w w' := by
  go_enter Try.func90, Try.ntmps90
  go_wp2
  go_quiet (fail)
  go_wp2
  go_ret2
  exact ⟨rfl, ((Mod.refl noB w).alloc _).drewN _⟩

set_option maxRecDepth 100000 in
set_option maxHeartbeats 1000000 in
theorem directions_any (w : World) :
    Calls Try.prog 85 #[] w fun e w' => e = .returned (.slice (some ⟨w.heap.size, 0, none⟩) 2 2) ∧ Mod noB w w' ∧
      w'.heap[w.heap.size]? = some (.cells #[.bool false, .func (.func 89) #[] #[], .func (.func 90) #[] #[], .func (.func 91) #[] #[], .bool true, .func (.func 90) #[] #[], .func (.func 89) #[] #[], .func (.func 92) #[] #[]] 138) := by
  go_enter Try.func85, Try.ntmps85
  go_wp2
  go_ret
  exact ⟨rfl, (Mod.refl noB w).alloc _, World.alloc_heap_new w _⟩

theorem results_two {P : Program} {fn : Func} {p q : Tmp} {ty tz : TypeId} (h : fn.results = #[.cell p ty, .cell q tz]) (tmps : Array Value) (w : World) (b c : Nat) (cs ds : Array Value) (t u : TypeId) (d d' : TypeDesc)
    (hp : tmps.getD p undef = .pointer (some ⟨b, 0, none⟩)) (hq : tmps.getD q undef = .pointer (some ⟨c, 0, none⟩)) (hb : w.heap[b]? = some (.cells cs t)) (hc : w.heap[c]? = some (.cells ds u))
    (hu : P.underlying ty = some d) (hu' : P.underlying tz = some d') (hd : (match d with | .struct _ | .array _ _ => true | _ => false) = true) (hd' : (match d' with | .struct _ | .array _ _ => true | _ => false) = true)
    (hi : (P.info? ty).map (·.size) = some cs.size) (hi' : (P.info? tz).map (·.size) = some ds.size) :
    (results fn tmps).run P w = .ok (.tuple #[.agg cs, .agg ds]) w := by
  have e : (results fn tmps).run P w = ((asAddr (tmps.getD p undef)).run P w).andThen fun a w₁ => ((loadVar ty a).run P w₁).andThen fun v w₂ =>
      ((asAddr (tmps.getD q undef)).run P w₂).andThen fun a2 w₃ => ((loadVar tz a2).run P w₃).andThen fun v2 w₄ => .ok (.tuple #[v, v2]) w₄ := by
    simp only [results, h]
    simp [Sem.run_bind, Result.andThen]
  rw [e, hp, hq]
  simp [asAddr, Result.andThen, run_loadVar_row w b t ty cs (0, 0) d hb hu hd hi, run_loadVar_row w c u tz ds (0, 0) d' hc hu' hd' hi']

/-- Four cells stored, one behind the other. -/
theorem set4 {W : World} {r : Nat} {x y z u : Value} {t : TypeId} (h : W.heap[r]? = some (.cells #[x, y, z, u] t)) (a b c d : Value) :
    ((((W.setCell ⟨r, 0, none⟩ a).setCell ⟨r, 1, none⟩ b).setCell ⟨r, 2, none⟩ c).setCell ⟨r, 3, none⟩ d).heap[r]? = some (.cells #[a, b, c, d] t) ∧
    Mod (fun k => k = r) W ((((W.setCell ⟨r, 0, none⟩ a).setCell ⟨r, 1, none⟩ b).setCell ⟨r, 2, none⟩ c).setCell ⟨r, 3, none⟩ d) := by
  refine ⟨setCell_at (setCell_at (setCell_at (setCell_at h 0 a) 1 b) 2 c) 3 d, ?_⟩
  have m0 := (Mod.refl (fun k => k = r) W).setCell (p := ⟨r, 0, none⟩) (fun _ => rfl) a
  have m1 := m0.setCell (p := ⟨r, 1, none⟩) (fun _ => rfl) b
  have m2 := m1.setCell (p := ⟨r, 2, none⟩) (fun _ => rfl) c
  exact m2.setCell (p := ⟨r, 3, none⟩) (fun _ => rfl) d

/-- Two results' blocks lie, r and the one behind; of all that lay these alone may have turned. -/
def RB2 (W1 : World) (r : Nat) (w' : World) : Prop := (∃ x y z u, w'.heap[r]? = some (.cells #[x, y, z, u] 97)) ∧ (∃ x y z u, w'.heap[r + 1]? = some (.cells #[x, y, z, u] 97)) ∧ Mod (fun k => k = r ∨ k = r + 1) W1 w'
theorem RB2.set1 {W1 w' : World} {r : Nat} (h : RB2 W1 r w') (a b c d : Value) : RB2 W1 r ((((w'.setCell ⟨r, 0, none⟩ a).setCell ⟨r, 1, none⟩ b).setCell ⟨r, 2, none⟩ c).setCell ⟨r, 3, none⟩ d) := by
  obtain ⟨⟨x, y, z, u, hb⟩, ⟨x', y', z', u', hb'⟩, hm⟩ := h
  obtain ⟨h1, h2⟩ := set4 hb a b c d
  exact ⟨⟨_, _, _, _, h1⟩, ⟨_, _, _, _, h2.at hb' (by omega)⟩, hm.trans (h2.wider (fun _ _ h => .inl h))⟩
theorem RB2.set2 {W1 w' : World} {r : Nat} (h : RB2 W1 r w') (a b c d : Value) : RB2 W1 r ((((w'.setCell ⟨r + 1, 0, none⟩ a).setCell ⟨r + 1, 1, none⟩ b).setCell ⟨r + 1, 2, none⟩ c).setCell ⟨r + 1, 3, none⟩ d) := by
  obtain ⟨⟨x, y, z, u, hb⟩, ⟨x', y', z', u', hb'⟩, hm⟩ := h
  obtain ⟨h1, h2⟩ := set4 hb' a b c d
  exact ⟨⟨_, _, _, _, h2.at hb (by omega)⟩, ⟨_, _, _, _, h1⟩, hm.trans (h2.wider (fun _ _ h => .inr h))⟩
/-- What the walk of a split is told of each world in it. -/
def SplitS (W1 : World) (cv : World → Nat → Nat → Value) (n : Nat) (a b c d : Int) (w' : World) : Prop :=
  Hold (RB2 W1 (n + 1) w') ∧ (w'.cell? ⟨n, 0, none⟩ = some (.int .i64 a) ∧ w'.cell? ⟨n, 1, none⟩ = some (.int .i64 b) ∧ w'.cell? ⟨n, 2, none⟩ = some (.int .i64 c) ∧ w'.cell? ⟨n, 3, none⟩ = some (.int .i64 d)) ∧
    (w'.cell? ⟨n + 1, 0, none⟩ = some (cv w' 1 0) ∧ w'.cell? ⟨n + 1, 1, none⟩ = some (cv w' 1 1) ∧ w'.cell? ⟨n + 1, 2, none⟩ = some (cv w' 1 2) ∧ w'.cell? ⟨n + 1, 3, none⟩ = some (cv w' 1 3)) ∧
    (w'.cell? ⟨n + 1 + 1, 0, none⟩ = some (cv w' 2 0) ∧ w'.cell? ⟨n + 1 + 1, 1, none⟩ = some (cv w' 2 1) ∧ w'.cell? ⟨n + 1 + 1, 2, none⟩ = some (cv w' 2 2) ∧ w'.cell? ⟨n + 1 + 1, 3, none⟩ = some (cv w' 2 3)) ∧
    (w'.frozen? ⟨n + 1, 0, none⟩ = false ∧ w'.frozen? ⟨n + 1, 1, none⟩ = false ∧ w'.frozen? ⟨n + 1, 2, none⟩ = false ∧ w'.frozen? ⟨n + 1, 3, none⟩ = false) ∧
    (w'.frozen? ⟨n + 1 + 1, 0, none⟩ = false ∧ w'.frozen? ⟨n + 1 + 1, 1, none⟩ = false ∧ w'.frozen? ⟨n + 1 + 1, 2, none⟩ = false ∧ w'.frozen? ⟨n + 1 + 1, 3, none⟩ = false)
theorem splitS_of {W1 : World} {n : Nat} {a b c d : Int} (h0 : W1.heap[n]? = some (.cells #[.int .i64 a, .int .i64 b, .int .i64 c, .int .i64 d] 97)) (w' : World) (h : RB2 W1 (n + 1) w') :
    SplitS W1 (fun w' j i => (w'.cell? ⟨n + j, i, none⟩).getD undef) n a b c d w' := by
  have h' := h
  obtain ⟨⟨x, y, z, u, hb⟩, ⟨x', y', z', u', hb'⟩, hm⟩ := h'
  have e0 := hm.at h0 (by omega)
  refine ⟨⟨h⟩, ⟨?_, ?_, ?_, ?_⟩, ⟨?_, ?_, ?_, ?_⟩, ⟨?_, ?_, ?_, ?_⟩, ⟨cells_frozen hb 0, cells_frozen hb 1, cells_frozen hb 2, cells_frozen hb 3⟩, ⟨cells_frozen hb' 0, cells_frozen hb' 1, cells_frozen hb' 2, cells_frozen hb' 3⟩⟩
  all_goals (try simp [World.cell?, e0]) <;> (try simp [World.cell?, hb]) <;> (try simp [World.cell?, hb'])

theorem split_end {fn : Func} (hf : fn.results = #[.cell 4 97, .cell 5 97]) {tmps : Array Value} {w w' : World} {r : Nat} {a b c d e f g h : Value} (hr : w.heap.size ≤ r) (h4 : tmps.getD 4 undef = .pointer (some ⟨r, 0, none⟩)) (h5 : tmps.getD 5 undef = .pointer (some ⟨r + 1, 0, none⟩))
    (h0 : w'.heap[r]? = some (.cells #[a, b, c, d] 97)) (h1 : w'.heap[r + 1]? = some (.cells #[e, f, g, h] 97)) (hM : Mod noB w w') :
    bodyPost Try.prog fn (fun e' w' => e' = .returned (.tuple #[.agg #[a, b, c, d], .agg #[e, f, g, h]]) ∧ Mod noB w w') Exit.ret { tmps := tmps, defers := [] } w' :=
  bodyPost_ret (results_two hf tmps w' r (r + 1) _ _ _ _ _ _ h4 h5 h0 h1 Try.underlying97 Try.underlying97 rfl rfl (by kernel_rfl) (by kernel_rfl)) rfl ⟨rfl, hM⟩

set_option maxRecDepth 100000 in
set_option maxHeartbeats 2000000 in
theorem across_any (a b c d at' : Int) (w : World) :
    Calls Try.prog 91 #[.agg #[.int .i64 a, .int .i64 b, .int .i64 c, .int .i64 d], .int .i64 at'] w fun e w' => e = .returned (.tuple #[.agg #[.int .i64 a, .int .i64 b, .int .i64 c, .int .i64 at'], .agg #[.int .i64 a, .int .i64 at', .int .i64 c, .int .i64 d]]) ∧ Mod noB w w' := by
  go_enter Try.func91, Try.ntmps91
  go_wp2
  rw [allocL3]
  obtain ⟨W1, hW1⟩ : ∃ W1, allocL w [.cells #[.int .i64 a, .int .i64 b, .int .i64 c, .int .i64 d] 97, .cells #[.int .i64 0, .int .i64 0, .int .i64 0, .int .i64 0] 97, .cells #[.int .i64 0, .int .i64 0, .int .i64 0, .int .i64 0] 97] = W1 := ⟨_, rfl⟩
  rw [hW1]
  have HM1 : Hold (Mod noB w W1) := ⟨by rw [← hW1]; exact allocL_mod _ _ _⟩
  have b0 : W1.heap[w.heap.size + 0]? = some (.cells #[.int .i64 a, .int .i64 b, .int .i64 c, .int .i64 d] 97) := by rw [← hW1]; exact allocL_at _ _ _ _ rfl
  have b1 : W1.heap[w.heap.size + 1]? = some (.cells #[.int .i64 0, .int .i64 0, .int .i64 0, .int .i64 0] 97) := by rw [← hW1]; exact allocL_at _ _ _ _ rfl
  have b2 : W1.heap[w.heap.size + 2]? = some (.cells #[.int .i64 0, .int .i64 0, .int .i64 0, .int .i64 0] 97) := by rw [← hW1]; exact allocL_at _ _ _ _ rfl
  simp only [Nat.add_zero] at b0
  have HR1 : Hold (RB2 W1 (w.heap.size + 1) W1.drew) := ⟨⟨_, _, _, _, b1⟩, ⟨_, _, _, _, b2⟩, (Mod.refl _ _).drew⟩
  have HB := Hold.mk (And.intro b1 b2)
  have HS := Hold.mk (splitS_of b0)
  generalize (fun (w' : World) (j i : Nat) => (w'.cell? ⟨w.heap.size + j, i, none⟩).getD undef) = cv at HS
  clear hW1 b0 b1 b2
  unfold SplitS at HS
  refine wp_region_noPanic ?_
  refine wp_region_held_drew (S := (fun w' => Hold (RB2 W1 (w.heap.size + 1) w') ∧ (w'.cell? ⟨w.heap.size, 0, none⟩ = some (.int .i64 a) ∧ w'.cell? ⟨w.heap.size, 1, none⟩ = some (.int .i64 b) ∧ w'.cell? ⟨w.heap.size, 2, none⟩ = some (.int .i64 c) ∧ w'.cell? ⟨w.heap.size, 3, none⟩ = some (.int .i64 d)) ∧
    (w'.cell? ⟨w.heap.size + 1, 0, none⟩ = some (cv w' 1 0) ∧ w'.cell? ⟨w.heap.size + 1, 1, none⟩ = some (cv w' 1 1) ∧ w'.cell? ⟨w.heap.size + 1, 2, none⟩ = some (cv w' 1 2) ∧ w'.cell? ⟨w.heap.size + 1, 3, none⟩ = some (cv w' 1 3)) ∧
    (w'.cell? ⟨w.heap.size + 1 + 1, 0, none⟩ = some (cv w' 2 0) ∧ w'.cell? ⟨w.heap.size + 1 + 1, 1, none⟩ = some (cv w' 2 1) ∧ w'.cell? ⟨w.heap.size + 1 + 1, 2, none⟩ = some (cv w' 2 2) ∧ w'.cell? ⟨w.heap.size + 1 + 1, 3, none⟩ = some (cv w' 2 3)) ∧
    (w'.frozen? ⟨w.heap.size + 1, 0, none⟩ = false ∧ w'.frozen? ⟨w.heap.size + 1, 1, none⟩ = false ∧ w'.frozen? ⟨w.heap.size + 1, 2, none⟩ = false ∧ w'.frozen? ⟨w.heap.size + 1, 3, none⟩ = false) ∧
    (w'.frozen? ⟨w.heap.size + 1 + 1, 0, none⟩ = false ∧ w'.frozen? ⟨w.heap.size + 1 + 1, 1, none⟩ = false ∧ w'.frozen? ⟨w.heap.size + 1 + 1, 2, none⟩ = false ∧ w'.frozen? ⟨w.heap.size + 1 + 1, 3, none⟩ = false))) mixed (HS.out _ HR1.out) (fun hHeld => ?_)
  have HD : Hold (W1.drew.heap[w.heap.size + 1]? = some (.cells #[.int .i64 0, .int .i64 0, .int .i64 0, .int .i64 0] 97) ∧ W1.drew.heap[w.heap.size + 1 + 1]? = some (.cells #[.int .i64 0, .int .i64 0, .int .i64 0, .int .i64 0] 97) ∧ Mod noB W1 W1.drew) := ⟨HB.out.1, HB.out.2, (Mod.refl _ _).drew⟩
  generalize hwd : W1.drew = wd at *
  clear hwd
  refine wpAnyH_take (i := 0) (oi := { dst := some 6, op := Op.fieldAddr 97 (Operand.tmp 2) 0, type := 0, pos := "saw.go:31", after := #[], guard := none }) (v := ?_) rfl (by kernel_rfl) (by kernel_rfl) (by kernel_rfl) (fun _ _ _ h => h) (Or.inl ⟨by rfl, ?_⟩) (by assumption) ?_
  rotate_left
  · intro w hSw
    (try dsimp only at hSw)
    go_simp
    first | done | with_reducible rfl
  try simp only [Act.put, List.setIfInBounds_toArray, List.set_cons_zero, List.set_cons_succ]
  refine wpAnyH_take (i := 1) (oi := { dst := some 7, op := Op.load 3 (Operand.tmp 6), type := 3, pos := "saw.go:31", after := #[{ on := 0, ground := Ground.data }], guard := none }) (v := ?_) rfl (by kernel_rfl) (by kernel_rfl) (by kernel_rfl) (fun _ _ _ h => h) (Or.inl ⟨by rfl, ?_⟩) (by assumption) ?_
  rotate_left
  · intro w hSw
    (try dsimp only at hSw)
    go_simp
    first | done | with_reducible rfl
  try simp only [Act.put, List.setIfInBounds_toArray, List.set_cons_zero, List.set_cons_succ]
  refine wpAnyH_take (i := 2) (oi := { dst := some 8, op := Op.fieldAddr 97 (Operand.tmp 2) 1, type := 0, pos := "saw.go:31", after := #[], guard := none }) (v := ?_) rfl (by kernel_rfl) (by kernel_rfl) (by kernel_rfl) (fun _ _ _ h => h) (Or.inl ⟨by rfl, ?_⟩) (by assumption) ?_
  rotate_left
  · intro w hSw
    (try dsimp only at hSw)
    go_simp
    first | done | with_reducible rfl
  try simp only [Act.put, List.setIfInBounds_toArray, List.set_cons_zero, List.set_cons_succ]
  refine wpAnyH_take (i := 3) (oi := { dst := some 9, op := Op.load 3 (Operand.tmp 8), type := 3, pos := "saw.go:31", after := #[{ on := 2, ground := Ground.data }], guard := none }) (v := ?_) rfl (by kernel_rfl) (by kernel_rfl) (by kernel_rfl) (fun _ _ _ h => h) (Or.inl ⟨by rfl, ?_⟩) (by assumption) ?_
  rotate_left
  · intro w hSw
    (try dsimp only at hSw)
    go_simp
    first | done | with_reducible rfl
  try simp only [Act.put, List.setIfInBounds_toArray, List.set_cons_zero, List.set_cons_succ]
  refine wpAnyH_take (i := 4) (oi := { dst := some 10, op := Op.fieldAddr 97 (Operand.tmp 2) 2, type := 0, pos := "saw.go:31", after := #[], guard := none }) (v := ?_) rfl (by kernel_rfl) (by kernel_rfl) (by kernel_rfl) (fun _ _ _ h => h) (Or.inl ⟨by rfl, ?_⟩) (by assumption) ?_
  rotate_left
  · intro w hSw
    (try dsimp only at hSw)
    go_simp
    first | done | with_reducible rfl
  try simp only [Act.put, List.setIfInBounds_toArray, List.set_cons_zero, List.set_cons_succ]
  refine wpAnyH_take (i := 5) (oi := { dst := some 11, op := Op.load 3 (Operand.tmp 10), type := 3, pos := "saw.go:31", after := #[{ on := 4, ground := Ground.data }], guard := none }) (v := ?_) rfl (by kernel_rfl) (by kernel_rfl) (by kernel_rfl) (fun _ _ _ h => h) (Or.inl ⟨by rfl, ?_⟩) (by assumption) ?_
  rotate_left
  · intro w hSw
    (try dsimp only at hSw)
    go_simp
    first | done | with_reducible rfl
  try simp only [Act.put, List.setIfInBounds_toArray, List.set_cons_zero, List.set_cons_succ]
  refine wpAnyH_take (i := 6) (oi := { dst := some 12, op := Op.move (Operand.tmp 1), type := 3, pos := "saw.go:31", after := #[], guard := none }) (v := ?_) rfl (by kernel_rfl) (by kernel_rfl) (by kernel_rfl) (fun _ _ _ h => h) (Or.inl ⟨by rfl, ?_⟩) (by assumption) ?_
  rotate_left
  · intro w hSw
    (try dsimp only at hSw)
    go_simp
    first | done | with_reducible rfl
  try simp only [Act.put, List.setIfInBounds_toArray, List.set_cons_zero, List.set_cons_succ]
  refine wpAnyH_take (i := 7) (oi := { dst := some 13, op := Op.build 97 #[(0, Operand.tmp 7), (1, Operand.tmp 9), (2, Operand.tmp 11), (3, Operand.tmp 12)], type := 97, pos := "saw.go:31", after := #[{ on := 1, ground := Ground.data }, { on := 3, ground := Ground.data }, { on := 5, ground := Ground.data }, { on := 6, ground := Ground.data }], guard := none }) (v := ?_) rfl (by kernel_rfl) (by kernel_rfl) (by kernel_rfl) (fun _ _ _ h => h) (Or.inl ⟨by rfl, ?_⟩) (by assumption) ?_
  rotate_left
  · intro w hSw
    (try dsimp only at hSw)
    go_simp
    first | done | with_reducible rfl
  try simp only [Act.put, List.setIfInBounds_toArray, List.set_cons_zero, List.set_cons_succ]
  refine wpAnyH_take (i := 8) (oi := { dst := some 14, op := Op.fieldAddr 97 (Operand.tmp 2) 0, type := 0, pos := "saw.go:31", after := #[{ on := 16, ground := Ground.gcOnly Departure.lateStores }], guard := none }) (v := ?_) rfl (by kernel_rfl) (by kernel_rfl) (by kernel_rfl) (fun _ _ _ h => h) (Or.inl ⟨by rfl, ?_⟩) (by assumption) ?_
  rotate_left
  · intro w hSw
    (try dsimp only at hSw)
    go_simp
    first | done | with_reducible rfl
  try simp only [Act.put, List.setIfInBounds_toArray, List.set_cons_zero, List.set_cons_succ]
  refine wpAnyH_take (i := 9) (oi := { dst := some 15, op := Op.load 3 (Operand.tmp 14), type := 3, pos := "saw.go:31", after := #[{ on := 8, ground := Ground.data }, { on := 16, ground := Ground.gcOnly Departure.lateStores }], guard := none }) (v := ?_) rfl (by kernel_rfl) (by kernel_rfl) (by kernel_rfl) (fun _ _ _ h => h) (Or.inl ⟨by rfl, ?_⟩) (by assumption) ?_
  rotate_left
  · intro w hSw
    (try dsimp only at hSw)
    go_simp
    first | done | with_reducible rfl
  try simp only [Act.put, List.setIfInBounds_toArray, List.set_cons_zero, List.set_cons_succ]
  refine wpAnyH_take (i := 10) (oi := { dst := some 16, op := Op.move (Operand.tmp 1), type := 3, pos := "saw.go:31", after := #[{ on := 16, ground := Ground.gcOnly Departure.lateStores }], guard := none }) (v := ?_) rfl (by kernel_rfl) (by kernel_rfl) (by kernel_rfl) (fun _ _ _ h => h) (Or.inl ⟨by rfl, ?_⟩) (by assumption) ?_
  rotate_left
  · intro w hSw
    (try dsimp only at hSw)
    go_simp
    first | done | with_reducible rfl
  try simp only [Act.put, List.setIfInBounds_toArray, List.set_cons_zero, List.set_cons_succ]
  refine wpAnyH_take (i := 11) (oi := { dst := some 17, op := Op.fieldAddr 97 (Operand.tmp 2) 2, type := 0, pos := "saw.go:31", after := #[{ on := 16, ground := Ground.gcOnly Departure.lateStores }], guard := none }) (v := ?_) rfl (by kernel_rfl) (by kernel_rfl) (by kernel_rfl) (fun _ _ _ h => h) (Or.inl ⟨by rfl, ?_⟩) (by assumption) ?_
  rotate_left
  · intro w hSw
    (try dsimp only at hSw)
    go_simp
    first | done | with_reducible rfl
  try simp only [Act.put, List.setIfInBounds_toArray, List.set_cons_zero, List.set_cons_succ]
  refine wpAnyH_take (i := 12) (oi := { dst := some 18, op := Op.load 3 (Operand.tmp 17), type := 3, pos := "saw.go:31", after := #[{ on := 11, ground := Ground.data }, { on := 16, ground := Ground.gcOnly Departure.lateStores }], guard := none }) (v := ?_) rfl (by kernel_rfl) (by kernel_rfl) (by kernel_rfl) (fun _ _ _ h => h) (Or.inl ⟨by rfl, ?_⟩) (by assumption) ?_
  rotate_left
  · intro w hSw
    (try dsimp only at hSw)
    go_simp
    first | done | with_reducible rfl
  try simp only [Act.put, List.setIfInBounds_toArray, List.set_cons_zero, List.set_cons_succ]
  refine wpAnyH_take (i := 13) (oi := { dst := some 19, op := Op.fieldAddr 97 (Operand.tmp 2) 3, type := 0, pos := "saw.go:31", after := #[{ on := 16, ground := Ground.gcOnly Departure.lateStores }], guard := none }) (v := ?_) rfl (by kernel_rfl) (by kernel_rfl) (by kernel_rfl) (fun _ _ _ h => h) (Or.inl ⟨by rfl, ?_⟩) (by assumption) ?_
  rotate_left
  · intro w hSw
    (try dsimp only at hSw)
    go_simp
    first | done | with_reducible rfl
  try simp only [Act.put, List.setIfInBounds_toArray, List.set_cons_zero, List.set_cons_succ]
  refine wpAnyH_take (i := 14) (oi := { dst := some 20, op := Op.load 3 (Operand.tmp 19), type := 3, pos := "saw.go:31", after := #[{ on := 13, ground := Ground.data }, { on := 16, ground := Ground.gcOnly Departure.lateStores }], guard := none }) (v := ?_) rfl (by kernel_rfl) (by kernel_rfl) (by kernel_rfl) (fun _ _ _ h => h) (Or.inl ⟨by rfl, ?_⟩) (by assumption) ?_
  rotate_left
  · intro w hSw
    (try dsimp only at hSw)
    go_simp
    first | done | with_reducible rfl
  try simp only [Act.put, List.setIfInBounds_toArray, List.set_cons_zero, List.set_cons_succ]
  refine wpAnyH_take (i := 15) (oi := { dst := some 21, op := Op.build 97 #[(0, Operand.tmp 15), (1, Operand.tmp 16), (2, Operand.tmp 18), (3, Operand.tmp 20)], type := 97, pos := "saw.go:31", after := #[{ on := 9, ground := Ground.data }, { on := 10, ground := Ground.data }, { on := 12, ground := Ground.data }, { on := 14, ground := Ground.data }, { on := 16, ground := Ground.gcOnly Departure.lateStores }], guard := none }) (v := ?_) rfl (by kernel_rfl) (by kernel_rfl) (by kernel_rfl) (fun _ _ _ h => h) (Or.inl ⟨by rfl, ?_⟩) (by assumption) ?_
  rotate_left
  · intro w hSw
    (try dsimp only at hSw)
    go_simp
    first | done | with_reducible rfl
  try simp only [Act.put, List.setIfInBounds_toArray, List.set_cons_zero, List.set_cons_succ]
  refine wpAnyH_ready (rs := [16]) (by kernel_rfl) (by simp) (AllReadyH.cons (o := { dst := none, op := Op.store 97 (Operand.tmp 4) (Operand.tmp 13), type := 0, pos := "saw.go:31", after := #[{ on := 7, ground := Ground.data }, { on := 0, ground := Ground.phase }, { on := 1, ground := Ground.phase }, { on := 2, ground := Ground.phase }, { on := 3, ground := Ground.phase }, { on := 4, ground := Ground.phase }, { on := 5, ground := Ground.phase }, { on := 6, ground := Ground.phase }, { on := 7, ground := Ground.phase }, { on := 8, ground := Ground.textOnly Departure.lateStores }, { on := 9, ground := Ground.textOnly Departure.lateStores }, { on := 10, ground := Ground.textOnly Departure.lateStores }, { on := 11, ground := Ground.textOnly Departure.lateStores }, { on := 12, ground := Ground.textOnly Departure.lateStores }, { on := 13, ground := Ground.textOnly Departure.lateStores }, { on := 14, ground := Ground.textOnly Departure.lateStores }, { on := 15, ground := Ground.textOnly Departure.lateStores }], guard := none }) rfl (fun K hK => ?_) AllReadyH.nil)
  go_simp
  refine hK.out _ _ ?_ (fun hHeld => ?_)
  · exact HS.out _ (RB2.set1 HR1.out _ _ _ _)
  clear hK K
  try simp only [Act.put, List.setIfInBounds_toArray, List.set_cons_zero, List.set_cons_succ]
  have HR2 := Hold.mk (RB2.set1 HR1.out (.int .i64 a) (.int .i64 b) (.int .i64 c) (.int .i64 at'))
  have HE := Hold.mk (And.intro (set4 HD.out.1 (.int .i64 a) (.int .i64 b) (.int .i64 c) (.int .i64 at')).1 (And.intro ((set4 HD.out.1 (.int .i64 a) (.int .i64 b) (.int .i64 c) (.int .i64 at')).2.at HD.out.2.1 (by omega)) (set4 HD.out.1 (.int .i64 a) (.int .i64 b) (.int .i64 c) (.int .i64 at')).2))
  generalize hwe : World.setCell (World.setCell (World.setCell (World.setCell wd _ _) _ _) _ _) _ _ = we at *
  refine wpAnyH_ready (rs := [17]) (by kernel_rfl) (by simp) (AllReadyH.cons (o := { dst := none, op := Op.store 97 (Operand.tmp 5) (Operand.tmp 21), type := 0, pos := "saw.go:31", after := #[{ on := 15, ground := Ground.data }, { on := 16, ground := Ground.chain }, { on := 0, ground := Ground.phase }, { on := 1, ground := Ground.phase }, { on := 2, ground := Ground.phase }, { on := 3, ground := Ground.phase }, { on := 4, ground := Ground.phase }, { on := 5, ground := Ground.phase }, { on := 6, ground := Ground.phase }, { on := 7, ground := Ground.phase }, { on := 8, ground := Ground.phase }, { on := 9, ground := Ground.phase }, { on := 10, ground := Ground.phase }, { on := 11, ground := Ground.phase }, { on := 12, ground := Ground.phase }, { on := 13, ground := Ground.phase }, { on := 14, ground := Ground.phase }, { on := 15, ground := Ground.phase }, { on := 16, ground := Ground.phase }], guard := none }) rfl (fun K hK => ?_) AllReadyH.nil)
  go_simp
  refine hK.out _ _ ?_ (fun hHeld => ?_)
  · exact HS.out _ (RB2.set2 HR2.out _ _ _ _)
  clear hK K
  try simp only [Act.put, List.setIfInBounds_toArray, List.set_cons_zero, List.set_cons_succ]
  refine wpAnyH_done (by kernel_rfl) ?_ _
  refine NoPanic.normal ?_
  clear hHeld HS HR2
  go_wp2
  obtain ⟨e1, e2, e3⟩ := HE.out
  obtain ⟨g1, g2⟩ := set4 e2 (.int .i64 a) (.int .i64 at') (.int .i64 c) (.int .i64 d)
  refine split_end rfl (Nat.le_succ _) rfl rfl (g2.at e1 (by omega)) g1 ?_
  exact (((HM1.out.trans HD.out.2.2).then e3 (fun i h1 h2 => by omega)).then g2 (fun i h1 h2 => by omega))

set_option maxRecDepth 100000 in
set_option maxHeartbeats 2000000 in
theorem upright_any (a b c d at' : Int) (w : World) :
    Calls Try.prog 92 #[.agg #[.int .i64 a, .int .i64 b, .int .i64 c, .int .i64 d], .int .i64 at'] w fun e w' => e = .returned (.tuple #[.agg #[.int .i64 a, .int .i64 b, .int .i64 at', .int .i64 d], .agg #[.int .i64 at', .int .i64 b, .int .i64 c, .int .i64 d]]) ∧ Mod noB w w' := by
  go_enter Try.func92, Try.ntmps92
  go_wp2
  rw [allocL3]
  obtain ⟨W1, hW1⟩ : ∃ W1, allocL w [.cells #[.int .i64 a, .int .i64 b, .int .i64 c, .int .i64 d] 97, .cells #[.int .i64 0, .int .i64 0, .int .i64 0, .int .i64 0] 97, .cells #[.int .i64 0, .int .i64 0, .int .i64 0, .int .i64 0] 97] = W1 := ⟨_, rfl⟩
  rw [hW1]
  have HM1 : Hold (Mod noB w W1) := ⟨by rw [← hW1]; exact allocL_mod _ _ _⟩
  have b0 : W1.heap[w.heap.size + 0]? = some (.cells #[.int .i64 a, .int .i64 b, .int .i64 c, .int .i64 d] 97) := by rw [← hW1]; exact allocL_at _ _ _ _ rfl
  have b1 : W1.heap[w.heap.size + 1]? = some (.cells #[.int .i64 0, .int .i64 0, .int .i64 0, .int .i64 0] 97) := by rw [← hW1]; exact allocL_at _ _ _ _ rfl
  have b2 : W1.heap[w.heap.size + 2]? = some (.cells #[.int .i64 0, .int .i64 0, .int .i64 0, .int .i64 0] 97) := by rw [← hW1]; exact allocL_at _ _ _ _ rfl
  simp only [Nat.add_zero] at b0
  have HR1 : Hold (RB2 W1 (w.heap.size + 1) W1.drew) := ⟨⟨_, _, _, _, b1⟩, ⟨_, _, _, _, b2⟩, (Mod.refl _ _).drew⟩
  have HB := Hold.mk (And.intro b1 b2)
  have HS := Hold.mk (splitS_of b0)
  generalize (fun (w' : World) (j i : Nat) => (w'.cell? ⟨w.heap.size + j, i, none⟩).getD undef) = cv at HS
  clear hW1 b0 b1 b2
  unfold SplitS at HS
  refine wp_region_noPanic ?_
  refine wp_region_held_drew (S := (fun w' => Hold (RB2 W1 (w.heap.size + 1) w') ∧ (w'.cell? ⟨w.heap.size, 0, none⟩ = some (.int .i64 a) ∧ w'.cell? ⟨w.heap.size, 1, none⟩ = some (.int .i64 b) ∧ w'.cell? ⟨w.heap.size, 2, none⟩ = some (.int .i64 c) ∧ w'.cell? ⟨w.heap.size, 3, none⟩ = some (.int .i64 d)) ∧
    (w'.cell? ⟨w.heap.size + 1, 0, none⟩ = some (cv w' 1 0) ∧ w'.cell? ⟨w.heap.size + 1, 1, none⟩ = some (cv w' 1 1) ∧ w'.cell? ⟨w.heap.size + 1, 2, none⟩ = some (cv w' 1 2) ∧ w'.cell? ⟨w.heap.size + 1, 3, none⟩ = some (cv w' 1 3)) ∧
    (w'.cell? ⟨w.heap.size + 1 + 1, 0, none⟩ = some (cv w' 2 0) ∧ w'.cell? ⟨w.heap.size + 1 + 1, 1, none⟩ = some (cv w' 2 1) ∧ w'.cell? ⟨w.heap.size + 1 + 1, 2, none⟩ = some (cv w' 2 2) ∧ w'.cell? ⟨w.heap.size + 1 + 1, 3, none⟩ = some (cv w' 2 3)) ∧
    (w'.frozen? ⟨w.heap.size + 1, 0, none⟩ = false ∧ w'.frozen? ⟨w.heap.size + 1, 1, none⟩ = false ∧ w'.frozen? ⟨w.heap.size + 1, 2, none⟩ = false ∧ w'.frozen? ⟨w.heap.size + 1, 3, none⟩ = false) ∧
    (w'.frozen? ⟨w.heap.size + 1 + 1, 0, none⟩ = false ∧ w'.frozen? ⟨w.heap.size + 1 + 1, 1, none⟩ = false ∧ w'.frozen? ⟨w.heap.size + 1 + 1, 2, none⟩ = false ∧ w'.frozen? ⟨w.heap.size + 1 + 1, 3, none⟩ = false))) mixed (HS.out _ HR1.out) (fun hHeld => ?_)
  have HD : Hold (W1.drew.heap[w.heap.size + 1]? = some (.cells #[.int .i64 0, .int .i64 0, .int .i64 0, .int .i64 0] 97) ∧ W1.drew.heap[w.heap.size + 1 + 1]? = some (.cells #[.int .i64 0, .int .i64 0, .int .i64 0, .int .i64 0] 97) ∧ Mod noB W1 W1.drew) := ⟨HB.out.1, HB.out.2, (Mod.refl _ _).drew⟩
  generalize hwd : W1.drew = wd at *
  clear hwd
  refine wpAnyH_take (i := 0) (oi := { dst := some 6, op := Op.fieldAddr 97 (Operand.tmp 2) 0, type := 0, pos := "saw.go:36", after := #[], guard := none }) (v := ?_) rfl (by kernel_rfl) (by kernel_rfl) (by kernel_rfl) (fun _ _ _ h => h) (Or.inl ⟨by rfl, ?_⟩) (by assumption) ?_
  rotate_left
  · intro w hSw
    (try dsimp only at hSw)
    go_simp
    first | done | with_reducible rfl
  try simp only [Act.put, List.setIfInBounds_toArray, List.set_cons_zero, List.set_cons_succ]
  refine wpAnyH_take (i := 1) (oi := { dst := some 7, op := Op.load 3 (Operand.tmp 6), type := 3, pos := "saw.go:36", after := #[{ on := 0, ground := Ground.data }], guard := none }) (v := ?_) rfl (by kernel_rfl) (by kernel_rfl) (by kernel_rfl) (fun _ _ _ h => h) (Or.inl ⟨by rfl, ?_⟩) (by assumption) ?_
  rotate_left
  · intro w hSw
    (try dsimp only at hSw)
    go_simp
    first | done | with_reducible rfl
  try simp only [Act.put, List.setIfInBounds_toArray, List.set_cons_zero, List.set_cons_succ]
  refine wpAnyH_take (i := 2) (oi := { dst := some 8, op := Op.fieldAddr 97 (Operand.tmp 2) 1, type := 0, pos := "saw.go:36", after := #[], guard := none }) (v := ?_) rfl (by kernel_rfl) (by kernel_rfl) (by kernel_rfl) (fun _ _ _ h => h) (Or.inl ⟨by rfl, ?_⟩) (by assumption) ?_
  rotate_left
  · intro w hSw
    (try dsimp only at hSw)
    go_simp
    first | done | with_reducible rfl
  try simp only [Act.put, List.setIfInBounds_toArray, List.set_cons_zero, List.set_cons_succ]
  refine wpAnyH_take (i := 3) (oi := { dst := some 9, op := Op.load 3 (Operand.tmp 8), type := 3, pos := "saw.go:36", after := #[{ on := 2, ground := Ground.data }], guard := none }) (v := ?_) rfl (by kernel_rfl) (by kernel_rfl) (by kernel_rfl) (fun _ _ _ h => h) (Or.inl ⟨by rfl, ?_⟩) (by assumption) ?_
  rotate_left
  · intro w hSw
    (try dsimp only at hSw)
    go_simp
    first | done | with_reducible rfl
  try simp only [Act.put, List.setIfInBounds_toArray, List.set_cons_zero, List.set_cons_succ]
  refine wpAnyH_take (i := 4) (oi := { dst := some 10, op := Op.move (Operand.tmp 1), type := 3, pos := "saw.go:36", after := #[], guard := none }) (v := ?_) rfl (by kernel_rfl) (by kernel_rfl) (by kernel_rfl) (fun _ _ _ h => h) (Or.inl ⟨by rfl, ?_⟩) (by assumption) ?_
  rotate_left
  · intro w hSw
    (try dsimp only at hSw)
    go_simp
    first | done | with_reducible rfl
  try simp only [Act.put, List.setIfInBounds_toArray, List.set_cons_zero, List.set_cons_succ]
  refine wpAnyH_take (i := 5) (oi := { dst := some 11, op := Op.fieldAddr 97 (Operand.tmp 2) 3, type := 0, pos := "saw.go:36", after := #[], guard := none }) (v := ?_) rfl (by kernel_rfl) (by kernel_rfl) (by kernel_rfl) (fun _ _ _ h => h) (Or.inl ⟨by rfl, ?_⟩) (by assumption) ?_
  rotate_left
  · intro w hSw
    (try dsimp only at hSw)
    go_simp
    first | done | with_reducible rfl
  try simp only [Act.put, List.setIfInBounds_toArray, List.set_cons_zero, List.set_cons_succ]
  refine wpAnyH_take (i := 6) (oi := { dst := some 12, op := Op.load 3 (Operand.tmp 11), type := 3, pos := "saw.go:36", after := #[{ on := 5, ground := Ground.data }], guard := none }) (v := ?_) rfl (by kernel_rfl) (by kernel_rfl) (by kernel_rfl) (fun _ _ _ h => h) (Or.inl ⟨by rfl, ?_⟩) (by assumption) ?_
  rotate_left
  · intro w hSw
    (try dsimp only at hSw)
    go_simp
    first | done | with_reducible rfl
  try simp only [Act.put, List.setIfInBounds_toArray, List.set_cons_zero, List.set_cons_succ]
  refine wpAnyH_take (i := 7) (oi := { dst := some 13, op := Op.build 97 #[(0, Operand.tmp 7), (1, Operand.tmp 9), (2, Operand.tmp 10), (3, Operand.tmp 12)], type := 97, pos := "saw.go:36", after := #[{ on := 1, ground := Ground.data }, { on := 3, ground := Ground.data }, { on := 4, ground := Ground.data }, { on := 6, ground := Ground.data }], guard := none }) (v := ?_) rfl (by kernel_rfl) (by kernel_rfl) (by kernel_rfl) (fun _ _ _ h => h) (Or.inl ⟨by rfl, ?_⟩) (by assumption) ?_
  rotate_left
  · intro w hSw
    (try dsimp only at hSw)
    go_simp
    first | done | with_reducible rfl
  try simp only [Act.put, List.setIfInBounds_toArray, List.set_cons_zero, List.set_cons_succ]
  refine wpAnyH_take (i := 8) (oi := { dst := some 14, op := Op.move (Operand.tmp 1), type := 3, pos := "saw.go:36", after := #[{ on := 16, ground := Ground.gcOnly Departure.lateStores }], guard := none }) (v := ?_) rfl (by kernel_rfl) (by kernel_rfl) (by kernel_rfl) (fun _ _ _ h => h) (Or.inl ⟨by rfl, ?_⟩) (by assumption) ?_
  rotate_left
  · intro w hSw
    (try dsimp only at hSw)
    go_simp
    first | done | with_reducible rfl
  try simp only [Act.put, List.setIfInBounds_toArray, List.set_cons_zero, List.set_cons_succ]
  refine wpAnyH_take (i := 9) (oi := { dst := some 15, op := Op.fieldAddr 97 (Operand.tmp 2) 1, type := 0, pos := "saw.go:36", after := #[{ on := 16, ground := Ground.gcOnly Departure.lateStores }], guard := none }) (v := ?_) rfl (by kernel_rfl) (by kernel_rfl) (by kernel_rfl) (fun _ _ _ h => h) (Or.inl ⟨by rfl, ?_⟩) (by assumption) ?_
  rotate_left
  · intro w hSw
    (try dsimp only at hSw)
    go_simp
    first | done | with_reducible rfl
  try simp only [Act.put, List.setIfInBounds_toArray, List.set_cons_zero, List.set_cons_succ]
  refine wpAnyH_take (i := 10) (oi := { dst := some 16, op := Op.load 3 (Operand.tmp 15), type := 3, pos := "saw.go:36", after := #[{ on := 9, ground := Ground.data }, { on := 16, ground := Ground.gcOnly Departure.lateStores }], guard := none }) (v := ?_) rfl (by kernel_rfl) (by kernel_rfl) (by kernel_rfl) (fun _ _ _ h => h) (Or.inl ⟨by rfl, ?_⟩) (by assumption) ?_
  rotate_left
  · intro w hSw
    (try dsimp only at hSw)
    go_simp
    first | done | with_reducible rfl
  try simp only [Act.put, List.setIfInBounds_toArray, List.set_cons_zero, List.set_cons_succ]
  refine wpAnyH_take (i := 11) (oi := { dst := some 17, op := Op.fieldAddr 97 (Operand.tmp 2) 2, type := 0, pos := "saw.go:36", after := #[{ on := 16, ground := Ground.gcOnly Departure.lateStores }], guard := none }) (v := ?_) rfl (by kernel_rfl) (by kernel_rfl) (by kernel_rfl) (fun _ _ _ h => h) (Or.inl ⟨by rfl, ?_⟩) (by assumption) ?_
  rotate_left
  · intro w hSw
    (try dsimp only at hSw)
    go_simp
    first | done | with_reducible rfl
  try simp only [Act.put, List.setIfInBounds_toArray, List.set_cons_zero, List.set_cons_succ]
  refine wpAnyH_take (i := 12) (oi := { dst := some 18, op := Op.load 3 (Operand.tmp 17), type := 3, pos := "saw.go:36", after := #[{ on := 11, ground := Ground.data }, { on := 16, ground := Ground.gcOnly Departure.lateStores }], guard := none }) (v := ?_) rfl (by kernel_rfl) (by kernel_rfl) (by kernel_rfl) (fun _ _ _ h => h) (Or.inl ⟨by rfl, ?_⟩) (by assumption) ?_
  rotate_left
  · intro w hSw
    (try dsimp only at hSw)
    go_simp
    first | done | with_reducible rfl
  try simp only [Act.put, List.setIfInBounds_toArray, List.set_cons_zero, List.set_cons_succ]
  refine wpAnyH_take (i := 13) (oi := { dst := some 19, op := Op.fieldAddr 97 (Operand.tmp 2) 3, type := 0, pos := "saw.go:36", after := #[{ on := 16, ground := Ground.gcOnly Departure.lateStores }], guard := none }) (v := ?_) rfl (by kernel_rfl) (by kernel_rfl) (by kernel_rfl) (fun _ _ _ h => h) (Or.inl ⟨by rfl, ?_⟩) (by assumption) ?_
  rotate_left
  · intro w hSw
    (try dsimp only at hSw)
    go_simp
    first | done | with_reducible rfl
  try simp only [Act.put, List.setIfInBounds_toArray, List.set_cons_zero, List.set_cons_succ]
  refine wpAnyH_take (i := 14) (oi := { dst := some 20, op := Op.load 3 (Operand.tmp 19), type := 3, pos := "saw.go:36", after := #[{ on := 13, ground := Ground.data }, { on := 16, ground := Ground.gcOnly Departure.lateStores }], guard := none }) (v := ?_) rfl (by kernel_rfl) (by kernel_rfl) (by kernel_rfl) (fun _ _ _ h => h) (Or.inl ⟨by rfl, ?_⟩) (by assumption) ?_
  rotate_left
  · intro w hSw
    (try dsimp only at hSw)
    go_simp
    first | done | with_reducible rfl
  try simp only [Act.put, List.setIfInBounds_toArray, List.set_cons_zero, List.set_cons_succ]
  refine wpAnyH_take (i := 15) (oi := { dst := some 21, op := Op.build 97 #[(0, Operand.tmp 14), (1, Operand.tmp 16), (2, Operand.tmp 18), (3, Operand.tmp 20)], type := 97, pos := "saw.go:36", after := #[{ on := 8, ground := Ground.data }, { on := 10, ground := Ground.data }, { on := 12, ground := Ground.data }, { on := 14, ground := Ground.data }, { on := 16, ground := Ground.gcOnly Departure.lateStores }], guard := none }) (v := ?_) rfl (by kernel_rfl) (by kernel_rfl) (by kernel_rfl) (fun _ _ _ h => h) (Or.inl ⟨by rfl, ?_⟩) (by assumption) ?_
  rotate_left
  · intro w hSw
    (try dsimp only at hSw)
    go_simp
    first | done | with_reducible rfl
  try simp only [Act.put, List.setIfInBounds_toArray, List.set_cons_zero, List.set_cons_succ]
  refine wpAnyH_ready (rs := [16]) (by kernel_rfl) (by simp) (AllReadyH.cons (o := { dst := none, op := Op.store 97 (Operand.tmp 4) (Operand.tmp 13), type := 0, pos := "saw.go:36", after := #[{ on := 7, ground := Ground.data }, { on := 0, ground := Ground.phase }, { on := 1, ground := Ground.phase }, { on := 2, ground := Ground.phase }, { on := 3, ground := Ground.phase }, { on := 4, ground := Ground.phase }, { on := 5, ground := Ground.phase }, { on := 6, ground := Ground.phase }, { on := 7, ground := Ground.phase }, { on := 8, ground := Ground.textOnly Departure.lateStores }, { on := 9, ground := Ground.textOnly Departure.lateStores }, { on := 10, ground := Ground.textOnly Departure.lateStores }, { on := 11, ground := Ground.textOnly Departure.lateStores }, { on := 12, ground := Ground.textOnly Departure.lateStores }, { on := 13, ground := Ground.textOnly Departure.lateStores }, { on := 14, ground := Ground.textOnly Departure.lateStores }, { on := 15, ground := Ground.textOnly Departure.lateStores }], guard := none }) rfl (fun K hK => ?_) AllReadyH.nil)
  go_simp
  refine hK.out _ _ ?_ (fun hHeld => ?_)
  · exact HS.out _ (RB2.set1 HR1.out _ _ _ _)
  clear hK K
  try simp only [Act.put, List.setIfInBounds_toArray, List.set_cons_zero, List.set_cons_succ]
  have HR2 := Hold.mk (RB2.set1 HR1.out (.int .i64 a) (.int .i64 b) (.int .i64 at') (.int .i64 d))
  have HE := Hold.mk (And.intro (set4 HD.out.1 (.int .i64 a) (.int .i64 b) (.int .i64 at') (.int .i64 d)).1 (And.intro ((set4 HD.out.1 (.int .i64 a) (.int .i64 b) (.int .i64 at') (.int .i64 d)).2.at HD.out.2.1 (by omega)) (set4 HD.out.1 (.int .i64 a) (.int .i64 b) (.int .i64 at') (.int .i64 d)).2))
  generalize hwe : World.setCell (World.setCell (World.setCell (World.setCell wd _ _) _ _) _ _) _ _ = we at *
  refine wpAnyH_ready (rs := [17]) (by kernel_rfl) (by simp) (AllReadyH.cons (o := { dst := none, op := Op.store 97 (Operand.tmp 5) (Operand.tmp 21), type := 0, pos := "saw.go:36", after := #[{ on := 15, ground := Ground.data }, { on := 16, ground := Ground.chain }, { on := 0, ground := Ground.phase }, { on := 1, ground := Ground.phase }, { on := 2, ground := Ground.phase }, { on := 3, ground := Ground.phase }, { on := 4, ground := Ground.phase }, { on := 5, ground := Ground.phase }, { on := 6, ground := Ground.phase }, { on := 7, ground := Ground.phase }, { on := 8, ground := Ground.phase }, { on := 9, ground := Ground.phase }, { on := 10, ground := Ground.phase }, { on := 11, ground := Ground.phase }, { on := 12, ground := Ground.phase }, { on := 13, ground := Ground.phase }, { on := 14, ground := Ground.phase }, { on := 15, ground := Ground.phase }, { on := 16, ground := Ground.phase }], guard := none }) rfl (fun K hK => ?_) AllReadyH.nil)
  go_simp
  refine hK.out _ _ ?_ (fun hHeld => ?_)
  · exact HS.out _ (RB2.set2 HR2.out _ _ _ _)
  clear hK K
  try simp only [Act.put, List.setIfInBounds_toArray, List.set_cons_zero, List.set_cons_succ]
  refine wpAnyH_done (by kernel_rfl) ?_ _
  refine NoPanic.normal ?_
  clear hHeld HS HR2
  go_wp2
  obtain ⟨e1, e2, e3⟩ := HE.out
  obtain ⟨g1, g2⟩ := set4 e2 (.int .i64 at') (.int .i64 b) (.int .i64 c) (.int .i64 d)
  refine split_end rfl (Nat.le_succ _) rfl rfl (g2.at e1 (by omega)) g1 ?_
  exact (((HM1.out.trans HD.out.2.2).then e3 (fun i h1 h2 => by omega)).then g2 (fun i h1 h2 => by omega))

end Go.Proofs.Ytogalmkeipigeaa

/- next: the first line that goes through a block and cuts no piece. -/
namespace Go.Proofs.Ytogalmkeipigeaa
open Go.RowKit Go.Shelf
attribute [local go_sem] Oper.semAt_some

/-- No number of the one list is in the other. -/
def goesB (g : Int × Int → Option Int) (a b c d e f i j : Nat) : Bool := (numbersL g e f i j).all fun n => !(decide (n ∈ numbersL g a b c d))
/-- The first of the places from a on, n of them, that is good. -/
def firstAt (p : Nat → Bool) : Nat → Nat → Option Nat
  | _, 0 => none
  | a, n + 1 => if p a then some a else firstAt p (a + 1) n
theorem firstAt_none {p : Nat → Bool} : ∀ {n a : Nat}, (∀ i, a ≤ i → i < a + n → p i = false) → firstAt p a n = none := by
  intro n
  induction n with
  | zero => intro a _; rfl
  | succ n ih => intro a h; simp only [firstAt]; rw [if_neg (by rw [h a (Nat.le_refl _) (by omega)]; simp)]; exact ih (fun i h1 h2 => h i (by omega) (by omega))
theorem firstAt_some {p : Nat → Bool} : ∀ {n a i : Nat}, a ≤ i → i < a + n → p i = true → (∀ j, a ≤ j → j < i → p j = false) → firstAt p a n = some i := by
  intro n
  induction n with
  | zero => intro a i h1 h2; omega
  | succ n ih =>
    intro a i h1 h2 h3 h4
    simp only [firstAt]
    by_cases e : a = i
    · subst e; rw [if_pos h3]
    · rw [if_neg (by rw [h4 a (Nat.le_refl _) (by omega)]; simp)]
      exact ih (by omega) (by omega) h3 (fun j h5 h6 => h4 j (by omega) h6)

def acrossAt (g : Int × Int → Option Int) (lt tp rt bt : Nat) : Option Nat := firstAt (fun y => goesB g lt tp rt y lt y rt bt) (tp + 1) (bt - (tp + 1))
def uprightAt (g : Int × Int → Option Int) (lt tp rt bt : Nat) : Option Nat := firstAt (fun x => goesB g lt tp x bt x tp rt bt) (lt + 1) (rt - (lt + 1))
/-- The first line: upright, at, from, to; and the parts on both sides. -/
def nextL (g : Int × Int → Option Int) (lt tp rt bt : Nat) : Option ((Bool × Nat × Nat × Nat) × (Nat × Nat × Nat × Nat) × (Nat × Nat × Nat × Nat)) :=
  match acrossAt g lt tp rt bt with
  | some y => some ((false, y, lt, rt), (lt, tp, rt, y), (lt, y, rt, bt))
  | none => match uprightAt g lt tp rt bt with
    | some x => some ((true, x, tp, bt), (lt, tp, x, bt), (x, tp, rt, bt))
    | none => none
@[reducible] def strokeV (r : (Bool × Nat × Nat × Nat) × (Nat × Nat × Nat × Nat) × (Nat × Nat × Nat × Nat)) : Value :=
  .agg #[.bool r.1.1, .int .i64 r.1.2.1, .int .i64 r.1.2.2.1, .int .i64 r.1.2.2.2, .int .i64 r.2.1.1, .int .i64 r.2.1.2.1, .int .i64 r.2.1.2.2.1, .int .i64 r.2.1.2.2.2, .int .i64 r.2.2.1, .int .i64 r.2.2.2.1, .int .i64 r.2.2.2.2.1, .int .i64 r.2.2.2.2.2]
@[reducible] def zeroStroke : Value := .agg #[.bool false, .int .i64 0, .int .i64 0, .int .i64 0, .int .i64 0, .int .i64 0, .int .i64 0, .int .i64 0, .int .i64 0, .int .i64 0, .int .i64 0, .int .i64 0]
/-- What next returns. -/
def NextOut (e : Ending) : Option ((Bool × Nat × Nat × Nat) × (Nat × Nat × Nat × Nat) × (Nat × Nat × Nat × Nat)) → Prop
  | some r => e = .returned (.tuple #[strokeV r, .bool true])
  | none => e = .returned (.tuple #[zeroStroke, .bool false])

/-- A slot of a frame. -/
def tmpOf (a : Act) (i : Nat) : Value := a.tmps.getD i undef
theorem laid_put {w Wx : World} {old cs : Array Value} {t : TypeId} (h : (w.alloc (.cells old t)).putObj w.heap.size (.cells cs t) = Wx) : Mod noB w Wx ∧ Wx.heap[w.heap.size]? = some (.cells cs t) := by
  subst h
  have h1 := World.alloc_heap_new w (.cells old t)
  exact ⟨((Mod.refl noB w).alloc _).putObj (fun h => absurd h (Nat.lt_irrefl _)) _, World.putObj_heap_same (Array.getElem?_eq_some_iff.1 h1).1⟩
theorem wpIn_scope_wide {n : Nat} {P : Program} {c : Code} {Q : Exit → Act → World → Prop} {a : Act} {w : World} (h : c.wpIn Fence.wide n P (Exit.noGoto Q) a w) : (Code.scope c).wpIn Fence.wide n P Q a w := wpIn_wide.2 (wp_scope_straight (wpIn_wide.1 h))

theorem set12 {W : World} {r : Nat} {x0 x1 x2 x3 x4 x5 x6 x7 x8 x9 x10 x11 : Value} {t : TypeId} (h : W.heap[r]? = some (.cells #[x0, x1, x2, x3, x4, x5, x6, x7, x8, x9, x10, x11] t)) (v0 v1 v2 v3 v4 v5 v6 v7 v8 v9 v10 v11 : Value) :
    (World.setCell (World.setCell (World.setCell (World.setCell (World.setCell (World.setCell (World.setCell (World.setCell (World.setCell (World.setCell (World.setCell (World.setCell W ⟨r, 0, none⟩ v0) ⟨r, 1, none⟩ v1) ⟨r, 2, none⟩ v2) ⟨r, 3, none⟩ v3) ⟨r, 4, none⟩ v4) ⟨r, 5, none⟩ v5) ⟨r, 6, none⟩ v6) ⟨r, 7, none⟩ v7) ⟨r, 8, none⟩ v8) ⟨r, 9, none⟩ v9) ⟨r, 10, none⟩ v10) ⟨r, 11, none⟩ v11).heap[r]? = some (.cells #[v0, v1, v2, v3, v4, v5, v6, v7, v8, v9, v10, v11] t) ∧ Mod (fun k => k = r) W (World.setCell (World.setCell (World.setCell (World.setCell (World.setCell (World.setCell (World.setCell (World.setCell (World.setCell (World.setCell (World.setCell (World.setCell W ⟨r, 0, none⟩ v0) ⟨r, 1, none⟩ v1) ⟨r, 2, none⟩ v2) ⟨r, 3, none⟩ v3) ⟨r, 4, none⟩ v4) ⟨r, 5, none⟩ v5) ⟨r, 6, none⟩ v6) ⟨r, 7, none⟩ v7) ⟨r, 8, none⟩ v8) ⟨r, 9, none⟩ v9) ⟨r, 10, none⟩ v10) ⟨r, 11, none⟩ v11) := by
  have a0 : (World.setCell W ⟨r, 0, none⟩ v0).heap[r]? = some (.cells #[v0, x1, x2, x3, x4, x5, x6, x7, x8, x9, x10, x11] t) := setCell_at h 0 v0
  have a1 : (World.setCell (World.setCell W ⟨r, 0, none⟩ v0) ⟨r, 1, none⟩ v1).heap[r]? = some (.cells #[v0, v1, x2, x3, x4, x5, x6, x7, x8, x9, x10, x11] t) := setCell_at a0 1 v1
  have a2 : (World.setCell (World.setCell (World.setCell W ⟨r, 0, none⟩ v0) ⟨r, 1, none⟩ v1) ⟨r, 2, none⟩ v2).heap[r]? = some (.cells #[v0, v1, v2, x3, x4, x5, x6, x7, x8, x9, x10, x11] t) := setCell_at a1 2 v2
  have a3 : (World.setCell (World.setCell (World.setCell (World.setCell W ⟨r, 0, none⟩ v0) ⟨r, 1, none⟩ v1) ⟨r, 2, none⟩ v2) ⟨r, 3, none⟩ v3).heap[r]? = some (.cells #[v0, v1, v2, v3, x4, x5, x6, x7, x8, x9, x10, x11] t) := setCell_at a2 3 v3
  have a4 : (World.setCell (World.setCell (World.setCell (World.setCell (World.setCell W ⟨r, 0, none⟩ v0) ⟨r, 1, none⟩ v1) ⟨r, 2, none⟩ v2) ⟨r, 3, none⟩ v3) ⟨r, 4, none⟩ v4).heap[r]? = some (.cells #[v0, v1, v2, v3, v4, x5, x6, x7, x8, x9, x10, x11] t) := setCell_at a3 4 v4
  have a5 : (World.setCell (World.setCell (World.setCell (World.setCell (World.setCell (World.setCell W ⟨r, 0, none⟩ v0) ⟨r, 1, none⟩ v1) ⟨r, 2, none⟩ v2) ⟨r, 3, none⟩ v3) ⟨r, 4, none⟩ v4) ⟨r, 5, none⟩ v5).heap[r]? = some (.cells #[v0, v1, v2, v3, v4, v5, x6, x7, x8, x9, x10, x11] t) := setCell_at a4 5 v5
  have a6 : (World.setCell (World.setCell (World.setCell (World.setCell (World.setCell (World.setCell (World.setCell W ⟨r, 0, none⟩ v0) ⟨r, 1, none⟩ v1) ⟨r, 2, none⟩ v2) ⟨r, 3, none⟩ v3) ⟨r, 4, none⟩ v4) ⟨r, 5, none⟩ v5) ⟨r, 6, none⟩ v6).heap[r]? = some (.cells #[v0, v1, v2, v3, v4, v5, v6, x7, x8, x9, x10, x11] t) := setCell_at a5 6 v6
  have a7 : (World.setCell (World.setCell (World.setCell (World.setCell (World.setCell (World.setCell (World.setCell (World.setCell W ⟨r, 0, none⟩ v0) ⟨r, 1, none⟩ v1) ⟨r, 2, none⟩ v2) ⟨r, 3, none⟩ v3) ⟨r, 4, none⟩ v4) ⟨r, 5, none⟩ v5) ⟨r, 6, none⟩ v6) ⟨r, 7, none⟩ v7).heap[r]? = some (.cells #[v0, v1, v2, v3, v4, v5, v6, v7, x8, x9, x10, x11] t) := setCell_at a6 7 v7
  have a8 : (World.setCell (World.setCell (World.setCell (World.setCell (World.setCell (World.setCell (World.setCell (World.setCell (World.setCell W ⟨r, 0, none⟩ v0) ⟨r, 1, none⟩ v1) ⟨r, 2, none⟩ v2) ⟨r, 3, none⟩ v3) ⟨r, 4, none⟩ v4) ⟨r, 5, none⟩ v5) ⟨r, 6, none⟩ v6) ⟨r, 7, none⟩ v7) ⟨r, 8, none⟩ v8).heap[r]? = some (.cells #[v0, v1, v2, v3, v4, v5, v6, v7, v8, x9, x10, x11] t) := setCell_at a7 8 v8
  have a9 : (World.setCell (World.setCell (World.setCell (World.setCell (World.setCell (World.setCell (World.setCell (World.setCell (World.setCell (World.setCell W ⟨r, 0, none⟩ v0) ⟨r, 1, none⟩ v1) ⟨r, 2, none⟩ v2) ⟨r, 3, none⟩ v3) ⟨r, 4, none⟩ v4) ⟨r, 5, none⟩ v5) ⟨r, 6, none⟩ v6) ⟨r, 7, none⟩ v7) ⟨r, 8, none⟩ v8) ⟨r, 9, none⟩ v9).heap[r]? = some (.cells #[v0, v1, v2, v3, v4, v5, v6, v7, v8, v9, x10, x11] t) := setCell_at a8 9 v9
  have a10 : (World.setCell (World.setCell (World.setCell (World.setCell (World.setCell (World.setCell (World.setCell (World.setCell (World.setCell (World.setCell (World.setCell W ⟨r, 0, none⟩ v0) ⟨r, 1, none⟩ v1) ⟨r, 2, none⟩ v2) ⟨r, 3, none⟩ v3) ⟨r, 4, none⟩ v4) ⟨r, 5, none⟩ v5) ⟨r, 6, none⟩ v6) ⟨r, 7, none⟩ v7) ⟨r, 8, none⟩ v8) ⟨r, 9, none⟩ v9) ⟨r, 10, none⟩ v10).heap[r]? = some (.cells #[v0, v1, v2, v3, v4, v5, v6, v7, v8, v9, v10, x11] t) := setCell_at a9 10 v10
  have a11 : (World.setCell (World.setCell (World.setCell (World.setCell (World.setCell (World.setCell (World.setCell (World.setCell (World.setCell (World.setCell (World.setCell (World.setCell W ⟨r, 0, none⟩ v0) ⟨r, 1, none⟩ v1) ⟨r, 2, none⟩ v2) ⟨r, 3, none⟩ v3) ⟨r, 4, none⟩ v4) ⟨r, 5, none⟩ v5) ⟨r, 6, none⟩ v6) ⟨r, 7, none⟩ v7) ⟨r, 8, none⟩ v8) ⟨r, 9, none⟩ v9) ⟨r, 10, none⟩ v10) ⟨r, 11, none⟩ v11).heap[r]? = some (.cells #[v0, v1, v2, v3, v4, v5, v6, v7, v8, v9, v10, v11] t) := setCell_at a10 11 v11
  refine ⟨a11, ?_⟩
  have m0 := (Mod.refl (fun k => k = r) W).setCell (p := ⟨r, 0, none⟩) (fun _ => rfl) v0
  have m1 := m0.setCell (p := ⟨r, 1, none⟩) (fun _ => rfl) v1
  have m2 := m1.setCell (p := ⟨r, 2, none⟩) (fun _ => rfl) v2
  have m3 := m2.setCell (p := ⟨r, 3, none⟩) (fun _ => rfl) v3
  have m4 := m3.setCell (p := ⟨r, 4, none⟩) (fun _ => rfl) v4
  have m5 := m4.setCell (p := ⟨r, 5, none⟩) (fun _ => rfl) v5
  have m6 := m5.setCell (p := ⟨r, 6, none⟩) (fun _ => rfl) v6
  have m7 := m6.setCell (p := ⟨r, 7, none⟩) (fun _ => rfl) v7
  have m8 := m7.setCell (p := ⟨r, 8, none⟩) (fun _ => rfl) v8
  have m9 := m8.setCell (p := ⟨r, 9, none⟩) (fun _ => rfl) v9
  have m10 := m9.setCell (p := ⟨r, 10, none⟩) (fun _ => rfl) v10
  have m11 := m10.setCell (p := ⟨r, 11, none⟩) (fun _ => rfl) v11
  exact m11

theorem nextL_across {g : Int × Int → Option Int} {lt tp rt bt y : Nat} (h1 : tp + 1 ≤ y) (h2 : y < bt) (h3 : goesB g lt tp rt y lt y rt bt = true) (h4 : ∀ j, tp + 1 ≤ j → j < y → goesB g lt tp rt j lt j rt bt = false) :
    nextL g lt tp rt bt = some ((false, y, lt, rt), (lt, tp, rt, y), (lt, y, rt, bt)) := by
  have : acrossAt g lt tp rt bt = some y := firstAt_some h1 (by omega) h3 h4
  unfold nextL
  rw [this]
theorem nextL_upright {g : Int × Int → Option Int} {lt tp rt bt x : Nat} (h0 : acrossAt g lt tp rt bt = none) (h1 : lt + 1 ≤ x) (h2 : x < rt) (h3 : goesB g lt tp x bt x tp rt bt = true) (h4 : ∀ j, lt + 1 ≤ j → j < x → goesB g lt tp j bt j tp rt bt = false) :
    nextL g lt tp rt bt = some ((true, x, tp, bt), (lt, tp, x, bt), (x, tp, rt, bt)) := by
  have : uprightAt g lt tp rt bt = some x := firstAt_some h1 (by omega) h3 h4
  unfold nextL
  rw [h0]
  simp only
  rw [this]
theorem nextL_none {g : Int × Int → Option Int} {lt tp rt bt : Nat} (h0 : acrossAt g lt tp rt bt = none) (h1 : uprightAt g lt tp rt bt = none) : nextL g lt tp rt bt = none := by
  unfold nextL
  rw [h0]
  simp only
  rw [h1]

/-- The end of next, behind the stores into the result. -/
theorem stroke_end {fn : Func} (hf : fn.results = #[.cell 4 121, .tmp 5]) {g : Int × Int → Option Int} {lt tp rt bt : Nat} {n : Nat} {w w6 : World} {B : Nat} {Es : List Nat} {tmps : Array Value} {ok : Bool} {x0 x1 x2 x3 x4 x5 x6 x7 x8 x9 x10 x11 : Value}
    (hr : w.heap.size + 1 + 1 < B) (h4 : tmps.getD 4 undef = .pointer (some ⟨w.heap.size + 1 + 1, 0, none⟩)) (h5 : tmps.getD 5 undef = .bool ok) (hb : w6.heap[w.heap.size + 1 + 1]? = some (.cells #[x0, x1, x2, x3, x4, x5, x6, x7, x8, x9, x10, x11] 121)) (hM : Mod noB w w6) (hnd : Es.Nodup) (hes : ∀ E ∈ Es, B ≤ E ∧ w6.heap[E]? = some (.deferred (some [])))
    (v0 v1 v2 v3 v4 v5 v6 v7 v8 v9 v10 v11 : Value) (hout : NextOut (.returned (.tuple #[.agg #[v0, v1, v2, v3, v4, v5, v6, v7, v8, v9, v10, v11], .bool ok])) (nextL g lt tp rt bt)) :
    LeavesInM Fence.wide n Try.prog fn tmps (fun e w' => NextOut e (nextL g lt tp rt bt) ∧ Mod noB w w') (Es.map markD) .returning (World.setCell (World.setCell (World.setCell (World.setCell (World.setCell (World.setCell (World.setCell (World.setCell (World.setCell (World.setCell (World.setCell (World.setCell w6 ⟨w.heap.size + 1 + 1, 0, none⟩ v0) ⟨w.heap.size + 1 + 1, 1, none⟩ v1) ⟨w.heap.size + 1 + 1, 2, none⟩ v2) ⟨w.heap.size + 1 + 1, 3, none⟩ v3) ⟨w.heap.size + 1 + 1, 4, none⟩ v4) ⟨w.heap.size + 1 + 1, 5, none⟩ v5) ⟨w.heap.size + 1 + 1, 6, none⟩ v6) ⟨w.heap.size + 1 + 1, 7, none⟩ v7) ⟨w.heap.size + 1 + 1, 8, none⟩ v8) ⟨w.heap.size + 1 + 1, 9, none⟩ v9) ⟨w.heap.size + 1 + 1, 10, none⟩ v10) ⟨w.heap.size + 1 + 1, 11, none⟩ v11) := by
  obtain ⟨s1, s2⟩ := set12 hb v0 v1 v2 v3 v4 v5 v6 v7 v8 v9 v10 v11
  generalize (World.setCell (World.setCell (World.setCell (World.setCell (World.setCell (World.setCell (World.setCell (World.setCell (World.setCell (World.setCell (World.setCell (World.setCell w6 ⟨w.heap.size + 1 + 1, 0, none⟩ v0) ⟨w.heap.size + 1 + 1, 1, none⟩ v1) ⟨w.heap.size + 1 + 1, 2, none⟩ v2) ⟨w.heap.size + 1 + 1, 3, none⟩ v3) ⟨w.heap.size + 1 + 1, 4, none⟩ v4) ⟨w.heap.size + 1 + 1, 5, none⟩ v5) ⟨w.heap.size + 1 + 1, 6, none⟩ v6) ⟨w.heap.size + 1 + 1, 7, none⟩ v7) ⟨w.heap.size + 1 + 1, 8, none⟩ v8) ⟨w.heap.size + 1 + 1, 9, none⟩ v9) ⟨w.heap.size + 1 + 1, 10, none⟩ v10) ⟨w.heap.size + 1 + 1, 11, none⟩ v11) = w7 at s1 s2 ⊢
  refine leaves_marks Es w7 hnd (fun E hE => s2.at (hes E hE).2 (by have := (hes E hE).1; omega)) fun W3 hm3 => ?_
  have s3 := hm3.at s1 (fun hE => by have := (hes _ hE).1; omega)
  refine ⟨_, (results_row_tmp hf _ _ (w.heap.size + 1 + 1) _ _ h4 s3 Try.underlying121 rfl (by kernel_rfl)).trans (by rw [h5]), hout, ?_⟩
  exact (hM.then s2 (fun i h1 h2 => by omega)).then hm3 (fun i h1 h2 => by have := (hes i h2).1; omega)

set_option maxRecDepth 100000 in
set_option maxHeartbeats 8000000 in
theorem next_is (g : Int × Int → Option Int) (W H : Nat) (G : Grid g W H) (N : Int) (mb lt tp rt bt : Nat) (h1 : lt < rt) (h2 : rt ≤ W) (h3 : tp < bt) (h4 : bt ≤ H) (w : World) (hm : MapIs Try.prog 106 cellV w mb g) :
    Calls Try.prog 79 #[picV W H N mb, blockV lt tp rt bt] w fun e w' => NextOut e (nextL g lt tp rt bt) ∧ Mod noB w w' := by
  refine callsIn_wide (n := 3) |>.1 ?_
  refine callsIn_of_wp_marks Try.func79 rfl trivial ?_ rfl
  simp only [Try.ntmps79, List.size_toArray, List.length_cons, List.length_nil, Nat.reduceAdd, Nat.reduceSub, Array.replicate_succ, Array.replicate_zero, List.push_toArray, List.append_toArray, List.nil_append, List.cons_append]
  have HM := Hold.mk hm
  have HG := Hold.mk G
  have hw2 := G.w2
  have hh2 := G.h2
  clear hm G
  gi_wp2_with (refine ⟨trivial, ?_⟩; gi_at_call 85; refine (callsIn_wide.2 (directions_any _)).mono ?_; rintro e W1 ⟨rfl, hM1, hD1⟩)
  have hz0 := (Array.getElem?_eq_some_iff.1 hD1).1
  simp only [World.size_alloc] at hz0 hD1
  have a0 := hM1.at (k := w.heap.size) (o := .cells #[.int .i64 W, .int .i64 H, .int .i64 N, .map (some mb)] 71) (by rw [Below.heap_alloc _ _ _ (by simp; omega), Below.heap_alloc _ _ _ (by simp)]; exact World.alloc_heap_new w _) id
  have a1 := hM1.at (k := w.heap.size + 1) (o := .cells #[.int .i64 lt, .int .i64 tp, .int .i64 rt, .int .i64 bt] 97) (by rw [Below.heap_alloc _ _ _ (by simp)]; have := World.alloc_heap_new (w.alloc (.cells #[.int .i64 W, .int .i64 H, .int .i64 N, .map (some mb)] 71)) (.cells #[.int .i64 lt, .int .i64 tp, .int .i64 rt, .int .i64 bt] 97); simpa using this) id
  have a2 := hM1.at (k := w.heap.size + 1 + 1) (by have := World.alloc_heap_new ((w.alloc (.cells #[.int .i64 W, .int .i64 H, .int .i64 N, .map (some mb)] 71)).alloc (.cells #[.int .i64 lt, .int .i64 tp, .int .i64 rt, .int .i64 bt] 97)) (.cells #[.bool false, .int .i64 0, .int .i64 0, .int .i64 0, .int .i64 0, .int .i64 0, .int .i64 0, .int .i64 0, .int .i64 0, .int .i64 0, .int .i64 0, .int .i64 0] 121); simpa using this) id
  have hMw : Mod noB w W1 := (((Mod.refl noB w).alloc _).alloc _).alloc _ |>.trans hM1
  have hmw := HM.out.same (hMw.block mb HM.out.lt id)
  have FIN : Hold (∀ W', Mod noB W1 W' → (W'.cell? ⟨w.heap.size, 0, none⟩ = some (.int .i64 W) ∧ W'.cell? ⟨w.heap.size, 1, none⟩ = some (.int .i64 H) ∧ W'.cell? ⟨w.heap.size, 2, none⟩ = some (.int .i64 N) ∧ W'.cell? ⟨w.heap.size, 3, none⟩ = some (.map (some mb))) ∧
      (W'.cell? ⟨w.heap.size + 1, 0, none⟩ = some (.int .i64 lt) ∧ W'.cell? ⟨w.heap.size + 1, 1, none⟩ = some (.int .i64 tp) ∧ W'.cell? ⟨w.heap.size + 1, 2, none⟩ = some (.int .i64 rt) ∧ W'.cell? ⟨w.heap.size + 1, 3, none⟩ = some (.int .i64 bt)) ∧
      (W'.cell? ⟨w.heap.size + 1 + 1 + 1, 0, none⟩ = some (.bool false) ∧ W'.cell? ⟨w.heap.size + 1 + 1 + 1, 1, none⟩ = some (.func (.func 89) #[] #[]) ∧ W'.cell? ⟨w.heap.size + 1 + 1 + 1, 2, none⟩ = some (.func (.func 90) #[] #[]) ∧ W'.cell? ⟨w.heap.size + 1 + 1 + 1, 3, none⟩ = some (.func (.func 91) #[] #[]) ∧
       W'.cell? ⟨w.heap.size + 1 + 1 + 1, 4, none⟩ = some (.bool true) ∧ W'.cell? ⟨w.heap.size + 1 + 1 + 1, 5, none⟩ = some (.func (.func 90) #[] #[]) ∧ W'.cell? ⟨w.heap.size + 1 + 1 + 1, 6, none⟩ = some (.func (.func 89) #[] #[]) ∧ W'.cell? ⟨w.heap.size + 1 + 1 + 1, 7, none⟩ = some (.func (.func 92) #[] #[])) ∧
      MapIs Try.prog 106 cellV W' mb g ∧ W'.heap[w.heap.size + 1 + 1]? = some (.cells #[.bool false, .int .i64 0, .int .i64 0, .int .i64 0, .int .i64 0, .int .i64 0, .int .i64 0, .int .i64 0, .int .i64 0, .int .i64 0, .int .i64 0, .int .i64 0] 121)) := ⟨fun W' h => by
    have e0 := h.at a0 id
    have e1 := h.at a1 id
    have e2 := h.at hD1 id
    refine ⟨⟨?_, ?_, ?_, ?_⟩, ⟨?_, ?_, ?_, ?_⟩, ⟨?_, ?_, ?_, ?_, ?_, ?_, ?_, ?_⟩, hmw.same (h.block mb hmw.lt id), h.at a2 id⟩ <;> simp [World.cell?, e0, e1, e2]⟩
  have HMW := Hold.mk hMw
  clear a0 a1 a2 hD1 hMw hmw hM1
  refine wpIn_loop (fun a Wc => ∃ (k : Nat) (Ds : List Nat),
      a = { tmps := List.toArray ((picV W H N mb) :: (blockV lt tp rt bt) :: (.pointer (some ⟨w.heap.size, 0, none⟩)) :: (.pointer (some ⟨w.heap.size + 1, 0, none⟩)) :: (.pointer (some ⟨w.heap.size + 1 + 1, 0, none⟩)) :: (.bool false) :: (undef) :: (tmpOf a 7) :: (tmpOf a 8) :: (tmpOf a 9) :: (tmpOf a 10) :: (tmpOf a 11) :: (tmpOf a 12) :: (tmpOf a 13) :: (tmpOf a 14) :: (tmpOf a 15) :: (tmpOf a 16) :: (.slice (some ⟨w.heap.size + 1 + 1 + 1, 0, none⟩) 2 2) :: (.int .i64 2) :: (.int .i64 k) :: (tmpOf a 20) :: (tmpOf a 21) :: (tmpOf a 22) :: (tmpOf a 23) :: (tmpOf a 24) :: (tmpOf a 25) :: (tmpOf a 26) :: (tmpOf a 27) :: (tmpOf a 28) :: (tmpOf a 29) :: (tmpOf a 30) :: (tmpOf a 31) :: (tmpOf a 32) :: (tmpOf a 33) :: (tmpOf a 34) :: (tmpOf a 35) :: (tmpOf a 36) :: (tmpOf a 37) :: (tmpOf a 38) :: (tmpOf a 39) :: (tmpOf a 40) :: (tmpOf a 41) :: (tmpOf a 42) :: (tmpOf a 43) :: (tmpOf a 44) :: (tmpOf a 45) :: (tmpOf a 46) :: (tmpOf a 47) :: (tmpOf a 48) :: (tmpOf a 49) :: (tmpOf a 50) :: (tmpOf a 51) :: (tmpOf a 52) :: (tmpOf a 53) :: (tmpOf a 54) :: (tmpOf a 55) :: (tmpOf a 56) :: (tmpOf a 57) :: (tmpOf a 58) :: (tmpOf a 59) :: (tmpOf a 60) :: (tmpOf a 61) :: (tmpOf a 62) :: (tmpOf a 63) :: (tmpOf a 64) :: (tmpOf a 65) :: (tmpOf a 66) :: (tmpOf a 67) :: (tmpOf a 68) :: (tmpOf a 69) :: (tmpOf a 70) :: (tmpOf a 71) :: (undef) :: []), defers := Ds.map markD } ∧
      k ≤ 2 ∧ (1 ≤ k → acrossAt g lt tp rt bt = none) ∧ (2 ≤ k → uprightAt g lt tp rt bt = none) ∧ Mod noB W1 Wc ∧ Ds.Nodup ∧ ∀ D ∈ Ds, W1.heap.size ≤ D ∧ Wc.heap[D]? = some (.deferred (some [])))
    (fun a _ => 2 - (intOf (a.tmps.getD 19 undef)).toNat) ⟨0, [], rfl, by omega, fun h => by omega, fun h => by omega, Mod.refl _ _, by simp, by simp⟩ ?_
  rintro a Wc ⟨k, Ds, ha, hk, hA, hU, hmc, hnd, hds⟩
  generalize tmpOf a = u at ha
  subst ha
  have HK := Hold.mk (And.intro hA (And.intro hU (And.intro hmc (And.intro hnd hds))))
  obtain ⟨⟨p0, p1, p2, p3⟩, ⟨b0, b1, b2, b3⟩, ⟨d0, d1, d2, d3, d4, d5, d6, d7⟩, _, _⟩ := FIN.out Wc hmc
  clear hA hU hmc hnd hds
  generalize hdsE : Ds.map markD = ds
  have hkk : k = 0 ∨ k = 1 ∨ k = 2 := by omega
  rcases hkk with rfl | rfl | rfl
  · gi_wp2
    obtain ⟨wa, hwa⟩ : ∃ wa, Wc.alloc (.cells #[.bool false, .func (.func 89) #[] #[], .func (.func 90) #[] #[], .func (.func 91) #[] #[]] 138) = wa := ⟨_, rfl⟩
    have hMa : Mod noB Wc wa := by rw [← hwa]; exact (Mod.refl _ _).alloc _
    have hda : wa.heap[Wc.heap.size]? = some (.cells #[.bool false, .func (.func 89) #[] #[], .func (.func 90) #[] #[], .func (.func 91) #[] #[]] 138) := by rw [← hwa]; exact World.alloc_heap_new _ _
    rw [hwa]
    clear hwa p0 p1 p2 p3 b0 b1 b2 b3 d0 d1 d2 d3 d4 d5 d6 d7
    obtain ⟨_, ⟨b0, b1, b2, b3⟩, _, _, _⟩ := FIN.out wa (HK.out.2.2.1.trans hMa)
    have e0 : wa.cell? ⟨Wc.heap.size, 1, none⟩ = some (.func (.func 89) #[] #[]) := by simp [World.cell?, hda]
    have HMA := Hold.mk (And.intro hMa hda)
    clear hMa hda
    refine wpIn_scope_wide ?_
    gi_wp2_with (refine ⟨trivial, ?_⟩; gi_at_call 89; refine (callsIn_wide.2 (rows_any _ _ _ _ _)).mono ?_; rintro e w2 ⟨rfl, hM2⟩; have HM2 := Hold.mk hM2; clear hM2)
    refine wpIn_label ?_
    gi_wp2
    refine wpIn_loop (fun a Wd => ∃ (y : Nat) (Ds : List Nat),
        a = { tmps := List.toArray ((picV W H N mb) :: (blockV lt tp rt bt) :: (.pointer (some ⟨w.heap.size, 0, none⟩)) :: (.pointer (some ⟨w.heap.size + 1, 0, none⟩)) :: (.pointer (some ⟨w.heap.size + 1 + 1, 0, none⟩)) :: (.bool false) :: (undef) :: (.pointer (some ⟨Wc.heap.size, 0, none⟩)) :: (tmpOf a 8) :: (.int .i64 bt) :: (.int .i64 (y : Nat)) :: (tmpOf a 11) :: (tmpOf a 12) :: (tmpOf a 13) :: (tmpOf a 14) :: (tmpOf a 15) :: (tmpOf a 16) :: (.slice (some ⟨w.heap.size + 1 + 1 + 1, 0, none⟩) 2 2) :: (.int .i64 2) :: (.int .i64 0) :: (tmpOf a 20) :: (tmpOf a 21) :: (tmpOf a 22) :: (tmpOf a 23) :: (tmpOf a 24) :: (tmpOf a 25) :: (tmpOf a 26) :: (tmpOf a 27) :: (tmpOf a 28) :: (tmpOf a 29) :: (tmpOf a 30) :: (tmpOf a 31) :: (tmpOf a 32) :: (tmpOf a 33) :: (tmpOf a 34) :: (tmpOf a 35) :: (tmpOf a 36) :: (tmpOf a 37) :: (tmpOf a 38) :: (tmpOf a 39) :: (tmpOf a 40) :: (tmpOf a 41) :: (tmpOf a 42) :: (tmpOf a 43) :: (tmpOf a 44) :: (tmpOf a 45) :: (tmpOf a 46) :: (tmpOf a 47) :: (tmpOf a 48) :: (tmpOf a 49) :: (tmpOf a 50) :: (tmpOf a 51) :: (tmpOf a 52) :: (tmpOf a 53) :: (tmpOf a 54) :: (tmpOf a 55) :: (tmpOf a 56) :: (tmpOf a 57) :: (tmpOf a 58) :: (tmpOf a 59) :: (tmpOf a 60) :: (tmpOf a 61) :: (tmpOf a 62) :: (tmpOf a 63) :: (tmpOf a 64) :: (tmpOf a 65) :: (tmpOf a 66) :: (tmpOf a 67) :: (tmpOf a 68) :: (tmpOf a 69) :: (tmpOf a 70) :: (tmpOf a 71) :: (undef) :: []), defers := Ds.map markD } ∧
        tp + 1 ≤ y ∧ y ≤ bt ∧ (∀ j, tp + 1 ≤ j → j < y → (fun y => goesB g lt tp rt y lt y rt bt) j = false) ∧ Mod noB wa Wd ∧ Ds.Nodup ∧ ∀ D ∈ Ds, W1.heap.size ≤ D ∧ Wd.heap[D]? = some (.deferred (some [])))
      (fun a _ => bt - (intOf (a.tmps.getD 10 undef)).toNat) ⟨tp + 1, Ds, by rw [← hdsE]; rfl, by omega, by omega, fun j h5 h6 => by omega, HM2.out, HK.out.2.2.2.1, fun D hD => ⟨(HK.out.2.2.2.2 D hD).1, HM2.out.at (HMA.out.1.at (HK.out.2.2.2.2 D hD).2 id) id⟩⟩ ?_
    have HDE := Hold.mk hdsE
    clear hdsE e0 b0 b1 b2 b3
    rintro a Wd ⟨y, Es, ha, hy1, hy2, hno, hmd, hnd, hes⟩
    generalize tmpOf a = v at ha
    subst ha
    have hM1d := (HK.out.2.2.1.trans HMA.out.1).trans hmd
    have HK2 := Hold.mk (And.intro hno (And.intro hmd (And.intro hnd hes)))
    clear hno hmd hnd hes
    generalize hesE : Es.map markD = es
    by_cases hyb : y < bt
    · obtain ⟨⟨p0, p1, p2, p3⟩, ⟨b0, b1, b2, b3⟩, _, _, _⟩ := FIN.out Wd hM1d
      have f3 : Wd.cell? ⟨Wc.heap.size, 3, none⟩ = some (.func (.func 91) #[] #[]) := by simp [World.cell?, HK2.out.2.1.at HMA.out.2 id]
      have hyi : (y : Int) < (bt : Int) := by omega
      have HM1d := Hold.mk hM1d
      clear hM1d
      gi_wp2_with (first
        | (refine ⟨trivial, ?_⟩; gi_at_call 91; refine (callsIn_wide.2 (across_any _ _ _ _ _ _)).mono ?_; rintro e w3 ⟨rfl, hM3⟩
           obtain ⟨⟨q0, q1, q2, q3⟩, _⟩ := FIN.out w3 (HM1d.out.trans hM3)
           have hz3 : w.heap.size < w3.heap.size := (by have := (HM1d.out.trans hM3).size; omega)
           have HM3 := Hold.mk hM3
           clear hM3 p0 p1 p2 p3 b0 b1 b2 b3 f3)
        | (refine ⟨trivial, ?_⟩; gi_at_call 86; refine (callsIn_wide.2 (within_any g W H HG.out N mb lt tp rt y (by omega) (by omega) (by omega) (by omega) _ (FIN.out _ (((HM1d.out.trans HM3.out).alloc _).alloc _)).2.2.2.1)).mono ?_; rintro e w4 ⟨rfl, hM4⟩
           have hM34 : Mod noB w3 w4 := (((Mod.refl noB w3).alloc _).alloc _).trans hM4
           have h11 := hM4.at ((Below.heap_alloc _ (.cells #[.int .i64 lt, .int .i64 y, .int .i64 rt, .int .i64 bt] 97) _ (by simp)).trans (World.alloc_heap_new w3 (.cells #[.int .i64 lt, .int .i64 tp, .int .i64 rt, .int .i64 y] 97))) id
           have h12 := hM4.at (World.alloc_heap_new (w3.alloc (.cells #[.int .i64 lt, .int .i64 tp, .int .i64 rt, .int .i64 y] 97)) (.cells #[.int .i64 lt, .int .i64 y, .int .i64 rt, .int .i64 bt] 97)) id
           rw [World.size_alloc] at h12
           have HM4 := Hold.mk (And.intro hM34 (And.intro h11 h12))
           clear hM34 h11 h12 hM4 q0 q1 q2 q3)
        | (refine wpListIn_storeRow rfl 84 (.tmp 13) (.tmp 47) rfl w4.heap.size rfl _ rfl 84 _ (World.alloc_heap_new w4 _) (by rw [boolCells, fcells_size]; kernel_rfl) (by rw [boolCells, fcells_size]; rfl) (by simp [boolCells, fcells, Value.oneCell']) ?_
           generalize hWx : World.putObj _ _ _ = Wx
           have hx := laid_put hWx
           obtain ⟨⟨q0, q1, q2, q3⟩, _⟩ := FIN.out Wx ((HM1d.out.trans HM3.out).trans (HM4.out.1.trans hx.1))
           have h12 := hx.1.at HM4.out.2.2 id
           have g0 : Wx.cell? ⟨w3.heap.size + 1, 0, none⟩ = some (.int .i64 lt) := (by simp [World.cell?, h12])
           have g1 : Wx.cell? ⟨w3.heap.size + 1, 1, none⟩ = some (.int .i64 y) := (by simp [World.cell?, h12])
           have g2 : Wx.cell? ⟨w3.heap.size + 1, 2, none⟩ = some (.int .i64 rt) := (by simp [World.cell?, h12])
           have g3 : Wx.cell? ⟨w3.heap.size + 1, 3, none⟩ = some (.int .i64 bt) := (by simp [World.cell?, h12])
           have hzx : w.heap.size < Wx.heap.size := (by have := ((HM1d.out.trans HM3.out).trans (HM4.out.1.trans hx.1)).size; omega)
           have hzy : w3.heap.size + 1 < Wx.heap.size := (Array.getElem?_eq_some_iff.1 h12).1
           have HX := Hold.mk hx
           clear hWx hx h12 hz3)
        | (refine ⟨trivial, ?_⟩; gi_at_call 84; refine (callsIn_wide.2 (numbers_any _ _ _ _ _ _ _ _ _)).mono ?_; rintro e w5 ⟨rfl, rfl⟩))
      rw [allocL2]
      obtain ⟨W5, hW5⟩ : ∃ W5, allocL Wx [.cells #[.int .i64 W, .int .i64 H, .int .i64 N, .map (some mb)] 71, .cells #[.int .i64 lt, .int .i64 y, .int .i64 rt, .int .i64 bt] 97] = W5 := ⟨_, rfl⟩
      have hM5 : Mod noB Wx W5 := by rw [← hW5]; exact allocL_mod _ _ _
      have hz5 : W5.heap.size = Wx.heap.size + 2 := by rw [← hW5]; exact allocL_size _ _
      have bp5 : W5.heap[Wx.heap.size + 0]? = some (.cells #[.int .i64 W, .int .i64 H, .int .i64 N, .map (some mb)] 71) := by rw [← hW5]; exact allocL_at _ _ _ _ rfl
      have bb5 : W5.heap[Wx.heap.size + 1]? = some (.cells #[.int .i64 lt, .int .i64 y, .int .i64 rt, .int .i64 bt] 97) := by rw [← hW5]; exact allocL_at _ _ _ _ rfl
      rw [hW5]
      simp only [Nat.add_zero] at bp5
      clear hW5 q0 q1 q2 q3 g0 g1 g2 g3
      have hMd5 : Mod noB Wd W5 := ((HM3.out.trans HM4.out.1).trans HX.out.1).trans hM5
      have hbw5 := hM5.at HX.out.2 id
      have hf5 := hM5.at (HX.out.1.at HM4.out.2.1 id) id
      have hs5 := hM5.at (HX.out.1.at HM4.out.2.2 id) id
      have hmp5 := (FIN.out W5 (HM1d.out.trans hMd5)).2.2.2.1
      have hz45 : w4.heap.size < W5.heap.size := (Array.getElem?_eq_some_iff.1 hbw5).1
      have H40 : Hold (∀ x ∈ numbersL g lt y rt bt, 0 ≤ x ∧ x < 40) := ⟨fun x hx => numbersL_le HG.out (by omega) (by omega) hx⟩
      have HB5 := Hold.mk (And.intro hbw5 (And.intro hf5 (And.intro hs5 (And.intro hMd5 hM5))))
      clear hbw5 hf5 hs5 hM5
      refine range_plain (gf := 88) (lb := #[.pointer (some ⟨Wx.heap.size + 1, 0, none⟩), .pointer (some ⟨Wx.heap.size, 0, none⟩)]) rfl rfl enter88 (numbers1_runs (Wx.heap.size + 1) Wx.heap.size mb lt y rt bt W H N g W5 bb5 bp5 hmp5 (by omega) (by omega) (by omega) (by omega))
        (by rintro b (rfl | rfl | rfl)
            · omega
            · omega
            · exact hmp5.lt) noB (fun b hb => hb.elim)
        (fun pre Wr => (∀ x ∈ pre, x ∉ numbersL g lt tp rt y) ∧ Mod noB W5 Wr)
        (fun c pre Wr => (c = .exit 3 ∧ ∃ x ∈ pre, x ∈ numbersL g lt tp rt y) ∧ Mod noB W5 Wr)
        (fun s A B h hg => ⟨h.1, h.2.then hg (fun i h1 h2 => by omega)⟩)
        (fun c s A B h hg => ⟨h.1, h.2.then hg (fun i h1 h2 => by omega)⟩)
        ⟨fun x hx => (by cases hx), Mod.refl _ _⟩
        none
        (fun _ x => { tmps := List.toArray ((picV W H N mb) :: (blockV lt tp rt bt) :: (.pointer (some ⟨w.heap.size, 0, none⟩)) :: (.pointer (some ⟨w.heap.size + 1, 0, none⟩)) :: (.pointer (some ⟨w.heap.size + 1 + 1, 0, none⟩)) :: (.bool false) :: (undef) :: (.pointer (some ⟨Wc.heap.size, 0, none⟩)) :: (v 8) :: (.int .i64 bt) :: (.int .i64 (y : Nat)) :: (.pointer (some ⟨w3.heap.size, 0, none⟩)) :: (.pointer (some ⟨w3.heap.size + 1, 0, none⟩)) :: (.pointer (some ⟨w4.heap.size, 0, none⟩)) :: (.int .i64 x) :: (v 15) :: (v 16) :: (.slice (some ⟨w.heap.size + 1 + 1 + 1, 0, none⟩) 2 2) :: (.int .i64 2) :: (.int .i64 0) :: (v 20) :: (v 21) :: (v 22) :: (v 23) :: (v 24) :: (v 25) :: (v 26) :: (v 27) :: (v 28) :: (v 29) :: (v 30) :: (v 31) :: (.int .i64 (y : Nat)) :: (.int .i64 bt) :: (.bool true) :: (v 35) :: (v 36) :: (.tuple #[.agg #[.int .i64 lt, .int .i64 tp, .int .i64 rt, .int .i64 y], .agg #[.int .i64 lt, .int .i64 y, .int .i64 rt, .int .i64 bt]]) :: (.pointer (some ⟨Wc.heap.size, 3, none⟩)) :: (.func (.func 91) #[] #[]) :: (.agg #[.int .i64 lt, .int .i64 tp, .int .i64 rt, .int .i64 bt]) :: (.int .i64 (y : Nat)) :: (.tuple #[.agg #[.int .i64 lt, .int .i64 tp, .int .i64 rt, .int .i64 y], .agg #[.int .i64 lt, .int .i64 y, .int .i64 rt, .int .i64 bt]]) :: (.agg #[.int .i64 lt, .int .i64 tp, .int .i64 rt, .int .i64 y]) :: (.agg #[.int .i64 lt, .int .i64 y, .int .i64 rt, .int .i64 bt]) :: (.agg #[.int .i64 W, .int .i64 H, .int .i64 N, .map (some mb)]) :: (.agg #[.int .i64 lt, .int .i64 tp, .int .i64 rt, .int .i64 y]) :: (.agg (boolCells 40 (memB (numbersL g lt tp rt y)))) :: (.agg #[.int .i64 W, .int .i64 H, .int .i64 N, .map (some mb)]) :: (.agg #[.int .i64 lt, .int .i64 y, .int .i64 rt, .int .i64 bt]) :: (.func (.func 88) #[] #[.pointer (some ⟨Wx.heap.size + 1, 0, none⟩), .pointer (some ⟨Wx.heap.size, 0, none⟩)]) :: (.int .i64 x) :: (v 52) :: (v 53) :: (v 54) :: (v 55) :: (v 56) :: (v 57) :: (v 58) :: (v 59) :: (v 60) :: (v 61) :: (v 62) :: (v 63) :: (v 64) :: (v 65) :: (v 66) :: (v 67) :: (v 68) :: (v 69) :: (v 70) :: (v 71) :: (undef) :: []), defers := [] })
        ?assign ?body ?done ?stop
      case assign =>
        intro l x W K hK
        gi_wp2
        exact hK
      case body =>
        rintro l2 pre x rest a' Wr hL hl2 hr2 hzr ⟨hno, hmr⟩ rfl
        obtain ⟨hx1, hx2⟩ := H40.out x (by rw [hL]; simp)
        obtain ⟨x, rfl⟩ := Int.eq_ofNat_of_zero_le hx1
        have hx : x < 40 := by omega
        have c0 : Wr.cell? ⟨w4.heap.size, x, none⟩ = some (.bool (memB (numbersL g lt tp rt y) x)) := fcells_cell (hmr.at HB5.out.1 id) hx
        have HR := Hold.mk (And.intro hno hmr)
        clear hL hno hmr bp5 bb5 hmp5
        cases hmb : memB (numbersL g lt tp rt y) x with
        | true =>
          rw [hmb] at c0
          have HMB : Hold ((x : Int) ∈ numbersL g lt tp rt y) := ⟨by unfold memB at hmb; simpa using hmb⟩
          clear hmb
          gi_wp2
          exact ⟨Mod.refl _ _, ⟨rfl, x, by simp, HMB.out⟩, HR.out.2⟩
        | false =>
          rw [hmb] at c0
          have HMB : Hold ((x : Int) ∉ numbersL g lt tp rt y) := ⟨by unfold memB at hmb; simpa using hmb⟩
          clear hmb
          gi_wp2
          refine ⟨Mod.refl _ _, fun z hz => ?_, HR.out.2⟩
          rcases List.mem_append.1 hz with h | h
          · exact HR.out.1 z h
          · obtain rfl : z = x := by simpa using h
            exact HMB.out
      case done =>
        rintro D W' hD hz ⟨hno', hm'⟩ hK
        have hyes : Hold ((fun y => goesB g lt tp rt y lt y rt bt) y = true) := ⟨by
          simp only [goesB, List.all_eq_true]
          intro n hn
          simpa using hno' n hn⟩
        have hM5' := HB5.out.2.2.2.1.trans hm'
        obtain ⟨_, ⟨b0, b1, b2, b3⟩, _⟩ := FIN.out W' (HM1d.out.trans hM5')
        have hpd := hM5'.at (HK2.out.2.1.at HMA.out.2 id) id
        have f2 : W'.cell? ⟨Wc.heap.size, 2, none⟩ = some (.func (.func 90) #[] #[]) := by simp [World.cell?, hpd]
        have HW := Hold.mk (And.intro hM5' (And.intro hm' (And.intro hK hpd)))
        have hzw : w.heap.size + 1 + 1 < W'.heap.size := by have := (HM1d.out.trans hM5').size; omega
        clear hno' hM5' hm' hK hpd bp5 bb5 hmp5
        gi_wp2_with (refine ⟨trivial, ?_⟩; gi_at_call 90; refine (callsIn_wide.2 (columns_any _ _ _ _ _)).mono ?_; rintro e w6 ⟨rfl, hM6⟩; have hres := (FIN.out w6 ((HM1d.out.trans HW.out.1).trans hM6)).2.2.2.2; have hf6 := hM6.at (HW.out.2.1.at HB5.out.2.1 id) id; have hs6 := hM6.at (HW.out.2.1.at HB5.out.2.2.1 id) id; have hp6 := hM6.at HW.out.2.2.2 id
                     have y0 : w6.cell? ⟨Wc.heap.size, 0, none⟩ = some (.bool false) := (by simp [World.cell?, hp6])
                     have t0 : w6.cell? ⟨w3.heap.size, 0, none⟩ = some (.int .i64 lt) := (by simp [World.cell?, hf6])
                     have t1 : w6.cell? ⟨w3.heap.size, 1, none⟩ = some (.int .i64 tp) := (by simp [World.cell?, hf6])
                     have t2 : w6.cell? ⟨w3.heap.size, 2, none⟩ = some (.int .i64 rt) := (by simp [World.cell?, hf6])
                     have t3 : w6.cell? ⟨w3.heap.size, 3, none⟩ = some (.int .i64 y) := (by simp [World.cell?, hf6])
                     have s0 : w6.cell? ⟨w3.heap.size + 1, 0, none⟩ = some (.int .i64 lt) := (by simp [World.cell?, hs6])
                     have s1 : w6.cell? ⟨w3.heap.size + 1, 1, none⟩ = some (.int .i64 y) := (by simp [World.cell?, hs6])
                     have s2 : w6.cell? ⟨w3.heap.size + 1, 2, none⟩ = some (.int .i64 rt) := (by simp [World.cell?, hs6])
                     have s3 : w6.cell? ⟨w3.heap.size + 1, 3, none⟩ = some (.int .i64 bt) := (by simp [World.cell?, hs6])
                     have r0 : w6.cell? ⟨w.heap.size + 1 + 1, 0, none⟩ = some (.bool false) := (by simp [World.cell?, hres]); have z0 := cells_frozen hres 0; have r1 : w6.cell? ⟨w.heap.size + 1 + 1, 1, none⟩ = some (.int .i64 0) := (by simp [World.cell?, hres]); have z1 := cells_frozen hres 1; have r2 : w6.cell? ⟨w.heap.size + 1 + 1, 2, none⟩ = some (.int .i64 0) := (by simp [World.cell?, hres]); have z2 := cells_frozen hres 2; have r3 : w6.cell? ⟨w.heap.size + 1 + 1, 3, none⟩ = some (.int .i64 0) := (by simp [World.cell?, hres]); have z3 := cells_frozen hres 3; have r4 : w6.cell? ⟨w.heap.size + 1 + 1, 4, none⟩ = some (.int .i64 0) := (by simp [World.cell?, hres]); have z4 := cells_frozen hres 4; have r5 : w6.cell? ⟨w.heap.size + 1 + 1, 5, none⟩ = some (.int .i64 0) := (by simp [World.cell?, hres]); have z5 := cells_frozen hres 5; have r6 : w6.cell? ⟨w.heap.size + 1 + 1, 6, none⟩ = some (.int .i64 0) := (by simp [World.cell?, hres]); have z6 := cells_frozen hres 6; have r7 : w6.cell? ⟨w.heap.size + 1 + 1, 7, none⟩ = some (.int .i64 0) := (by simp [World.cell?, hres]); have z7 := cells_frozen hres 7; have r8 : w6.cell? ⟨w.heap.size + 1 + 1, 8, none⟩ = some (.int .i64 0) := (by simp [World.cell?, hres]); have z8 := cells_frozen hres 8; have r9 : w6.cell? ⟨w.heap.size + 1 + 1, 9, none⟩ = some (.int .i64 0) := (by simp [World.cell?, hres]); have z9 := cells_frozen hres 9; have r10 : w6.cell? ⟨w.heap.size + 1 + 1, 10, none⟩ = some (.int .i64 0) := (by simp [World.cell?, hres]); have z10 := cells_frozen hres 10; have r11 : w6.cell? ⟨w.heap.size + 1 + 1, 11, none⟩ = some (.int .i64 0) := (by simp [World.cell?, hres]); have z11 := cells_frozen hres 11
                     have HM6 := Hold.mk (And.intro hM6 hres); clear hM6 hres hf6 hs6 hp6 b0 b1 b2 b3 f2)
        rw [Exit.noGoto_ret]
        gi_wp2
        rw [← hesE]
        show LeavesInM _ _ _ _ _ _ ((D :: Es).map markD) _ _
        have hzd := HW.out.2.1.size
        have hzd5 := HB5.out.2.2.2.1.size
        have hzd1 := HM1d.out.size
        refine stroke_end (B := W1.heap.size) rfl (by omega) rfl rfl HM6.out.2 (((HMW.out.trans HM1d.out).trans HW.out.1).trans HM6.out.1) ?_ ?_ _ _ _ _ _ _ _ _ _ _ _ _ ?_
        · refine List.nodup_cons.2 ⟨fun hm => ?_, HK2.out.2.2.1⟩
          have h1 := (Array.getElem?_eq_some_iff.1 (HK2.out.2.2.2 D hm).2).1
          omega
        · intro E hE
          rcases List.mem_cons.1 hE with rfl | hE
          · exact ⟨by omega, HM6.out.1.at HW.out.2.2.1 id⟩
          · exact ⟨(HK2.out.2.2.2 E hE).1, HM6.out.1.at (HW.out.1.at (HK2.out.2.2.2 E hE).2 id) id⟩
        · rw [nextL_across hy1 hyb hyes.out HK2.out.1]
          rfl
      case stop =>
        rintro D c pre Wx' hD hz hpre ⟨⟨rfl, x, hx, hxf⟩, hm'⟩ hK
        have hgo : Hold ((fun y => goesB g lt tp rt y lt y rt bt) y = false) := ⟨by
          simp only [goesB, List.all_eq_false]
          exact ⟨x, hpre.subset hx, by simp [hxf]⟩⟩
        have HW := Hold.mk (And.intro (HB5.out.2.2.2.1.trans hm') (And.intro hm' hK))
        clear hm' hK bp5 bb5 hmp5
        gi_wp2
        have hzd := HW.out.1.size
        have hzd5 := HB5.out.2.2.2.1.size
        have hzd1 := HM1d.out.size
        refine ⟨⟨y + 1, D :: Es, ?_, by omega, by omega, ?_, HK2.out.2.1.trans HW.out.1, ?_, ?_⟩, ?_⟩
        · repeat' apply And.intro
          all_goals first | rfl | (rw [← hesE]; rfl)
        · intro j h5 h6
          by_cases e : j = y
          · subst e; exact hgo.out
          · exact HK2.out.1 j h5 (by omega)
        · refine List.nodup_cons.2 ⟨fun hm => ?_, HK2.out.2.2.1⟩
          have h1 := (Array.getElem?_eq_some_iff.1 (HK2.out.2.2.2 D hm).2).1
          omega
        · intro E hE
          rcases List.mem_cons.1 hE with rfl | hE
          · exact ⟨by omega, HW.out.2.2⟩
          · exact ⟨(HK2.out.2.2.2 E hE).1, HW.out.1.at (HK2.out.2.2.2 E hE).2 id⟩
        · simp [intOf]; omega
    · have hyi : ¬ ((y : Int) < (bt : Int)) := by omega
      have HM1d := Hold.mk hM1d
      clear hM1d
      gi_wp2
      refine ⟨⟨1, Es, ?_, by omega, ?_, ?_, HM1d.out, HK2.out.2.2.1, HK2.out.2.2.2⟩, ?_⟩
      · repeat' apply And.intro
        all_goals first | rfl | (rw [← hesE]; rfl) | exact hesE.symm
      · intro _
        exact firstAt_none (fun i h1 h2 => HK2.out.1 i h1 (by omega))
      · intro _
        omega
      · simp [intOf]
  · gi_wp2
    obtain ⟨wa, hwa⟩ : ∃ wa, Wc.alloc (.cells #[.bool true, .func (.func 90) #[] #[], .func (.func 89) #[] #[], .func (.func 92) #[] #[]] 138) = wa := ⟨_, rfl⟩
    have hMa : Mod noB Wc wa := by rw [← hwa]; exact (Mod.refl _ _).alloc _
    have hda : wa.heap[Wc.heap.size]? = some (.cells #[.bool true, .func (.func 90) #[] #[], .func (.func 89) #[] #[], .func (.func 92) #[] #[]] 138) := by rw [← hwa]; exact World.alloc_heap_new _ _
    rw [hwa]
    clear hwa p0 p1 p2 p3 b0 b1 b2 b3 d0 d1 d2 d3 d4 d5 d6 d7
    obtain ⟨_, ⟨b0, b1, b2, b3⟩, _, _, _⟩ := FIN.out wa (HK.out.2.2.1.trans hMa)
    have e0 : wa.cell? ⟨Wc.heap.size, 1, none⟩ = some (.func (.func 90) #[] #[]) := by simp [World.cell?, hda]
    have HMA := Hold.mk (And.intro hMa hda)
    clear hMa hda
    refine wpIn_scope_wide ?_
    gi_wp2_with (refine ⟨trivial, ?_⟩; gi_at_call 90; refine (callsIn_wide.2 (columns_any _ _ _ _ _)).mono ?_; rintro e w2 ⟨rfl, hM2⟩; have HM2 := Hold.mk hM2; clear hM2)
    refine wpIn_label ?_
    gi_wp2
    refine wpIn_loop (fun a Wd => ∃ (y : Nat) (Ds : List Nat),
        a = { tmps := List.toArray ((picV W H N mb) :: (blockV lt tp rt bt) :: (.pointer (some ⟨w.heap.size, 0, none⟩)) :: (.pointer (some ⟨w.heap.size + 1, 0, none⟩)) :: (.pointer (some ⟨w.heap.size + 1 + 1, 0, none⟩)) :: (.bool false) :: (undef) :: (.pointer (some ⟨Wc.heap.size, 0, none⟩)) :: (tmpOf a 8) :: (.int .i64 rt) :: (.int .i64 (y : Nat)) :: (tmpOf a 11) :: (tmpOf a 12) :: (tmpOf a 13) :: (tmpOf a 14) :: (tmpOf a 15) :: (tmpOf a 16) :: (.slice (some ⟨w.heap.size + 1 + 1 + 1, 0, none⟩) 2 2) :: (.int .i64 2) :: (.int .i64 1) :: (tmpOf a 20) :: (tmpOf a 21) :: (tmpOf a 22) :: (tmpOf a 23) :: (tmpOf a 24) :: (tmpOf a 25) :: (tmpOf a 26) :: (tmpOf a 27) :: (tmpOf a 28) :: (tmpOf a 29) :: (tmpOf a 30) :: (tmpOf a 31) :: (tmpOf a 32) :: (tmpOf a 33) :: (tmpOf a 34) :: (tmpOf a 35) :: (tmpOf a 36) :: (tmpOf a 37) :: (tmpOf a 38) :: (tmpOf a 39) :: (tmpOf a 40) :: (tmpOf a 41) :: (tmpOf a 42) :: (tmpOf a 43) :: (tmpOf a 44) :: (tmpOf a 45) :: (tmpOf a 46) :: (tmpOf a 47) :: (tmpOf a 48) :: (tmpOf a 49) :: (tmpOf a 50) :: (tmpOf a 51) :: (tmpOf a 52) :: (tmpOf a 53) :: (tmpOf a 54) :: (tmpOf a 55) :: (tmpOf a 56) :: (tmpOf a 57) :: (tmpOf a 58) :: (tmpOf a 59) :: (tmpOf a 60) :: (tmpOf a 61) :: (tmpOf a 62) :: (tmpOf a 63) :: (tmpOf a 64) :: (tmpOf a 65) :: (tmpOf a 66) :: (tmpOf a 67) :: (tmpOf a 68) :: (tmpOf a 69) :: (tmpOf a 70) :: (tmpOf a 71) :: (undef) :: []), defers := Ds.map markD } ∧
        lt + 1 ≤ y ∧ y ≤ rt ∧ (∀ j, lt + 1 ≤ j → j < y → (fun x => goesB g lt tp x bt x tp rt bt) j = false) ∧ Mod noB wa Wd ∧ Ds.Nodup ∧ ∀ D ∈ Ds, W1.heap.size ≤ D ∧ Wd.heap[D]? = some (.deferred (some [])))
      (fun a _ => rt - (intOf (a.tmps.getD 10 undef)).toNat) ⟨lt + 1, Ds, by rw [← hdsE]; rfl, by omega, by omega, fun j h5 h6 => by omega, HM2.out, HK.out.2.2.2.1, fun D hD => ⟨(HK.out.2.2.2.2 D hD).1, HM2.out.at (HMA.out.1.at (HK.out.2.2.2.2 D hD).2 id) id⟩⟩ ?_
    have HDE := Hold.mk hdsE
    clear hdsE e0 b0 b1 b2 b3
    rintro a Wd ⟨y, Es, ha, hy1, hy2, hno, hmd, hnd, hes⟩
    generalize tmpOf a = v at ha
    subst ha
    have hM1d := (HK.out.2.2.1.trans HMA.out.1).trans hmd
    have HK2 := Hold.mk (And.intro hno (And.intro hmd (And.intro hnd hes)))
    clear hno hmd hnd hes
    generalize hesE : Es.map markD = es
    by_cases hyb : y < rt
    · obtain ⟨⟨p0, p1, p2, p3⟩, ⟨b0, b1, b2, b3⟩, _, _, _⟩ := FIN.out Wd hM1d
      have f3 : Wd.cell? ⟨Wc.heap.size, 3, none⟩ = some (.func (.func 92) #[] #[]) := by simp [World.cell?, HK2.out.2.1.at HMA.out.2 id]
      have hyi : (y : Int) < (rt : Int) := by omega
      have HM1d := Hold.mk hM1d
      clear hM1d
      gi_wp2_with (first
        | (refine ⟨trivial, ?_⟩; gi_at_call 92; refine (callsIn_wide.2 (upright_any _ _ _ _ _ _)).mono ?_; rintro e w3 ⟨rfl, hM3⟩
           obtain ⟨⟨q0, q1, q2, q3⟩, _⟩ := FIN.out w3 (HM1d.out.trans hM3)
           have hz3 : w.heap.size < w3.heap.size := (by have := (HM1d.out.trans hM3).size; omega)
           have HM3 := Hold.mk hM3
           clear hM3 p0 p1 p2 p3 b0 b1 b2 b3 f3)
        | (refine ⟨trivial, ?_⟩; gi_at_call 86; refine (callsIn_wide.2 (within_any g W H HG.out N mb lt tp y bt (by omega) (by omega) (by omega) (by omega) _ (FIN.out _ (((HM1d.out.trans HM3.out).alloc _).alloc _)).2.2.2.1)).mono ?_; rintro e w4 ⟨rfl, hM4⟩
           have hM34 : Mod noB w3 w4 := (((Mod.refl noB w3).alloc _).alloc _).trans hM4
           have h11 := hM4.at ((Below.heap_alloc _ (.cells #[.int .i64 y, .int .i64 tp, .int .i64 rt, .int .i64 bt] 97) _ (by simp)).trans (World.alloc_heap_new w3 (.cells #[.int .i64 lt, .int .i64 tp, .int .i64 y, .int .i64 bt] 97))) id
           have h12 := hM4.at (World.alloc_heap_new (w3.alloc (.cells #[.int .i64 lt, .int .i64 tp, .int .i64 y, .int .i64 bt] 97)) (.cells #[.int .i64 y, .int .i64 tp, .int .i64 rt, .int .i64 bt] 97)) id
           rw [World.size_alloc] at h12
           have HM4 := Hold.mk (And.intro hM34 (And.intro h11 h12))
           clear hM34 h11 h12 hM4 q0 q1 q2 q3)
        | (refine wpListIn_storeRow rfl 84 (.tmp 13) (.tmp 47) rfl w4.heap.size rfl _ rfl 84 _ (World.alloc_heap_new w4 _) (by rw [boolCells, fcells_size]; kernel_rfl) (by rw [boolCells, fcells_size]; rfl) (by simp [boolCells, fcells, Value.oneCell']) ?_
           generalize hWx : World.putObj _ _ _ = Wx
           have hx := laid_put hWx
           obtain ⟨⟨q0, q1, q2, q3⟩, _⟩ := FIN.out Wx ((HM1d.out.trans HM3.out).trans (HM4.out.1.trans hx.1))
           have h12 := hx.1.at HM4.out.2.2 id
           have g0 : Wx.cell? ⟨w3.heap.size + 1, 0, none⟩ = some (.int .i64 y) := (by simp [World.cell?, h12])
           have g1 : Wx.cell? ⟨w3.heap.size + 1, 1, none⟩ = some (.int .i64 tp) := (by simp [World.cell?, h12])
           have g2 : Wx.cell? ⟨w3.heap.size + 1, 2, none⟩ = some (.int .i64 rt) := (by simp [World.cell?, h12])
           have g3 : Wx.cell? ⟨w3.heap.size + 1, 3, none⟩ = some (.int .i64 bt) := (by simp [World.cell?, h12])
           have hzx : w.heap.size < Wx.heap.size := (by have := ((HM1d.out.trans HM3.out).trans (HM4.out.1.trans hx.1)).size; omega)
           have hzy : w3.heap.size + 1 < Wx.heap.size := (Array.getElem?_eq_some_iff.1 h12).1
           have HX := Hold.mk hx
           clear hWx hx h12 hz3)
        | (refine ⟨trivial, ?_⟩; gi_at_call 84; refine (callsIn_wide.2 (numbers_any _ _ _ _ _ _ _ _ _)).mono ?_; rintro e w5 ⟨rfl, rfl⟩))
      rw [allocL2]
      obtain ⟨W5, hW5⟩ : ∃ W5, allocL Wx [.cells #[.int .i64 W, .int .i64 H, .int .i64 N, .map (some mb)] 71, .cells #[.int .i64 y, .int .i64 tp, .int .i64 rt, .int .i64 bt] 97] = W5 := ⟨_, rfl⟩
      have hM5 : Mod noB Wx W5 := by rw [← hW5]; exact allocL_mod _ _ _
      have hz5 : W5.heap.size = Wx.heap.size + 2 := by rw [← hW5]; exact allocL_size _ _
      have bp5 : W5.heap[Wx.heap.size + 0]? = some (.cells #[.int .i64 W, .int .i64 H, .int .i64 N, .map (some mb)] 71) := by rw [← hW5]; exact allocL_at _ _ _ _ rfl
      have bb5 : W5.heap[Wx.heap.size + 1]? = some (.cells #[.int .i64 y, .int .i64 tp, .int .i64 rt, .int .i64 bt] 97) := by rw [← hW5]; exact allocL_at _ _ _ _ rfl
      rw [hW5]
      simp only [Nat.add_zero] at bp5
      clear hW5 q0 q1 q2 q3 g0 g1 g2 g3
      have hMd5 : Mod noB Wd W5 := ((HM3.out.trans HM4.out.1).trans HX.out.1).trans hM5
      have hbw5 := hM5.at HX.out.2 id
      have hf5 := hM5.at (HX.out.1.at HM4.out.2.1 id) id
      have hs5 := hM5.at (HX.out.1.at HM4.out.2.2 id) id
      have hmp5 := (FIN.out W5 (HM1d.out.trans hMd5)).2.2.2.1
      have hz45 : w4.heap.size < W5.heap.size := (Array.getElem?_eq_some_iff.1 hbw5).1
      have H40 : Hold (∀ x ∈ numbersL g y tp rt bt, 0 ≤ x ∧ x < 40) := ⟨fun x hx => numbersL_le HG.out (by omega) (by omega) hx⟩
      have HB5 := Hold.mk (And.intro hbw5 (And.intro hf5 (And.intro hs5 (And.intro hMd5 hM5))))
      clear hbw5 hf5 hs5 hM5
      refine range_plain (gf := 88) (lb := #[.pointer (some ⟨Wx.heap.size + 1, 0, none⟩), .pointer (some ⟨Wx.heap.size, 0, none⟩)]) rfl rfl enter88 (numbers1_runs (Wx.heap.size + 1) Wx.heap.size mb y tp rt bt W H N g W5 bb5 bp5 hmp5 (by omega) (by omega) (by omega) (by omega))
        (by rintro b (rfl | rfl | rfl)
            · omega
            · omega
            · exact hmp5.lt) noB (fun b hb => hb.elim)
        (fun pre Wr => (∀ x ∈ pre, x ∉ numbersL g lt tp y bt) ∧ Mod noB W5 Wr)
        (fun c pre Wr => (c = .exit 3 ∧ ∃ x ∈ pre, x ∈ numbersL g lt tp y bt) ∧ Mod noB W5 Wr)
        (fun s A B h hg => ⟨h.1, h.2.then hg (fun i h1 h2 => by omega)⟩)
        (fun c s A B h hg => ⟨h.1, h.2.then hg (fun i h1 h2 => by omega)⟩)
        ⟨fun x hx => (by cases hx), Mod.refl _ _⟩
        none
        (fun _ x => { tmps := List.toArray ((picV W H N mb) :: (blockV lt tp rt bt) :: (.pointer (some ⟨w.heap.size, 0, none⟩)) :: (.pointer (some ⟨w.heap.size + 1, 0, none⟩)) :: (.pointer (some ⟨w.heap.size + 1 + 1, 0, none⟩)) :: (.bool false) :: (undef) :: (.pointer (some ⟨Wc.heap.size, 0, none⟩)) :: (v 8) :: (.int .i64 rt) :: (.int .i64 (y : Nat)) :: (.pointer (some ⟨w3.heap.size, 0, none⟩)) :: (.pointer (some ⟨w3.heap.size + 1, 0, none⟩)) :: (.pointer (some ⟨w4.heap.size, 0, none⟩)) :: (.int .i64 x) :: (v 15) :: (v 16) :: (.slice (some ⟨w.heap.size + 1 + 1 + 1, 0, none⟩) 2 2) :: (.int .i64 2) :: (.int .i64 1) :: (v 20) :: (v 21) :: (v 22) :: (v 23) :: (v 24) :: (v 25) :: (v 26) :: (v 27) :: (v 28) :: (v 29) :: (v 30) :: (v 31) :: (.int .i64 (y : Nat)) :: (.int .i64 rt) :: (.bool true) :: (v 35) :: (v 36) :: (.tuple #[.agg #[.int .i64 lt, .int .i64 tp, .int .i64 y, .int .i64 bt], .agg #[.int .i64 y, .int .i64 tp, .int .i64 rt, .int .i64 bt]]) :: (.pointer (some ⟨Wc.heap.size, 3, none⟩)) :: (.func (.func 92) #[] #[]) :: (.agg #[.int .i64 lt, .int .i64 tp, .int .i64 rt, .int .i64 bt]) :: (.int .i64 (y : Nat)) :: (.tuple #[.agg #[.int .i64 lt, .int .i64 tp, .int .i64 y, .int .i64 bt], .agg #[.int .i64 y, .int .i64 tp, .int .i64 rt, .int .i64 bt]]) :: (.agg #[.int .i64 lt, .int .i64 tp, .int .i64 y, .int .i64 bt]) :: (.agg #[.int .i64 y, .int .i64 tp, .int .i64 rt, .int .i64 bt]) :: (.agg #[.int .i64 W, .int .i64 H, .int .i64 N, .map (some mb)]) :: (.agg #[.int .i64 lt, .int .i64 tp, .int .i64 y, .int .i64 bt]) :: (.agg (boolCells 40 (memB (numbersL g lt tp y bt)))) :: (.agg #[.int .i64 W, .int .i64 H, .int .i64 N, .map (some mb)]) :: (.agg #[.int .i64 y, .int .i64 tp, .int .i64 rt, .int .i64 bt]) :: (.func (.func 88) #[] #[.pointer (some ⟨Wx.heap.size + 1, 0, none⟩), .pointer (some ⟨Wx.heap.size, 0, none⟩)]) :: (.int .i64 x) :: (v 52) :: (v 53) :: (v 54) :: (v 55) :: (v 56) :: (v 57) :: (v 58) :: (v 59) :: (v 60) :: (v 61) :: (v 62) :: (v 63) :: (v 64) :: (v 65) :: (v 66) :: (v 67) :: (v 68) :: (v 69) :: (v 70) :: (v 71) :: (undef) :: []), defers := [] })
        ?assign ?body ?done ?stop
      case assign =>
        intro l x W K hK
        gi_wp2
        exact hK
      case body =>
        rintro l2 pre x rest a' Wr hL hl2 hr2 hzr ⟨hno, hmr⟩ rfl
        obtain ⟨hx1, hx2⟩ := H40.out x (by rw [hL]; simp)
        obtain ⟨x, rfl⟩ := Int.eq_ofNat_of_zero_le hx1
        have hx : x < 40 := by omega
        have c0 : Wr.cell? ⟨w4.heap.size, x, none⟩ = some (.bool (memB (numbersL g lt tp y bt) x)) := fcells_cell (hmr.at HB5.out.1 id) hx
        have HR := Hold.mk (And.intro hno hmr)
        clear hL hno hmr bp5 bb5 hmp5
        cases hmb : memB (numbersL g lt tp y bt) x with
        | true =>
          rw [hmb] at c0
          have HMB : Hold ((x : Int) ∈ numbersL g lt tp y bt) := ⟨by unfold memB at hmb; simpa using hmb⟩
          clear hmb
          gi_wp2
          exact ⟨Mod.refl _ _, ⟨rfl, x, by simp, HMB.out⟩, HR.out.2⟩
        | false =>
          rw [hmb] at c0
          have HMB : Hold ((x : Int) ∉ numbersL g lt tp y bt) := ⟨by unfold memB at hmb; simpa using hmb⟩
          clear hmb
          gi_wp2
          refine ⟨Mod.refl _ _, fun z hz => ?_, HR.out.2⟩
          rcases List.mem_append.1 hz with h | h
          · exact HR.out.1 z h
          · obtain rfl : z = x := by simpa using h
            exact HMB.out
      case done =>
        rintro D W' hD hz ⟨hno', hm'⟩ hK
        have hyes : Hold ((fun x => goesB g lt tp x bt x tp rt bt) y = true) := ⟨by
          simp only [goesB, List.all_eq_true]
          intro n hn
          simpa using hno' n hn⟩
        have hM5' := HB5.out.2.2.2.1.trans hm'
        obtain ⟨_, ⟨b0, b1, b2, b3⟩, _⟩ := FIN.out W' (HM1d.out.trans hM5')
        have hpd := hM5'.at (HK2.out.2.1.at HMA.out.2 id) id
        have f2 : W'.cell? ⟨Wc.heap.size, 2, none⟩ = some (.func (.func 89) #[] #[]) := by simp [World.cell?, hpd]
        have HW := Hold.mk (And.intro hM5' (And.intro hm' (And.intro hK hpd)))
        have hzw : w.heap.size + 1 + 1 < W'.heap.size := by have := (HM1d.out.trans hM5').size; omega
        clear hno' hM5' hm' hK hpd bp5 bb5 hmp5
        gi_wp2_with (refine ⟨trivial, ?_⟩; gi_at_call 89; refine (callsIn_wide.2 (rows_any _ _ _ _ _)).mono ?_; rintro e w6 ⟨rfl, hM6⟩; have hres := (FIN.out w6 ((HM1d.out.trans HW.out.1).trans hM6)).2.2.2.2; have hf6 := hM6.at (HW.out.2.1.at HB5.out.2.1 id) id; have hs6 := hM6.at (HW.out.2.1.at HB5.out.2.2.1 id) id; have hp6 := hM6.at HW.out.2.2.2 id
                     have y0 : w6.cell? ⟨Wc.heap.size, 0, none⟩ = some (.bool true) := (by simp [World.cell?, hp6])
                     have t0 : w6.cell? ⟨w3.heap.size, 0, none⟩ = some (.int .i64 lt) := (by simp [World.cell?, hf6])
                     have t1 : w6.cell? ⟨w3.heap.size, 1, none⟩ = some (.int .i64 tp) := (by simp [World.cell?, hf6])
                     have t2 : w6.cell? ⟨w3.heap.size, 2, none⟩ = some (.int .i64 y) := (by simp [World.cell?, hf6])
                     have t3 : w6.cell? ⟨w3.heap.size, 3, none⟩ = some (.int .i64 bt) := (by simp [World.cell?, hf6])
                     have s0 : w6.cell? ⟨w3.heap.size + 1, 0, none⟩ = some (.int .i64 y) := (by simp [World.cell?, hs6])
                     have s1 : w6.cell? ⟨w3.heap.size + 1, 1, none⟩ = some (.int .i64 tp) := (by simp [World.cell?, hs6])
                     have s2 : w6.cell? ⟨w3.heap.size + 1, 2, none⟩ = some (.int .i64 rt) := (by simp [World.cell?, hs6])
                     have s3 : w6.cell? ⟨w3.heap.size + 1, 3, none⟩ = some (.int .i64 bt) := (by simp [World.cell?, hs6])
                     have r0 : w6.cell? ⟨w.heap.size + 1 + 1, 0, none⟩ = some (.bool false) := (by simp [World.cell?, hres]); have z0 := cells_frozen hres 0; have r1 : w6.cell? ⟨w.heap.size + 1 + 1, 1, none⟩ = some (.int .i64 0) := (by simp [World.cell?, hres]); have z1 := cells_frozen hres 1; have r2 : w6.cell? ⟨w.heap.size + 1 + 1, 2, none⟩ = some (.int .i64 0) := (by simp [World.cell?, hres]); have z2 := cells_frozen hres 2; have r3 : w6.cell? ⟨w.heap.size + 1 + 1, 3, none⟩ = some (.int .i64 0) := (by simp [World.cell?, hres]); have z3 := cells_frozen hres 3; have r4 : w6.cell? ⟨w.heap.size + 1 + 1, 4, none⟩ = some (.int .i64 0) := (by simp [World.cell?, hres]); have z4 := cells_frozen hres 4; have r5 : w6.cell? ⟨w.heap.size + 1 + 1, 5, none⟩ = some (.int .i64 0) := (by simp [World.cell?, hres]); have z5 := cells_frozen hres 5; have r6 : w6.cell? ⟨w.heap.size + 1 + 1, 6, none⟩ = some (.int .i64 0) := (by simp [World.cell?, hres]); have z6 := cells_frozen hres 6; have r7 : w6.cell? ⟨w.heap.size + 1 + 1, 7, none⟩ = some (.int .i64 0) := (by simp [World.cell?, hres]); have z7 := cells_frozen hres 7; have r8 : w6.cell? ⟨w.heap.size + 1 + 1, 8, none⟩ = some (.int .i64 0) := (by simp [World.cell?, hres]); have z8 := cells_frozen hres 8; have r9 : w6.cell? ⟨w.heap.size + 1 + 1, 9, none⟩ = some (.int .i64 0) := (by simp [World.cell?, hres]); have z9 := cells_frozen hres 9; have r10 : w6.cell? ⟨w.heap.size + 1 + 1, 10, none⟩ = some (.int .i64 0) := (by simp [World.cell?, hres]); have z10 := cells_frozen hres 10; have r11 : w6.cell? ⟨w.heap.size + 1 + 1, 11, none⟩ = some (.int .i64 0) := (by simp [World.cell?, hres]); have z11 := cells_frozen hres 11
                     have HM6 := Hold.mk (And.intro hM6 hres); clear hM6 hres hf6 hs6 hp6 b0 b1 b2 b3 f2)
        rw [Exit.noGoto_ret]
        gi_wp2
        rw [← hesE]
        show LeavesInM _ _ _ _ _ _ ((D :: Es).map markD) _ _
        have hzd := HW.out.2.1.size
        have hzd5 := HB5.out.2.2.2.1.size
        have hzd1 := HM1d.out.size
        refine stroke_end (B := W1.heap.size) rfl (by omega) rfl rfl HM6.out.2 (((HMW.out.trans HM1d.out).trans HW.out.1).trans HM6.out.1) ?_ ?_ _ _ _ _ _ _ _ _ _ _ _ _ ?_
        · refine List.nodup_cons.2 ⟨fun hm => ?_, HK2.out.2.2.1⟩
          have h1 := (Array.getElem?_eq_some_iff.1 (HK2.out.2.2.2 D hm).2).1
          omega
        · intro E hE
          rcases List.mem_cons.1 hE with rfl | hE
          · exact ⟨by omega, HM6.out.1.at HW.out.2.2.1 id⟩
          · exact ⟨(HK2.out.2.2.2 E hE).1, HM6.out.1.at (HW.out.1.at (HK2.out.2.2.2 E hE).2 id) id⟩
        · rw [nextL_upright (HK.out.1 (Nat.le_refl _)) hy1 hyb hyes.out HK2.out.1]
          rfl
      case stop =>
        rintro D c pre Wx' hD hz hpre ⟨⟨rfl, x, hx, hxf⟩, hm'⟩ hK
        have hgo : Hold ((fun x => goesB g lt tp x bt x tp rt bt) y = false) := ⟨by
          simp only [goesB, List.all_eq_false]
          exact ⟨x, hpre.subset hx, by simp [hxf]⟩⟩
        have HW := Hold.mk (And.intro (HB5.out.2.2.2.1.trans hm') (And.intro hm' hK))
        clear hm' hK bp5 bb5 hmp5
        gi_wp2
        have hzd := HW.out.1.size
        have hzd5 := HB5.out.2.2.2.1.size
        have hzd1 := HM1d.out.size
        refine ⟨⟨y + 1, D :: Es, ?_, by omega, by omega, ?_, HK2.out.2.1.trans HW.out.1, ?_, ?_⟩, ?_⟩
        · repeat' apply And.intro
          all_goals first | rfl | (rw [← hesE]; rfl)
        · intro j h5 h6
          by_cases e : j = y
          · subst e; exact hgo.out
          · exact HK2.out.1 j h5 (by omega)
        · refine List.nodup_cons.2 ⟨fun hm => ?_, HK2.out.2.2.1⟩
          have h1 := (Array.getElem?_eq_some_iff.1 (HK2.out.2.2.2 D hm).2).1
          omega
        · intro E hE
          rcases List.mem_cons.1 hE with rfl | hE
          · exact ⟨by omega, HW.out.2.2⟩
          · exact ⟨(HK2.out.2.2.2 E hE).1, HW.out.1.at (HK2.out.2.2.2 E hE).2 id⟩
        · simp [intOf]; omega
    · have hyi : ¬ ((y : Int) < (rt : Int)) := by omega
      have HM1d := Hold.mk hM1d
      clear hM1d
      gi_wp2
      refine ⟨⟨2, Es, ?_, by omega, ?_, ?_, HM1d.out, HK2.out.2.2.1, HK2.out.2.2.2⟩, ?_⟩
      · repeat' apply And.intro
        all_goals first | rfl | (rw [← hesE]; rfl) | exact hesE.symm
      · intro _
        exact HK.out.1 (Nat.le_refl _)
      · intro _
        exact firstAt_none (fun i h1 h2 => HK2.out.1 i h1 (by omega))
      · simp [intOf]
  · have hres := (FIN.out Wc HK.out.2.2.1).2.2.2.2
    have r0 : Wc.cell? ⟨w.heap.size + 1 + 1, 0, none⟩ = some (.bool false) := (by simp [World.cell?, hres]); have z0 := cells_frozen hres 0; have r1 : Wc.cell? ⟨w.heap.size + 1 + 1, 1, none⟩ = some (.int .i64 0) := (by simp [World.cell?, hres]); have z1 := cells_frozen hres 1; have r2 : Wc.cell? ⟨w.heap.size + 1 + 1, 2, none⟩ = some (.int .i64 0) := (by simp [World.cell?, hres]); have z2 := cells_frozen hres 2; have r3 : Wc.cell? ⟨w.heap.size + 1 + 1, 3, none⟩ = some (.int .i64 0) := (by simp [World.cell?, hres]); have z3 := cells_frozen hres 3; have r4 : Wc.cell? ⟨w.heap.size + 1 + 1, 4, none⟩ = some (.int .i64 0) := (by simp [World.cell?, hres]); have z4 := cells_frozen hres 4; have r5 : Wc.cell? ⟨w.heap.size + 1 + 1, 5, none⟩ = some (.int .i64 0) := (by simp [World.cell?, hres]); have z5 := cells_frozen hres 5; have r6 : Wc.cell? ⟨w.heap.size + 1 + 1, 6, none⟩ = some (.int .i64 0) := (by simp [World.cell?, hres]); have z6 := cells_frozen hres 6; have r7 : Wc.cell? ⟨w.heap.size + 1 + 1, 7, none⟩ = some (.int .i64 0) := (by simp [World.cell?, hres]); have z7 := cells_frozen hres 7; have r8 : Wc.cell? ⟨w.heap.size + 1 + 1, 8, none⟩ = some (.int .i64 0) := (by simp [World.cell?, hres]); have z8 := cells_frozen hres 8; have r9 : Wc.cell? ⟨w.heap.size + 1 + 1, 9, none⟩ = some (.int .i64 0) := (by simp [World.cell?, hres]); have z9 := cells_frozen hres 9; have r10 : Wc.cell? ⟨w.heap.size + 1 + 1, 10, none⟩ = some (.int .i64 0) := (by simp [World.cell?, hres]); have z10 := cells_frozen hres 10; have r11 : Wc.cell? ⟨w.heap.size + 1 + 1, 11, none⟩ = some (.int .i64 0) := (by simp [World.cell?, hres]); have z11 := cells_frozen hres 11
    have HF := Hold.mk hres
    clear hres p0 p1 p2 p3 b0 b1 b2 b3 d0 d1 d2 d3 d4 d5 d6 d7
    gi_wp2
    rw [← hdsE]
    show LeavesInM _ _ _ _ _ _ (Ds.map markD) _ _
    refine stroke_end (B := W1.heap.size) rfl (by omega) rfl rfl HF.out (HMW.out.trans HK.out.2.2.1) HK.out.2.2.2.1 HK.out.2.2.2.2 _ _ _ _ _ _ _ _ _ _ _ _ ?_
    rw [nextL_none (HK.out.1 (by omega)) (HK.out.2.1 (by omega))]
    rfl
end Go.Proofs.Ytogalmkeipigeaa

/- saw: the lines of a block, behind those done before. -/
namespace Go.Proofs.Ytogalmkeipigeaa
open Go.RowKit Go.Shelf

abbrev LineT := Bool × Int × Int × Int
/-- The lines of a block; none: it cannot be sawn. -/
def sawL (g : Int × Int → Option Int) : Nat → Nat → Nat → Nat → Nat → Option (List LineT)
  | 0, _, _, _, _ => none
  | f + 1, lt, tp, rt, bt => if wholeB (numbersL g lt tp rt bt) then some [] else
    match nextL g lt tp rt bt with
    | none => none
    | some ((u, at', fr, to), (a, b, c, d), (a', b', c', d')) => match sawL g f a b c d with
      | none => none
      | some L1 => match sawL g f a' b' c' d' with
        | none => none
        | some L2 => some ((u, (at' : Int), (fr : Int), (to : Int)) :: (L1 ++ L2))

theorem firstAt_in {p : Nat → Bool} : ∀ {n a i : Nat}, firstAt p a n = some i → a ≤ i ∧ i < a + n := by
  intro n
  induction n with
  | zero => intro a i h; cases h
  | succ n ih =>
    intro a i h
    simp only [firstAt] at h
    split at h
    · cases h; omega
    · have := ih h; omega
theorem nextL_in {g : Int × Int → Option Int} {lt tp rt bt : Nat} {r} (h : nextL g lt tp rt bt = some r) :
    (∃ y, tp < y ∧ y < bt ∧ r = ((false, y, lt, rt), (lt, tp, rt, y), (lt, y, rt, bt))) ∨ (∃ x, lt < x ∧ x < rt ∧ r = ((true, x, tp, bt), (lt, tp, x, bt), (x, tp, rt, bt))) := by
  unfold nextL at h
  split at h
  · rename_i y hy
    cases h
    have := firstAt_in hy
    exact .inl ⟨y, by omega, by omega, rfl⟩
  · split at h
    · rename_i x hx
      cases h
      have := firstAt_in hx
      exact .inr ⟨x, by omega, by omega, rfl⟩
    · cases h
theorem area_h {l r t y b : Nat} (h1 : l < r) (h2 : t < y) (h3 : y < b) : (r - l) * (y - t) + (r - l) * (b - y) = (r - l) * (b - t) ∧ 0 < (r - l) * (y - t) ∧ 0 < (r - l) * (b - y) := by
  refine ⟨?_, Nat.mul_pos (by omega) (by omega), Nat.mul_pos (by omega) (by omega)⟩
  rw [← Nat.mul_add]; congr 1; omega
theorem area_v {l r t x b : Nat} (h1 : t < b) (h2 : l < x) (h3 : x < r) : (x - l) * (b - t) + (r - x) * (b - t) = (r - l) * (b - t) ∧ 0 < (x - l) * (b - t) ∧ 0 < (r - x) * (b - t) := by
  refine ⟨?_, Nat.mul_pos (by omega) (by omega), Nat.mul_pos (by omega) (by omega)⟩
  rw [← Nat.add_mul]; congr 1; omega

theorem sawL_len {g : Int × Int → Option Int} : ∀ {f lt tp rt bt : Nat} {L : List LineT}, lt < rt → tp < bt → sawL g f lt tp rt bt = some L → L.length + 1 ≤ (rt - lt) * (bt - tp) := by
  intro f
  induction f with
  | zero => intro lt tp rt bt L _ _ h; cases h
  | succ f ih =>
    intro lt tp rt bt L h1 h2 h
    simp only [sawL] at h
    split at h
    · cases h; exact Nat.mul_pos (by omega) (by omega)
    · split at h
      · cases h
      · rename_i u at' fr to a b c d a' b' c' d' hn
        split at h
        · cases h
        · rename_i L1 hL1
          split at h
          · cases h
          · rename_i L2 hL2
            cases h
            rcases nextL_in hn with ⟨y, hy1, hy2, e⟩ | ⟨x, hx1, hx2, e⟩
            · simp only [Prod.mk.injEq] at e
              obtain ⟨_, ⟨rfl, rfl, rfl, rfl⟩, rfl, rfl, rfl, rfl⟩ := e
              have q1 := ih h1 hy1 hL1
              have q2 := ih h1 hy2 hL2
              have q3 := area_h h1 hy1 hy2
              simp only [List.length_cons, List.length_append]
              omega
            · simp only [Prod.mk.injEq] at e
              obtain ⟨_, ⟨rfl, rfl, rfl, rfl⟩, rfl, rfl, rfl, rfl⟩ := e
              have q1 := ih hx1 h2 hL1
              have q2 := ih hx2 h2 hL2
              have q3 := area_v h2 hx1 hx2
              simp only [List.length_cons, List.length_append]
              omega

/-- Of what lay, rows of lines from base on may have turned, and nothing else. -/
def R61 (base : Nat) (w w' : World) : Prop := Mod (fun k => base ≤ k ∧ ∃ cur, w.heap[k]? = some (.cells cur 61)) w w'
theorem R61.of {base : Nat} {w w' : World} (h : Mod noB w w') : R61 base w w' := h.wider (fun _ _ h => h.elim)
theorem R61.at {base : Nat} {w w' : World} (h : R61 base w w') {k : Nat} {o : Obj} (hk : w.heap[k]? = some o) (ho : ∀ cur, o ≠ .cells cur 61) : w'.heap[k]? = some o :=
  Mod.at h hk (by rintro ⟨_, cur, hc⟩; rw [hk] at hc; exact ho cur (by simpa using hc))
theorem R61.trans {base : Nat} {w w1 w2 : World} (h : R61 base w w1) (k : R61 base w1 w2) : R61 base w w2 :=
  Mod.then h k (fun i hi hT => by
    obtain ⟨hb, cur, hc⟩ := hT
    refine ⟨hb, ?_⟩
    apply Classical.byContradiction
    intro hno
    have e := Mod.block h i hi (fun ht => hno ht.2)
    exact hno ⟨cur, e.symm.trans hc⟩)
theorem R61.none {w w' : World} (h : R61 w.heap.size w w') : Mod noB w w' :=
  Mod.then (T := noB) (Mod.refl noB w) h (fun i hi hT => absurd hi (Nat.not_lt.2 hT.1))
theorem R61.map {base : Nat} {w w' : World} (h : R61 base w w') {mb : Nat} {g : Int × Int → Option Int} (hm : MapIs Try.prog 106 cellV w mb g) : MapIs Try.prog 106 cellV w' mb g := by
  have hm' := hm
  obtain ⟨es, c, hb, _⟩ := hm
  exact hm'.same ((h.at hb (fun cur e => by cases e)).trans hb.symm)
theorem R61.own {base : Nat} {w w' : World} {v : Value} {n : Nat} {xs : List Value} (hown : w.ownsRow base 61 4 v n xs) (hg : w.grownBy w' v.ownBlock) : R61 base w w' := by
  refine ⟨hg.os, hg.tape, hg.output, hg.size, fun i hi hT => hg.block i hi (fun e => hT ?_)⟩
  obtain ⟨_, ⟨rfl, _⟩ | ⟨g, cap, cur, rfl, hb, hh, _⟩⟩ := hown
  · cases e
  · have : some g = some i := e.symm
    cases this
    exact ⟨hb, cur, hh⟩
theorem own_mod {base e size n : Nat} {w w' : World} {v : Value} {xs : List Value} (h : w.ownsRow base e size v n xs) (hm : Mod noB w w') : w'.ownsRow base e size v n xs := by
  obtain ⟨h1, h2 | ⟨g, cap, cur, hv, hb, hh, hr⟩⟩ := h
  · exact ⟨h1, .inl h2⟩
  · exact ⟨h1, .inr ⟨g, cap, cur, hv, hb, hm.at hh id, hr⟩⟩

/-- What saw returns. -/
def SawOut (base : Nat) (D : List LineT) (e : Ending) (w w' : World) : Option (List LineT) → Prop
  | some L => ∃ v', e = .returned (.tuple #[v', .bool true]) ∧ w'.ownsRow base 61 4 v' (D ++ L).length (lineCells (D ++ L)) ∧ R61 base w w'
  | none => e = .returned (.tuple #[.slice none 0 0, .bool false]) ∧ R61 base w w'

theorem info61 : (Try.prog.info? 61).map (fun i => (i.zero, i.size, i.bytes)) = some (some (.agg #[.bool false, .int .i64 0, .int .i64 0, .int .i64 0]), 4, 32) := by kernel_rfl

set_option maxRecDepth 100000 in
set_option maxHeartbeats 4000000 in
theorem saw_any (g : Int × Int → Option Int) (W H : Nat) (G : Grid g W H) (N : Int) (mb : Nat) : ∀ (f lt tp rt bt : Nat), lt < rt → rt ≤ W → tp < bt → bt ≤ H → (rt - lt) * (bt - tp) ≤ f →
    ∀ (base : Nat) (w : World) (v : Value) (D : List LineT), base ≤ w.heap.size → w.ownsRow base 61 4 v D.length (lineCells D) → D.length + (rt - lt) * (bt - tp) ≤ 1000 → MapIs Try.prog 106 cellV w mb g →
      Calls Try.prog 56 #[picV W H N mb, blockV lt tp rt bt, v] w fun e w' => SawOut base D e w w' (sawL g f lt tp rt bt) := by
  intro f
  induction f with
  | zero => intro lt tp rt bt h1 _ h3 _ ha; have := Nat.mul_pos (show 0 < rt - lt by omega) (show 0 < bt - tp by omega); omega
  | succ f ih =>
    intro lt tp rt bt h1 h2 h3 h4 ha base w v D hbase hown hD hm
    have HIH := Hold.mk ih
    have HA := Hold.mk (And.intro ha hD)
    have HOW := Hold.mk hown
    have HM := Hold.mk hm
    have HG := Hold.mk G
    obtain ⟨va, vc, hv⟩ := own_slice hown
    clear ih ha hD hown hm G
    subst hv
    have HM0 := Hold.mk (((Mod.refl noB w).alloc (.cells #[.int .i64 W, .int .i64 H, .int .i64 N, .map (some mb)] 71)).alloc (.cells #[.int .i64 lt, .int .i64 tp, .int .i64 rt, .int .i64 bt] 97))
    have HWH := Hold.mk (whole_is g W H HG.out N mb lt tp rt bt (by omega) h2 (by omega) h4 _ (HM.out.same (HM0.out.block mb HM.out.lt id)))
    have HBL : Hold (∀ w', Mod noB ((w.alloc (.cells #[.int .i64 W, .int .i64 H, .int .i64 N, .map (some mb)] 71)).alloc (.cells #[.int .i64 lt, .int .i64 tp, .int .i64 rt, .int .i64 bt] 97)) w' →
        w'.heap[w.heap.size]? = some (.cells #[.int .i64 W, .int .i64 H, .int .i64 N, .map (some mb)] 71) ∧ w'.heap[w.heap.size + 1]? = some (.cells #[.int .i64 lt, .int .i64 tp, .int .i64 rt, .int .i64 bt] 97)) := ⟨fun w' h => by
      rw [allocL2] at h
      exact ⟨h.at (allocL_at [.cells #[.int .i64 W, .int .i64 H, .int .i64 N, .map (some mb)] 71, .cells #[.int .i64 lt, .int .i64 tp, .int .i64 rt, .int .i64 bt] 97] w 0 _ rfl) id, h.at (allocL_at [.cells #[.int .i64 W, .int .i64 H, .int .i64 N, .map (some mb)] 71, .cells #[.int .i64 lt, .int .i64 tp, .int .i64 rt, .int .i64 bt] 97] w 1 _ rfl) id⟩⟩
    cases hwh : wholeB (numbersL g lt tp rt bt) with
    | true =>
      rw [hwh] at HWH
      have hs : sawL g (f + 1) lt tp rt bt = some [] := by simp only [sawL]; rw [if_pos hwh]
      rw [hs]
      clear hs hwh
      go_enter Try.func56, Try.ntmps56
      go_wp2_with (go_at_call 78; refine HWH.out.mono ?_; rintro e w1 ⟨rfl, hM1⟩; have HM1 := Hold.mk hM1; clear hM1)
      go_ret2
      refine ⟨_, rfl, ?_, R61.of (HM0.out.trans HM1.out)⟩
      rw [List.append_nil]
      exact own_mod HOW.out (HM0.out.trans HM1.out)
    | false =>
      rw [hwh] at HWH
      have HWB := Hold.mk hwh
      clear hwh
      cases hnx : nextL g lt tp rt bt with
      | none =>
        have hs : sawL g (f + 1) lt tp rt bt = none := by simp only [sawL]; rw [if_neg (by rw [HWB.out]; simp), hnx]
        rw [hs]
        have HNX := Hold.mk hnx
        clear hs hnx
        go_enter Try.func56, Try.ntmps56
        go_wp2_with (first
          | (go_at_call 78; refine HWH.out.mono ?_; rintro e w1 ⟨rfl, hM1⟩
             obtain ⟨p0, p1, p2, p3⟩ := picAt_of (HBL.out _ hM1).1
             have hbb := (HBL.out _ hM1).2
             have b0 : w1.cell? ⟨w.heap.size + 1, 0, none⟩ = some (.int .i64 lt) := (by simp [World.cell?, hbb])
             have b1 : w1.cell? ⟨w.heap.size + 1, 1, none⟩ = some (.int .i64 tp) := (by simp [World.cell?, hbb])
             have b2 : w1.cell? ⟨w.heap.size + 1, 2, none⟩ = some (.int .i64 rt) := (by simp [World.cell?, hbb])
             have b3 : w1.cell? ⟨w.heap.size + 1, 3, none⟩ = some (.int .i64 bt) := (by simp [World.cell?, hbb])
             have HM1 := Hold.mk hM1
             clear hM1 hbb)
          | (go_at_call 79; refine (next_is g W H HG.out N mb lt tp rt bt h1 h2 h3 h4 w1 (HM.out.same ((HM0.out.trans HM1.out).block mb HM.out.lt id))).mono ?_; rintro e w2 ⟨hno, hM2⟩; rw [HNX.out] at hno; obtain rfl := hno; have HM2 := Hold.mk hM2; clear hM2))
        go_ret2
        exact ⟨rfl, R61.of (((HM0.out.trans HM1.out).trans HM2.out).alloc _)⟩
      | some r =>
        obtain ⟨⟨u, at', fr, to⟩, ⟨a, b, c, d⟩, a', b', c', d'⟩ := r
        have hin : a < c ∧ c ≤ W ∧ b < d ∧ d ≤ H ∧ a' < c' ∧ c' ≤ W ∧ b' < d' ∧ d' ≤ H ∧ (c - a) * (d - b) + (c' - a') * (d' - b') = (rt - lt) * (bt - tp) ∧ 0 < (c - a) * (d - b) ∧ 0 < (c' - a') * (d' - b') := by
          rcases nextL_in hnx with ⟨y, hy1, hy2, e⟩ | ⟨x, hx1, hx2, e⟩
          · simp only [Prod.mk.injEq] at e
            obtain ⟨_, ⟨rfl, rfl, rfl, rfl⟩, rfl, rfl, rfl, rfl⟩ := e
            exact ⟨h1, h2, hy1, by omega, h1, h2, hy2, h4, area_h h1 hy1 hy2⟩
          · simp only [Prod.mk.injEq] at e
            obtain ⟨_, ⟨rfl, rfl, rfl, rfl⟩, rfl, rfl, rfl, rfl⟩ := e
            exact ⟨hx1, by omega, h3, h4, hx2, h2, h3, h4, area_v h3 hx1 hx2⟩
        have hs : sawL g (f + 1) lt tp rt bt = match sawL g f a b c d with
          | none => none
          | some L1 => match sawL g f a' b' c' d' with
            | none => none
            | some L2 => some ((u, (at' : Int), (fr : Int), (to : Int)) :: (L1 ++ L2)) := by
          simp only [sawL]; rw [if_neg (by rw [HWB.out]; simp), hnx]
        have HNX := Hold.mk hnx
        have HIN := Hold.mk hin
        have hDl : D.length ≤ 1000 := by have := HA.out.2; omega
        obtain ⟨i0, hi, hz0, hz1, hz2⟩ := info_parts info61
        have H1 := Hold.mk (fun (w4 : World) (v4 : Value) (hb : base ≤ w4.heap.size) (ho : w4.ownsRow base 61 4 v4 (D ++ [(u, (at' : Int), (fr : Int), (to : Int))]).length (lineCells (D ++ [(u, (at' : Int), (fr : Int), (to : Int))]))) (hm4 : MapIs Try.prog 106 cellV w4 mb g) =>
          HIH.out a b c d HIN.out.1 HIN.out.2.1 HIN.out.2.2.1 HIN.out.2.2.2.1 (by have := HIN.out.2.2.2.2.2.2.2.2; have := HA.out.1; omega) base w4 v4 (D ++ [(u, (at' : Int), (fr : Int), (to : Int))]) hb ho (by have := HIN.out.2.2.2.2.2.2.2.2; have := HA.out.2; rw [List.length_append]; simp only [List.length_cons, List.length_nil]; omega) hm4)
        clear hnx hin
        rw [hs]
        clear hs
        cases ho1 : sawL g f a b c d with
        | none =>
          rw [ho1] at H1
          simp only
          clear ho1
          go_enter Try.func56, Try.ntmps56
          go_wp2_with (first
            | (go_at_call 78; refine HWH.out.mono ?_; rintro e w1 ⟨rfl, hM1⟩
               obtain ⟨p0, p1, p2, p3⟩ := picAt_of (HBL.out _ hM1).1
               have hbb := (HBL.out _ hM1).2
               have b0 : w1.cell? ⟨w.heap.size + 1, 0, none⟩ = some (.int .i64 lt) := (by simp [World.cell?, hbb])
               have b1 : w1.cell? ⟨w.heap.size + 1, 1, none⟩ = some (.int .i64 tp) := (by simp [World.cell?, hbb])
               have b2 : w1.cell? ⟨w.heap.size + 1, 2, none⟩ = some (.int .i64 rt) := (by simp [World.cell?, hbb])
               have b3 : w1.cell? ⟨w.heap.size + 1, 3, none⟩ = some (.int .i64 bt) := (by simp [World.cell?, hbb])
               have HM1 := Hold.mk hM1
               clear hM1 hbb)
            | (go_at_call 79; refine (next_is g W H HG.out N mb lt tp rt bt h1 h2 h3 h4 w1 (HM.out.same ((HM0.out.trans HM1.out).block mb HM.out.lt id))).mono ?_; rintro e w2 ⟨hno, hM2⟩; rw [HNX.out] at hno; obtain rfl := hno; have HM2 := Hold.mk hM2; clear hM2 p0 p1 p2 p3 b0 b1 b2 b3))
          obtain ⟨w3, hw3⟩ : ∃ w3, w2.alloc (.cells #[.bool u, .int .i64 at', .int .i64 fr, .int .i64 to, .int .i64 a, .int .i64 b, .int .i64 c, .int .i64 d, .int .i64 a', .int .i64 b', .int .i64 c', .int .i64 d'] 121) = w3 := ⟨_, rfl⟩
          rw [hw3]
          have HM3 : Hold (Mod noB w2 w3) := ⟨by rw [← hw3]; exact (Mod.refl _ _).alloc _⟩
          have HS3 : Hold (w3.heap[w2.heap.size]? = some (.cells #[.bool u, .int .i64 at', .int .i64 fr, .int .i64 to, .int .i64 a, .int .i64 b, .int .i64 c, .int .i64 d, .int .i64 a', .int .i64 b', .int .i64 c', .int .i64 d'] 121)) := ⟨by rw [← hw3]; exact World.alloc_heap_new _ _⟩
          clear hw3
          have HMW := Hold.mk (((HM0.out.trans HM1.out).trans HM2.out).trans HM3.out)
          have HP3 := Hold.mk (HBL.out _ ((HM1.out.trans HM2.out).trans HM3.out)).1
          have HIM : Hold (∀ w', R61 base w3 w' → (fun w' => Hold (R61 base w3 w') ∧ (w'.cell? ⟨w.heap.size, 0, none⟩ = some (.int .i64 W) ∧ w'.cell? ⟨w.heap.size, 1, none⟩ = some (.int .i64 H) ∧ w'.cell? ⟨w.heap.size, 2, none⟩ = some (.int .i64 N) ∧ w'.cell? ⟨w.heap.size, 3, none⟩ = some (.map (some mb))) ∧ w'.cell? ⟨w2.heap.size, 0, none⟩ = some (.bool u) ∧ w'.cell? ⟨w2.heap.size, 1, none⟩ = some (.int .i64 at') ∧ w'.cell? ⟨w2.heap.size, 2, none⟩ = some (.int .i64 fr) ∧ w'.cell? ⟨w2.heap.size, 3, none⟩ = some (.int .i64 to) ∧ w'.cell? ⟨w2.heap.size, 4, none⟩ = some (.int .i64 a) ∧ w'.cell? ⟨w2.heap.size, 5, none⟩ = some (.int .i64 b) ∧ w'.cell? ⟨w2.heap.size, 6, none⟩ = some (.int .i64 c) ∧ w'.cell? ⟨w2.heap.size, 7, none⟩ = some (.int .i64 d) ∧ w'.cell? ⟨w2.heap.size, 8, none⟩ = some (.int .i64 a') ∧ w'.cell? ⟨w2.heap.size, 9, none⟩ = some (.int .i64 b') ∧ w'.cell? ⟨w2.heap.size, 10, none⟩ = some (.int .i64 c') ∧ w'.cell? ⟨w2.heap.size, 11, none⟩ = some (.int .i64 d')) w') := ⟨fun w' h => by
            have e1 := h.at HP3.out (fun cur e => by cases e)
            have e2 := h.at HS3.out (fun cur e => by cases e)
            refine ⟨⟨h⟩, picAt_of e1, ?_, ?_, ?_, ?_, ?_, ?_, ?_, ?_, ?_, ?_, ?_, ?_⟩ <;> simp [World.cell?, e2]⟩
          have hb3 : base ≤ w3.heap.size := by have := HMW.out.size; omega
          refine wp_region_noPanic ?_
          refine wp_region_held_drew (S := (fun w' => Hold (R61 base w3 w') ∧ (w'.cell? ⟨w.heap.size, 0, none⟩ = some (.int .i64 W) ∧ w'.cell? ⟨w.heap.size, 1, none⟩ = some (.int .i64 H) ∧ w'.cell? ⟨w.heap.size, 2, none⟩ = some (.int .i64 N) ∧ w'.cell? ⟨w.heap.size, 3, none⟩ = some (.map (some mb))) ∧ w'.cell? ⟨w2.heap.size, 0, none⟩ = some (.bool u) ∧ w'.cell? ⟨w2.heap.size, 1, none⟩ = some (.int .i64 at') ∧ w'.cell? ⟨w2.heap.size, 2, none⟩ = some (.int .i64 fr) ∧ w'.cell? ⟨w2.heap.size, 3, none⟩ = some (.int .i64 to) ∧ w'.cell? ⟨w2.heap.size, 4, none⟩ = some (.int .i64 a) ∧ w'.cell? ⟨w2.heap.size, 5, none⟩ = some (.int .i64 b) ∧ w'.cell? ⟨w2.heap.size, 6, none⟩ = some (.int .i64 c) ∧ w'.cell? ⟨w2.heap.size, 7, none⟩ = some (.int .i64 d) ∧ w'.cell? ⟨w2.heap.size, 8, none⟩ = some (.int .i64 a') ∧ w'.cell? ⟨w2.heap.size, 9, none⟩ = some (.int .i64 b') ∧ w'.cell? ⟨w2.heap.size, 10, none⟩ = some (.int .i64 c') ∧ w'.cell? ⟨w2.heap.size, 11, none⟩ = some (.int .i64 d'))) mixed (HIM.out _ (R61.of (Mod.refl _ _).drew)) (fun hHeld => ?_)
          have HD : Hold (Mod noB w3 w3.drew) := ⟨(Mod.refl _ _).drew⟩
          generalize hwd : w3.drew = wd at *
          clear hwd
          have hbd : base ≤ wd.heap.size := by have := HD.out.size; omega
          refine wpAnyH_take (i := 0) (oi := { dst := some 23, op := Op.load 71 (Operand.tmp 3), type := 71, pos := "saw.go:114", after := #[], guard := none }) (v := ?_) rfl (by kernel_rfl) (by kernel_rfl) (by kernel_rfl) (fun _ _ _ h => h) (Or.inl ⟨by rfl, ?_⟩) (by assumption) ?_
          rotate_left
          · intro w hSw
            (try dsimp only at hSw)
            go_simp
            first | done | with_reducible rfl
          try simp only [Act.put, List.setIfInBounds_toArray, List.set_cons_zero, List.set_cons_succ]
          refine wpAnyH_take (i := 1) (oi := { dst := some 24, op := Op.fieldAddr 121 (Operand.tmp 8) 1, type := 0, pos := "saw.go:114", after := #[], guard := none }) (v := ?_) rfl (by kernel_rfl) (by kernel_rfl) (by kernel_rfl) (fun _ _ _ h => h) (Or.inl ⟨by rfl, ?_⟩) (by assumption) ?_
          rotate_left
          · intro w hSw
            (try dsimp only at hSw)
            go_simp
            first | done | with_reducible rfl
          try simp only [Act.put, List.setIfInBounds_toArray, List.set_cons_zero, List.set_cons_succ]
          refine wpAnyH_take (i := 2) (oi := { dst := some 25, op := Op.load 97 (Operand.tmp 24), type := 97, pos := "saw.go:114", after := #[{ on := 1, ground := Ground.data }], guard := none }) (v := ?_) rfl (by kernel_rfl) (by kernel_rfl) (by kernel_rfl) (fun _ _ _ h => h) (Or.inl ⟨by rfl, ?_⟩) (by assumption) ?_
          rotate_left
          · intro w hSw
            (try dsimp only at hSw)
            go_simp
            first | done | with_reducible rfl
          try simp only [Act.put, List.setIfInBounds_toArray, List.set_cons_zero, List.set_cons_succ]
          refine wpAnyH_take (i := 3) (oi := { dst := some 26, op := Op.move (Operand.tmp 2), type := 42, pos := "saw.go:114", after := #[], guard := none }) (v := ?_) rfl (by kernel_rfl) (by kernel_rfl) (by kernel_rfl) (fun _ _ _ h => h) (Or.inl ⟨by rfl, ?_⟩) (by assumption) ?_
          rotate_left
          · intro w hSw
            (try dsimp only at hSw)
            go_simp
            first | done | with_reducible rfl
          try simp only [Act.put, List.setIfInBounds_toArray, List.set_cons_zero, List.set_cons_succ]
          refine wpAnyH_take (i := 4) (oi := { dst := some 27, op := Op.fieldAddr 121 (Operand.tmp 8) 0, type := 0, pos := "saw.go:114", after := #[], guard := none }) (v := ?_) rfl (by kernel_rfl) (by kernel_rfl) (by kernel_rfl) (fun _ _ _ h => h) (Or.inl ⟨by rfl, ?_⟩) (by assumption) ?_
          rotate_left
          · intro w hSw
            (try dsimp only at hSw)
            go_simp
            first | done | with_reducible rfl
          try simp only [Act.put, List.setIfInBounds_toArray, List.set_cons_zero, List.set_cons_succ]
          refine wpAnyH_take (i := 5) (oi := { dst := some 28, op := Op.load 61 (Operand.tmp 27), type := 61, pos := "saw.go:114", after := #[{ on := 4, ground := Ground.data }], guard := none }) (v := ?_) rfl (by kernel_rfl) (by kernel_rfl) (by kernel_rfl) (fun _ _ _ h => h) (Or.inl ⟨by rfl, ?_⟩) (by assumption) ?_
          rotate_left
          · intro w hSw
            (try dsimp only at hSw)
            go_simp
            first | done | with_reducible rfl
          try simp only [Act.put, List.setIfInBounds_toArray, List.set_cons_zero, List.set_cons_succ]
          refine wpAnyH_ready (rs := [6]) (by kernel_rfl) (by simp) (AllReadyH.cons (o := { dst := some 29, op := Op.buildSlice 42 1 #[(0, Operand.tmp 28)], type := 42, pos := "saw.go:114", after := #[{ on := 5, ground := Ground.data }], guard := none }) rfl (fun K hK => ?_) AllReadyH.nil)
          go_simp
          refine hK.out _ _ ?_ (fun hHeld => ?_)
          · exact HIM.out _ (R61.of (HD.out.alloc _))
          clear hK K
          try simp only [Act.put, List.setIfInBounds_toArray, List.set_cons_zero, List.set_cons_succ]
          have hnw := World.alloc_heap_new wd (.cells #[.bool u, .int .i64 at', .int .i64 fr, .int .i64 to] 61)
          have HNW := Hold.mk (fun j q (hj : [Value.bool u, .int .i64 at', .int .i64 fr, .int .i64 to][j]? = some q) => (show (wd.alloc (.cells #[.bool u, .int .i64 at', .int .i64 fr, .int .i64 to] 61)).cell? (Addr.add ⟨wd.heap.size, 0, none⟩ j) = some q from by
            have ea : Addr.add ⟨wd.heap.size, 0, none⟩ j = ⟨wd.heap.size, j, none⟩ := by simp [Addr.add]; omega
            rw [ea]
            simp only [World.cell?, hnw]
            rcases j with _ | _ | _ | _ | j
            · simpa using hj
            · simpa using hj
            · simpa using hj
            · simpa using hj
            · simp at hj))
          clear hnw
          refine wpAnyH_ready (rs := [7]) (by kernel_rfl) (by simp) (AllReadyH.cons (o := { dst := some 30, op := Op.call { callee := Callee.builtin Builtin.append, args := #[Operand.tmp 26, Operand.tmp 29], argTypes := #[42, 42] }, type := 42, pos := "saw.go:114", after := #[{ on := 3, ground := Ground.data }, { on := 6, ground := Ground.data }], guard := none }) rfl (fun K hK => ?_) AllReadyH.nil)
          rw [if_pos (by rfl)]
          refine wp_append_own _ (.tmp 26) (.tmp 29) 42 rfl base 61 i0 _ 4 32 Try.underlying42 hi hz0 hz1 hz2 rfl (by decide) _ D.length (lineCells D) rfl ((own_mod HOW.out (HMW.out.trans HD.out)).alloc _) ⟨wd.heap.size, 0, none⟩ 1 1 [.bool u, .int .i64 at', .int .i64 fr, .int .i64 to] rfl rfl HNW.out (by simp [Value.oneCell']) (by unfold maxLen; omega) (by omega) (by simp; omega) ?_
          intro v4 w4 hown4 hgr _
          have hr4 : R61 base w3 w4 := (R61.of (HD.out.alloc _)).trans (R61.own ((own_mod HOW.out (HMW.out.trans HD.out)).alloc _) hgr)
          have hown4' : w4.ownsRow base 61 4 v4 (D ++ [(u, (at' : Int), (fr : Int), (to : Int))]).length (lineCells (D ++ [(u, (at' : Int), (fr : Int), (to : Int))])) := by
            have e : lineCells (D ++ [(u, (at' : Int), (fr : Int), (to : Int))]) = lineCells D ++ [.bool u, .int .i64 at', .int .i64 fr, .int .i64 to] := by simp [lineCells]
            rw [e, List.length_append]
            exact hown4
          have HR4 := Hold.mk (And.intro hr4 hown4')
          have hb4 : base ≤ w4.heap.size := by have := Mod.size hr4; omega
          clear hown4 hgr hr4 hown4'
          refine hK.out _ _ ?_ (fun hHeld => ?_)
          · exact HIM.out _ HR4.out.1
          clear hK K
          try simp only [Act.put, List.setIfInBounds_toArray, List.set_cons_zero, List.set_cons_succ]
          refine wpAnyH_ready (rs := [8]) (by kernel_rfl) (by simp) (AllReadyH.cons (o := { dst := some 31, op := Op.call { callee := Callee.value (Operand.func 56), args := #[Operand.tmp 23, Operand.tmp 25, Operand.tmp 30], argTypes := #[71, 97, 42] }, type := 94, pos := "saw.go:114", after := #[{ on := 0, ground := Ground.data }, { on := 2, ground := Ground.data }, { on := 7, ground := Ground.data }, { on := 7, ground := Ground.chain }], guard := none }) rfl (fun K hK => ?_) AllReadyH.nil)
          go_simp
          go_at_call 56; refine (H1.out w4 v4 hb4 HR4.out.2 (HR4.out.1.map (HM.out.same (HMW.out.block mb HM.out.lt id)))).mono ?_; rintro e w5 ⟨rfl, hR5⟩
          have HR5 := Hold.mk (HR4.out.1.trans hR5)
          clear hR5
          go_wp2_with fail
          refine hK.out _ _ ?_ (fun hHeld => ?_)
          · exact HIM.out _ HR5.out
          clear hK K
          try simp only [Act.put, List.setIfInBounds_toArray, List.set_cons_zero, List.set_cons_succ]
          refine wpAnyH_take (i := 9) (oi := { dst := some 22, op := Op.move (Operand.tmp 31), type := 94, pos := "saw.go:114", after := #[{ on := 8, ground := Ground.data }], guard := none }) (v := ?_) rfl (by kernel_rfl) (by kernel_rfl) (by kernel_rfl) (fun _ _ _ h => h) (Or.inl ⟨by rfl, ?_⟩) (by assumption) ?_
          rotate_left
          · intro w hSw
            (try dsimp only at hSw)
            go_simp
            first | done | with_reducible rfl
          try simp only [Act.put, List.setIfInBounds_toArray, List.set_cons_zero, List.set_cons_succ]
          refine wpAnyH_take (i := 10) (oi := { dst := some 32, op := Op.extract (Operand.tmp 22) 0, type := 42, pos := "saw.go:114", after := #[{ on := 9, ground := Ground.data }], guard := none }) (v := ?_) rfl (by kernel_rfl) (by kernel_rfl) (by kernel_rfl) (fun _ _ _ h => h) (Or.inl ⟨by rfl, ?_⟩) (by assumption) ?_
          rotate_left
          · intro w hSw
            (try dsimp only at hSw)
            go_simp
            first | done | with_reducible rfl
          try simp only [Act.put, List.setIfInBounds_toArray, List.set_cons_zero, List.set_cons_succ]
          refine wpAnyH_take (i := 11) (oi := { dst := some 33, op := Op.extract (Operand.tmp 22) 1, type := 4, pos := "saw.go:114", after := #[{ on := 9, ground := Ground.data }, { on := 12, ground := Ground.gcOnly Departure.lateStores }], guard := none }) (v := ?_) rfl (by kernel_rfl) (by kernel_rfl) (by kernel_rfl) (fun _ _ _ h => h) (Or.inl ⟨by rfl, ?_⟩) (by assumption) ?_
          rotate_left
          · intro w hSw
            (try dsimp only at hSw)
            go_simp
            first | done | with_reducible rfl
          try simp only [Act.put, List.setIfInBounds_toArray, List.set_cons_zero, List.set_cons_succ]
          refine wpAnyH_take (i := 12) (oi := { dst := some 2, op := Op.assign (Operand.tmp 32), type := 42, pos := "saw.go:114", after := #[{ on := 10, ground := Ground.data }, { on := 8, ground := Ground.chain }, { on := 0, ground := Ground.phase }, { on := 1, ground := Ground.phase }, { on := 2, ground := Ground.phase }, { on := 3, ground := Ground.phase }, { on := 4, ground := Ground.phase }, { on := 5, ground := Ground.phase }, { on := 6, ground := Ground.phase }, { on := 7, ground := Ground.phase }, { on := 8, ground := Ground.phase }, { on := 9, ground := Ground.phase }, { on := 10, ground := Ground.phase }, { on := 11, ground := Ground.textOnly Departure.lateStores }], guard := none }) (v := ?_) rfl (by kernel_rfl) (by kernel_rfl) (by kernel_rfl) (fun _ _ _ h => h) (Or.inl ⟨by rfl, ?_⟩) (by assumption) ?_
          rotate_left
          · intro w hSw
            (try dsimp only at hSw)
            go_simp
            first | done | with_reducible rfl
          try simp only [Act.put, List.setIfInBounds_toArray, List.set_cons_zero, List.set_cons_succ]
          refine wpAnyH_take (i := 13) (oi := { dst := some 9, op := Op.assign (Operand.tmp 33), type := 4, pos := "saw.go:114", after := #[{ on := 11, ground := Ground.data }, { on := 12, ground := Ground.chain }, { on := 0, ground := Ground.phase }, { on := 1, ground := Ground.phase }, { on := 2, ground := Ground.phase }, { on := 3, ground := Ground.phase }, { on := 4, ground := Ground.phase }, { on := 5, ground := Ground.phase }, { on := 6, ground := Ground.phase }, { on := 7, ground := Ground.phase }, { on := 8, ground := Ground.phase }, { on := 9, ground := Ground.phase }, { on := 10, ground := Ground.phase }, { on := 11, ground := Ground.phase }, { on := 12, ground := Ground.phase }], guard := none }) (v := ?_) rfl (by kernel_rfl) (by kernel_rfl) (by kernel_rfl) (fun _ _ _ h => h) (Or.inl ⟨by rfl, ?_⟩) (by assumption) ?_
          rotate_left
          · intro w hSw
            (try dsimp only at hSw)
            go_simp
            first | done | with_reducible rfl
          try simp only [Act.put, List.setIfInBounds_toArray, List.set_cons_zero, List.set_cons_succ]
          refine wpAnyH_done (by kernel_rfl) ?_ _
          refine NoPanic.normal ?_
          clear hHeld
          go_wp2
          go_ret2
          exact ⟨rfl, (R61.of HMW.out).trans HR5.out⟩
        | some L1 =>
          rw [ho1] at H1
          have hl1 := sawL_len HIN.out.1 HIN.out.2.2.1 ho1
          have H2 := Hold.mk (fun (w4 : World) (v4 : Value) (hb : base ≤ w4.heap.size) (ho : w4.ownsRow base 61 4 v4 (D ++ [(u, (at' : Int), (fr : Int), (to : Int))] ++ L1).length (lineCells (D ++ [(u, (at' : Int), (fr : Int), (to : Int))] ++ L1))) (hm4 : MapIs Try.prog 106 cellV w4 mb g) =>
            HIH.out a' b' c' d' HIN.out.2.2.2.2.1 HIN.out.2.2.2.2.2.1 HIN.out.2.2.2.2.2.2.1 HIN.out.2.2.2.2.2.2.2.1 (by have := HIN.out.2.2.2.2.2.2.2.2; have := HA.out.1; omega) base w4 v4 (D ++ [(u, (at' : Int), (fr : Int), (to : Int))] ++ L1) hb ho (by have := HIN.out.2.2.2.2.2.2.2.2; have := HA.out.2; rw [List.length_append, List.length_append]; simp only [List.length_cons, List.length_nil]; omega) hm4)
          simp only
          clear ho1
          cases ho2 : sawL g f a' b' c' d' with
          | none =>
            rw [ho2] at H2
            simp only
            clear ho2
            go_enter Try.func56, Try.ntmps56
            go_wp2_with (first
              | (go_at_call 78; refine HWH.out.mono ?_; rintro e w1 ⟨rfl, hM1⟩
                 obtain ⟨p0, p1, p2, p3⟩ := picAt_of (HBL.out _ hM1).1
                 have hbb := (HBL.out _ hM1).2
                 have b0 : w1.cell? ⟨w.heap.size + 1, 0, none⟩ = some (.int .i64 lt) := (by simp [World.cell?, hbb])
                 have b1 : w1.cell? ⟨w.heap.size + 1, 1, none⟩ = some (.int .i64 tp) := (by simp [World.cell?, hbb])
                 have b2 : w1.cell? ⟨w.heap.size + 1, 2, none⟩ = some (.int .i64 rt) := (by simp [World.cell?, hbb])
                 have b3 : w1.cell? ⟨w.heap.size + 1, 3, none⟩ = some (.int .i64 bt) := (by simp [World.cell?, hbb])
                 have HM1 := Hold.mk hM1
                 clear hM1 hbb)
              | (go_at_call 79; refine (next_is g W H HG.out N mb lt tp rt bt h1 h2 h3 h4 w1 (HM.out.same ((HM0.out.trans HM1.out).block mb HM.out.lt id))).mono ?_; rintro e w2 ⟨hno, hM2⟩; rw [HNX.out] at hno; obtain rfl := hno; have HM2 := Hold.mk hM2; clear hM2 p0 p1 p2 p3 b0 b1 b2 b3))
            obtain ⟨w3, hw3⟩ : ∃ w3, w2.alloc (.cells #[.bool u, .int .i64 at', .int .i64 fr, .int .i64 to, .int .i64 a, .int .i64 b, .int .i64 c, .int .i64 d, .int .i64 a', .int .i64 b', .int .i64 c', .int .i64 d'] 121) = w3 := ⟨_, rfl⟩
            rw [hw3]
            have HM3 : Hold (Mod noB w2 w3) := ⟨by rw [← hw3]; exact (Mod.refl _ _).alloc _⟩
            have HS3 : Hold (w3.heap[w2.heap.size]? = some (.cells #[.bool u, .int .i64 at', .int .i64 fr, .int .i64 to, .int .i64 a, .int .i64 b, .int .i64 c, .int .i64 d, .int .i64 a', .int .i64 b', .int .i64 c', .int .i64 d'] 121)) := ⟨by rw [← hw3]; exact World.alloc_heap_new _ _⟩
            clear hw3
            have HMW := Hold.mk (((HM0.out.trans HM1.out).trans HM2.out).trans HM3.out)
            have HP3 := Hold.mk (HBL.out _ ((HM1.out.trans HM2.out).trans HM3.out)).1
            have HIM : Hold (∀ w', R61 base w3 w' → (fun w' => Hold (R61 base w3 w') ∧ (w'.cell? ⟨w.heap.size, 0, none⟩ = some (.int .i64 W) ∧ w'.cell? ⟨w.heap.size, 1, none⟩ = some (.int .i64 H) ∧ w'.cell? ⟨w.heap.size, 2, none⟩ = some (.int .i64 N) ∧ w'.cell? ⟨w.heap.size, 3, none⟩ = some (.map (some mb))) ∧ w'.cell? ⟨w2.heap.size, 0, none⟩ = some (.bool u) ∧ w'.cell? ⟨w2.heap.size, 1, none⟩ = some (.int .i64 at') ∧ w'.cell? ⟨w2.heap.size, 2, none⟩ = some (.int .i64 fr) ∧ w'.cell? ⟨w2.heap.size, 3, none⟩ = some (.int .i64 to) ∧ w'.cell? ⟨w2.heap.size, 4, none⟩ = some (.int .i64 a) ∧ w'.cell? ⟨w2.heap.size, 5, none⟩ = some (.int .i64 b) ∧ w'.cell? ⟨w2.heap.size, 6, none⟩ = some (.int .i64 c) ∧ w'.cell? ⟨w2.heap.size, 7, none⟩ = some (.int .i64 d) ∧ w'.cell? ⟨w2.heap.size, 8, none⟩ = some (.int .i64 a') ∧ w'.cell? ⟨w2.heap.size, 9, none⟩ = some (.int .i64 b') ∧ w'.cell? ⟨w2.heap.size, 10, none⟩ = some (.int .i64 c') ∧ w'.cell? ⟨w2.heap.size, 11, none⟩ = some (.int .i64 d')) w') := ⟨fun w' h => by
              have e1 := h.at HP3.out (fun cur e => by cases e)
              have e2 := h.at HS3.out (fun cur e => by cases e)
              refine ⟨⟨h⟩, picAt_of e1, ?_, ?_, ?_, ?_, ?_, ?_, ?_, ?_, ?_, ?_, ?_, ?_⟩ <;> simp [World.cell?, e2]⟩
            have hb3 : base ≤ w3.heap.size := by have := HMW.out.size; omega
            refine wp_region_noPanic ?_
            refine wp_region_held_drew (S := (fun w' => Hold (R61 base w3 w') ∧ (w'.cell? ⟨w.heap.size, 0, none⟩ = some (.int .i64 W) ∧ w'.cell? ⟨w.heap.size, 1, none⟩ = some (.int .i64 H) ∧ w'.cell? ⟨w.heap.size, 2, none⟩ = some (.int .i64 N) ∧ w'.cell? ⟨w.heap.size, 3, none⟩ = some (.map (some mb))) ∧ w'.cell? ⟨w2.heap.size, 0, none⟩ = some (.bool u) ∧ w'.cell? ⟨w2.heap.size, 1, none⟩ = some (.int .i64 at') ∧ w'.cell? ⟨w2.heap.size, 2, none⟩ = some (.int .i64 fr) ∧ w'.cell? ⟨w2.heap.size, 3, none⟩ = some (.int .i64 to) ∧ w'.cell? ⟨w2.heap.size, 4, none⟩ = some (.int .i64 a) ∧ w'.cell? ⟨w2.heap.size, 5, none⟩ = some (.int .i64 b) ∧ w'.cell? ⟨w2.heap.size, 6, none⟩ = some (.int .i64 c) ∧ w'.cell? ⟨w2.heap.size, 7, none⟩ = some (.int .i64 d) ∧ w'.cell? ⟨w2.heap.size, 8, none⟩ = some (.int .i64 a') ∧ w'.cell? ⟨w2.heap.size, 9, none⟩ = some (.int .i64 b') ∧ w'.cell? ⟨w2.heap.size, 10, none⟩ = some (.int .i64 c') ∧ w'.cell? ⟨w2.heap.size, 11, none⟩ = some (.int .i64 d'))) mixed (HIM.out _ (R61.of (Mod.refl _ _).drew)) (fun hHeld => ?_)
            have HD : Hold (Mod noB w3 w3.drew) := ⟨(Mod.refl _ _).drew⟩
            generalize hwd : w3.drew = wd at *
            clear hwd
            have hbd : base ≤ wd.heap.size := by have := HD.out.size; omega
            refine wpAnyH_take (i := 0) (oi := { dst := some 23, op := Op.load 71 (Operand.tmp 3), type := 71, pos := "saw.go:114", after := #[], guard := none }) (v := ?_) rfl (by kernel_rfl) (by kernel_rfl) (by kernel_rfl) (fun _ _ _ h => h) (Or.inl ⟨by rfl, ?_⟩) (by assumption) ?_
            rotate_left
            · intro w hSw
              (try dsimp only at hSw)
              go_simp
              first | done | with_reducible rfl
            try simp only [Act.put, List.setIfInBounds_toArray, List.set_cons_zero, List.set_cons_succ]
            refine wpAnyH_take (i := 1) (oi := { dst := some 24, op := Op.fieldAddr 121 (Operand.tmp 8) 1, type := 0, pos := "saw.go:114", after := #[], guard := none }) (v := ?_) rfl (by kernel_rfl) (by kernel_rfl) (by kernel_rfl) (fun _ _ _ h => h) (Or.inl ⟨by rfl, ?_⟩) (by assumption) ?_
            rotate_left
            · intro w hSw
              (try dsimp only at hSw)
              go_simp
              first | done | with_reducible rfl
            try simp only [Act.put, List.setIfInBounds_toArray, List.set_cons_zero, List.set_cons_succ]
            refine wpAnyH_take (i := 2) (oi := { dst := some 25, op := Op.load 97 (Operand.tmp 24), type := 97, pos := "saw.go:114", after := #[{ on := 1, ground := Ground.data }], guard := none }) (v := ?_) rfl (by kernel_rfl) (by kernel_rfl) (by kernel_rfl) (fun _ _ _ h => h) (Or.inl ⟨by rfl, ?_⟩) (by assumption) ?_
            rotate_left
            · intro w hSw
              (try dsimp only at hSw)
              go_simp
              first | done | with_reducible rfl
            try simp only [Act.put, List.setIfInBounds_toArray, List.set_cons_zero, List.set_cons_succ]
            refine wpAnyH_take (i := 3) (oi := { dst := some 26, op := Op.move (Operand.tmp 2), type := 42, pos := "saw.go:114", after := #[], guard := none }) (v := ?_) rfl (by kernel_rfl) (by kernel_rfl) (by kernel_rfl) (fun _ _ _ h => h) (Or.inl ⟨by rfl, ?_⟩) (by assumption) ?_
            rotate_left
            · intro w hSw
              (try dsimp only at hSw)
              go_simp
              first | done | with_reducible rfl
            try simp only [Act.put, List.setIfInBounds_toArray, List.set_cons_zero, List.set_cons_succ]
            refine wpAnyH_take (i := 4) (oi := { dst := some 27, op := Op.fieldAddr 121 (Operand.tmp 8) 0, type := 0, pos := "saw.go:114", after := #[], guard := none }) (v := ?_) rfl (by kernel_rfl) (by kernel_rfl) (by kernel_rfl) (fun _ _ _ h => h) (Or.inl ⟨by rfl, ?_⟩) (by assumption) ?_
            rotate_left
            · intro w hSw
              (try dsimp only at hSw)
              go_simp
              first | done | with_reducible rfl
            try simp only [Act.put, List.setIfInBounds_toArray, List.set_cons_zero, List.set_cons_succ]
            refine wpAnyH_take (i := 5) (oi := { dst := some 28, op := Op.load 61 (Operand.tmp 27), type := 61, pos := "saw.go:114", after := #[{ on := 4, ground := Ground.data }], guard := none }) (v := ?_) rfl (by kernel_rfl) (by kernel_rfl) (by kernel_rfl) (fun _ _ _ h => h) (Or.inl ⟨by rfl, ?_⟩) (by assumption) ?_
            rotate_left
            · intro w hSw
              (try dsimp only at hSw)
              go_simp
              first | done | with_reducible rfl
            try simp only [Act.put, List.setIfInBounds_toArray, List.set_cons_zero, List.set_cons_succ]
            refine wpAnyH_ready (rs := [6]) (by kernel_rfl) (by simp) (AllReadyH.cons (o := { dst := some 29, op := Op.buildSlice 42 1 #[(0, Operand.tmp 28)], type := 42, pos := "saw.go:114", after := #[{ on := 5, ground := Ground.data }], guard := none }) rfl (fun K hK => ?_) AllReadyH.nil)
            go_simp
            refine hK.out _ _ ?_ (fun hHeld => ?_)
            · exact HIM.out _ (R61.of (HD.out.alloc _))
            clear hK K
            try simp only [Act.put, List.setIfInBounds_toArray, List.set_cons_zero, List.set_cons_succ]
            have hnw := World.alloc_heap_new wd (.cells #[.bool u, .int .i64 at', .int .i64 fr, .int .i64 to] 61)
            have HNW := Hold.mk (fun j q (hj : [Value.bool u, .int .i64 at', .int .i64 fr, .int .i64 to][j]? = some q) => (show (wd.alloc (.cells #[.bool u, .int .i64 at', .int .i64 fr, .int .i64 to] 61)).cell? (Addr.add ⟨wd.heap.size, 0, none⟩ j) = some q from by
              have ea : Addr.add ⟨wd.heap.size, 0, none⟩ j = ⟨wd.heap.size, j, none⟩ := by simp [Addr.add]; omega
              rw [ea]
              simp only [World.cell?, hnw]
              rcases j with _ | _ | _ | _ | j
              · simpa using hj
              · simpa using hj
              · simpa using hj
              · simpa using hj
              · simp at hj))
            clear hnw
            refine wpAnyH_ready (rs := [7]) (by kernel_rfl) (by simp) (AllReadyH.cons (o := { dst := some 30, op := Op.call { callee := Callee.builtin Builtin.append, args := #[Operand.tmp 26, Operand.tmp 29], argTypes := #[42, 42] }, type := 42, pos := "saw.go:114", after := #[{ on := 3, ground := Ground.data }, { on := 6, ground := Ground.data }], guard := none }) rfl (fun K hK => ?_) AllReadyH.nil)
            rw [if_pos (by rfl)]
            refine wp_append_own _ (.tmp 26) (.tmp 29) 42 rfl base 61 i0 _ 4 32 Try.underlying42 hi hz0 hz1 hz2 rfl (by decide) _ D.length (lineCells D) rfl ((own_mod HOW.out (HMW.out.trans HD.out)).alloc _) ⟨wd.heap.size, 0, none⟩ 1 1 [.bool u, .int .i64 at', .int .i64 fr, .int .i64 to] rfl rfl HNW.out (by simp [Value.oneCell']) (by unfold maxLen; omega) (by omega) (by simp; omega) ?_
            intro v4 w4 hown4 hgr _
            have hr4 : R61 base w3 w4 := (R61.of (HD.out.alloc _)).trans (R61.own ((own_mod HOW.out (HMW.out.trans HD.out)).alloc _) hgr)
            have hown4' : w4.ownsRow base 61 4 v4 (D ++ [(u, (at' : Int), (fr : Int), (to : Int))]).length (lineCells (D ++ [(u, (at' : Int), (fr : Int), (to : Int))])) := by
              have e : lineCells (D ++ [(u, (at' : Int), (fr : Int), (to : Int))]) = lineCells D ++ [.bool u, .int .i64 at', .int .i64 fr, .int .i64 to] := by simp [lineCells]
              rw [e, List.length_append]
              exact hown4
            have HR4 := Hold.mk (And.intro hr4 hown4')
            have hb4 : base ≤ w4.heap.size := by have := Mod.size hr4; omega
            clear hown4 hgr hr4 hown4'
            refine hK.out _ _ ?_ (fun hHeld => ?_)
            · exact HIM.out _ HR4.out.1
            clear hK K
            try simp only [Act.put, List.setIfInBounds_toArray, List.set_cons_zero, List.set_cons_succ]
            refine wpAnyH_ready (rs := [8]) (by kernel_rfl) (by simp) (AllReadyH.cons (o := { dst := some 31, op := Op.call { callee := Callee.value (Operand.func 56), args := #[Operand.tmp 23, Operand.tmp 25, Operand.tmp 30], argTypes := #[71, 97, 42] }, type := 94, pos := "saw.go:114", after := #[{ on := 0, ground := Ground.data }, { on := 2, ground := Ground.data }, { on := 7, ground := Ground.data }, { on := 7, ground := Ground.chain }], guard := none }) rfl (fun K hK => ?_) AllReadyH.nil)
            go_simp
            go_at_call 56; refine (H1.out w4 v4 hb4 HR4.out.2 (HR4.out.1.map (HM.out.same (HMW.out.block mb HM.out.lt id)))).mono ?_; rintro e w5 ⟨v5, rfl, hown5, hR5⟩
            have HR5 := Hold.mk (HR4.out.1.trans hR5)
            have HO5 := Hold.mk hown5
            clear hR5 hown5
            go_wp2_with fail
            refine hK.out _ _ ?_ (fun hHeld => ?_)
            · exact HIM.out _ HR5.out
            clear hK K
            try simp only [Act.put, List.setIfInBounds_toArray, List.set_cons_zero, List.set_cons_succ]
            refine wpAnyH_take (i := 9) (oi := { dst := some 22, op := Op.move (Operand.tmp 31), type := 94, pos := "saw.go:114", after := #[{ on := 8, ground := Ground.data }], guard := none }) (v := ?_) rfl (by kernel_rfl) (by kernel_rfl) (by kernel_rfl) (fun _ _ _ h => h) (Or.inl ⟨by rfl, ?_⟩) (by assumption) ?_
            rotate_left
            · intro w hSw
              (try dsimp only at hSw)
              go_simp
              first | done | with_reducible rfl
            try simp only [Act.put, List.setIfInBounds_toArray, List.set_cons_zero, List.set_cons_succ]
            refine wpAnyH_take (i := 10) (oi := { dst := some 32, op := Op.extract (Operand.tmp 22) 0, type := 42, pos := "saw.go:114", after := #[{ on := 9, ground := Ground.data }], guard := none }) (v := ?_) rfl (by kernel_rfl) (by kernel_rfl) (by kernel_rfl) (fun _ _ _ h => h) (Or.inl ⟨by rfl, ?_⟩) (by assumption) ?_
            rotate_left
            · intro w hSw
              (try dsimp only at hSw)
              go_simp
              first | done | with_reducible rfl
            try simp only [Act.put, List.setIfInBounds_toArray, List.set_cons_zero, List.set_cons_succ]
            refine wpAnyH_take (i := 11) (oi := { dst := some 33, op := Op.extract (Operand.tmp 22) 1, type := 4, pos := "saw.go:114", after := #[{ on := 9, ground := Ground.data }, { on := 12, ground := Ground.gcOnly Departure.lateStores }], guard := none }) (v := ?_) rfl (by kernel_rfl) (by kernel_rfl) (by kernel_rfl) (fun _ _ _ h => h) (Or.inl ⟨by rfl, ?_⟩) (by assumption) ?_
            rotate_left
            · intro w hSw
              (try dsimp only at hSw)
              go_simp
              first | done | with_reducible rfl
            try simp only [Act.put, List.setIfInBounds_toArray, List.set_cons_zero, List.set_cons_succ]
            refine wpAnyH_take (i := 12) (oi := { dst := some 2, op := Op.assign (Operand.tmp 32), type := 42, pos := "saw.go:114", after := #[{ on := 10, ground := Ground.data }, { on := 8, ground := Ground.chain }, { on := 0, ground := Ground.phase }, { on := 1, ground := Ground.phase }, { on := 2, ground := Ground.phase }, { on := 3, ground := Ground.phase }, { on := 4, ground := Ground.phase }, { on := 5, ground := Ground.phase }, { on := 6, ground := Ground.phase }, { on := 7, ground := Ground.phase }, { on := 8, ground := Ground.phase }, { on := 9, ground := Ground.phase }, { on := 10, ground := Ground.phase }, { on := 11, ground := Ground.textOnly Departure.lateStores }], guard := none }) (v := ?_) rfl (by kernel_rfl) (by kernel_rfl) (by kernel_rfl) (fun _ _ _ h => h) (Or.inl ⟨by rfl, ?_⟩) (by assumption) ?_
            rotate_left
            · intro w hSw
              (try dsimp only at hSw)
              go_simp
              first | done | with_reducible rfl
            try simp only [Act.put, List.setIfInBounds_toArray, List.set_cons_zero, List.set_cons_succ]
            refine wpAnyH_take (i := 13) (oi := { dst := some 9, op := Op.assign (Operand.tmp 33), type := 4, pos := "saw.go:114", after := #[{ on := 11, ground := Ground.data }, { on := 12, ground := Ground.chain }, { on := 0, ground := Ground.phase }, { on := 1, ground := Ground.phase }, { on := 2, ground := Ground.phase }, { on := 3, ground := Ground.phase }, { on := 4, ground := Ground.phase }, { on := 5, ground := Ground.phase }, { on := 6, ground := Ground.phase }, { on := 7, ground := Ground.phase }, { on := 8, ground := Ground.phase }, { on := 9, ground := Ground.phase }, { on := 10, ground := Ground.phase }, { on := 11, ground := Ground.phase }, { on := 12, ground := Ground.phase }], guard := none }) (v := ?_) rfl (by kernel_rfl) (by kernel_rfl) (by kernel_rfl) (fun _ _ _ h => h) (Or.inl ⟨by rfl, ?_⟩) (by assumption) ?_
            rotate_left
            · intro w hSw
              (try dsimp only at hSw)
              go_simp
              first | done | with_reducible rfl
            try simp only [Act.put, List.setIfInBounds_toArray, List.set_cons_zero, List.set_cons_succ]
            refine wpAnyH_done (by kernel_rfl) ?_ _
            refine NoPanic.normal ?_
            go_wp2_with (go_at_call 56; refine (H2.out w5 v5 (by have := Mod.size HR5.out; omega) HO5.out (HR5.out.map (HM.out.same (HMW.out.block mb HM.out.lt id)))).mono ?_; rintro e w6 ⟨rfl, hR6⟩)
            go_ret2
            exact ⟨rfl, ((R61.of HMW.out).trans HR5.out).trans hR6⟩
          | some L2 =>
            rw [ho2] at H2
            simp only
            clear ho2
            go_enter Try.func56, Try.ntmps56
            go_wp2_with (first
              | (go_at_call 78; refine HWH.out.mono ?_; rintro e w1 ⟨rfl, hM1⟩
                 obtain ⟨p0, p1, p2, p3⟩ := picAt_of (HBL.out _ hM1).1
                 have hbb := (HBL.out _ hM1).2
                 have b0 : w1.cell? ⟨w.heap.size + 1, 0, none⟩ = some (.int .i64 lt) := (by simp [World.cell?, hbb])
                 have b1 : w1.cell? ⟨w.heap.size + 1, 1, none⟩ = some (.int .i64 tp) := (by simp [World.cell?, hbb])
                 have b2 : w1.cell? ⟨w.heap.size + 1, 2, none⟩ = some (.int .i64 rt) := (by simp [World.cell?, hbb])
                 have b3 : w1.cell? ⟨w.heap.size + 1, 3, none⟩ = some (.int .i64 bt) := (by simp [World.cell?, hbb])
                 have HM1 := Hold.mk hM1
                 clear hM1 hbb)
              | (go_at_call 79; refine (next_is g W H HG.out N mb lt tp rt bt h1 h2 h3 h4 w1 (HM.out.same ((HM0.out.trans HM1.out).block mb HM.out.lt id))).mono ?_; rintro e w2 ⟨hno, hM2⟩; rw [HNX.out] at hno; obtain rfl := hno; have HM2 := Hold.mk hM2; clear hM2 p0 p1 p2 p3 b0 b1 b2 b3))
            obtain ⟨w3, hw3⟩ : ∃ w3, w2.alloc (.cells #[.bool u, .int .i64 at', .int .i64 fr, .int .i64 to, .int .i64 a, .int .i64 b, .int .i64 c, .int .i64 d, .int .i64 a', .int .i64 b', .int .i64 c', .int .i64 d'] 121) = w3 := ⟨_, rfl⟩
            rw [hw3]
            have HM3 : Hold (Mod noB w2 w3) := ⟨by rw [← hw3]; exact (Mod.refl _ _).alloc _⟩
            have HS3 : Hold (w3.heap[w2.heap.size]? = some (.cells #[.bool u, .int .i64 at', .int .i64 fr, .int .i64 to, .int .i64 a, .int .i64 b, .int .i64 c, .int .i64 d, .int .i64 a', .int .i64 b', .int .i64 c', .int .i64 d'] 121)) := ⟨by rw [← hw3]; exact World.alloc_heap_new _ _⟩
            clear hw3
            have HMW := Hold.mk (((HM0.out.trans HM1.out).trans HM2.out).trans HM3.out)
            have HP3 := Hold.mk (HBL.out _ ((HM1.out.trans HM2.out).trans HM3.out)).1
            have HIM : Hold (∀ w', R61 base w3 w' → (fun w' => Hold (R61 base w3 w') ∧ (w'.cell? ⟨w.heap.size, 0, none⟩ = some (.int .i64 W) ∧ w'.cell? ⟨w.heap.size, 1, none⟩ = some (.int .i64 H) ∧ w'.cell? ⟨w.heap.size, 2, none⟩ = some (.int .i64 N) ∧ w'.cell? ⟨w.heap.size, 3, none⟩ = some (.map (some mb))) ∧ w'.cell? ⟨w2.heap.size, 0, none⟩ = some (.bool u) ∧ w'.cell? ⟨w2.heap.size, 1, none⟩ = some (.int .i64 at') ∧ w'.cell? ⟨w2.heap.size, 2, none⟩ = some (.int .i64 fr) ∧ w'.cell? ⟨w2.heap.size, 3, none⟩ = some (.int .i64 to) ∧ w'.cell? ⟨w2.heap.size, 4, none⟩ = some (.int .i64 a) ∧ w'.cell? ⟨w2.heap.size, 5, none⟩ = some (.int .i64 b) ∧ w'.cell? ⟨w2.heap.size, 6, none⟩ = some (.int .i64 c) ∧ w'.cell? ⟨w2.heap.size, 7, none⟩ = some (.int .i64 d) ∧ w'.cell? ⟨w2.heap.size, 8, none⟩ = some (.int .i64 a') ∧ w'.cell? ⟨w2.heap.size, 9, none⟩ = some (.int .i64 b') ∧ w'.cell? ⟨w2.heap.size, 10, none⟩ = some (.int .i64 c') ∧ w'.cell? ⟨w2.heap.size, 11, none⟩ = some (.int .i64 d')) w') := ⟨fun w' h => by
              have e1 := h.at HP3.out (fun cur e => by cases e)
              have e2 := h.at HS3.out (fun cur e => by cases e)
              refine ⟨⟨h⟩, picAt_of e1, ?_, ?_, ?_, ?_, ?_, ?_, ?_, ?_, ?_, ?_, ?_, ?_⟩ <;> simp [World.cell?, e2]⟩
            have hb3 : base ≤ w3.heap.size := by have := HMW.out.size; omega
            refine wp_region_noPanic ?_
            refine wp_region_held_drew (S := (fun w' => Hold (R61 base w3 w') ∧ (w'.cell? ⟨w.heap.size, 0, none⟩ = some (.int .i64 W) ∧ w'.cell? ⟨w.heap.size, 1, none⟩ = some (.int .i64 H) ∧ w'.cell? ⟨w.heap.size, 2, none⟩ = some (.int .i64 N) ∧ w'.cell? ⟨w.heap.size, 3, none⟩ = some (.map (some mb))) ∧ w'.cell? ⟨w2.heap.size, 0, none⟩ = some (.bool u) ∧ w'.cell? ⟨w2.heap.size, 1, none⟩ = some (.int .i64 at') ∧ w'.cell? ⟨w2.heap.size, 2, none⟩ = some (.int .i64 fr) ∧ w'.cell? ⟨w2.heap.size, 3, none⟩ = some (.int .i64 to) ∧ w'.cell? ⟨w2.heap.size, 4, none⟩ = some (.int .i64 a) ∧ w'.cell? ⟨w2.heap.size, 5, none⟩ = some (.int .i64 b) ∧ w'.cell? ⟨w2.heap.size, 6, none⟩ = some (.int .i64 c) ∧ w'.cell? ⟨w2.heap.size, 7, none⟩ = some (.int .i64 d) ∧ w'.cell? ⟨w2.heap.size, 8, none⟩ = some (.int .i64 a') ∧ w'.cell? ⟨w2.heap.size, 9, none⟩ = some (.int .i64 b') ∧ w'.cell? ⟨w2.heap.size, 10, none⟩ = some (.int .i64 c') ∧ w'.cell? ⟨w2.heap.size, 11, none⟩ = some (.int .i64 d'))) mixed (HIM.out _ (R61.of (Mod.refl _ _).drew)) (fun hHeld => ?_)
            have HD : Hold (Mod noB w3 w3.drew) := ⟨(Mod.refl _ _).drew⟩
            generalize hwd : w3.drew = wd at *
            clear hwd
            have hbd : base ≤ wd.heap.size := by have := HD.out.size; omega
            refine wpAnyH_take (i := 0) (oi := { dst := some 23, op := Op.load 71 (Operand.tmp 3), type := 71, pos := "saw.go:114", after := #[], guard := none }) (v := ?_) rfl (by kernel_rfl) (by kernel_rfl) (by kernel_rfl) (fun _ _ _ h => h) (Or.inl ⟨by rfl, ?_⟩) (by assumption) ?_
            rotate_left
            · intro w hSw
              (try dsimp only at hSw)
              go_simp
              first | done | with_reducible rfl
            try simp only [Act.put, List.setIfInBounds_toArray, List.set_cons_zero, List.set_cons_succ]
            refine wpAnyH_take (i := 1) (oi := { dst := some 24, op := Op.fieldAddr 121 (Operand.tmp 8) 1, type := 0, pos := "saw.go:114", after := #[], guard := none }) (v := ?_) rfl (by kernel_rfl) (by kernel_rfl) (by kernel_rfl) (fun _ _ _ h => h) (Or.inl ⟨by rfl, ?_⟩) (by assumption) ?_
            rotate_left
            · intro w hSw
              (try dsimp only at hSw)
              go_simp
              first | done | with_reducible rfl
            try simp only [Act.put, List.setIfInBounds_toArray, List.set_cons_zero, List.set_cons_succ]
            refine wpAnyH_take (i := 2) (oi := { dst := some 25, op := Op.load 97 (Operand.tmp 24), type := 97, pos := "saw.go:114", after := #[{ on := 1, ground := Ground.data }], guard := none }) (v := ?_) rfl (by kernel_rfl) (by kernel_rfl) (by kernel_rfl) (fun _ _ _ h => h) (Or.inl ⟨by rfl, ?_⟩) (by assumption) ?_
            rotate_left
            · intro w hSw
              (try dsimp only at hSw)
              go_simp
              first | done | with_reducible rfl
            try simp only [Act.put, List.setIfInBounds_toArray, List.set_cons_zero, List.set_cons_succ]
            refine wpAnyH_take (i := 3) (oi := { dst := some 26, op := Op.move (Operand.tmp 2), type := 42, pos := "saw.go:114", after := #[], guard := none }) (v := ?_) rfl (by kernel_rfl) (by kernel_rfl) (by kernel_rfl) (fun _ _ _ h => h) (Or.inl ⟨by rfl, ?_⟩) (by assumption) ?_
            rotate_left
            · intro w hSw
              (try dsimp only at hSw)
              go_simp
              first | done | with_reducible rfl
            try simp only [Act.put, List.setIfInBounds_toArray, List.set_cons_zero, List.set_cons_succ]
            refine wpAnyH_take (i := 4) (oi := { dst := some 27, op := Op.fieldAddr 121 (Operand.tmp 8) 0, type := 0, pos := "saw.go:114", after := #[], guard := none }) (v := ?_) rfl (by kernel_rfl) (by kernel_rfl) (by kernel_rfl) (fun _ _ _ h => h) (Or.inl ⟨by rfl, ?_⟩) (by assumption) ?_
            rotate_left
            · intro w hSw
              (try dsimp only at hSw)
              go_simp
              first | done | with_reducible rfl
            try simp only [Act.put, List.setIfInBounds_toArray, List.set_cons_zero, List.set_cons_succ]
            refine wpAnyH_take (i := 5) (oi := { dst := some 28, op := Op.load 61 (Operand.tmp 27), type := 61, pos := "saw.go:114", after := #[{ on := 4, ground := Ground.data }], guard := none }) (v := ?_) rfl (by kernel_rfl) (by kernel_rfl) (by kernel_rfl) (fun _ _ _ h => h) (Or.inl ⟨by rfl, ?_⟩) (by assumption) ?_
            rotate_left
            · intro w hSw
              (try dsimp only at hSw)
              go_simp
              first | done | with_reducible rfl
            try simp only [Act.put, List.setIfInBounds_toArray, List.set_cons_zero, List.set_cons_succ]
            refine wpAnyH_ready (rs := [6]) (by kernel_rfl) (by simp) (AllReadyH.cons (o := { dst := some 29, op := Op.buildSlice 42 1 #[(0, Operand.tmp 28)], type := 42, pos := "saw.go:114", after := #[{ on := 5, ground := Ground.data }], guard := none }) rfl (fun K hK => ?_) AllReadyH.nil)
            go_simp
            refine hK.out _ _ ?_ (fun hHeld => ?_)
            · exact HIM.out _ (R61.of (HD.out.alloc _))
            clear hK K
            try simp only [Act.put, List.setIfInBounds_toArray, List.set_cons_zero, List.set_cons_succ]
            have hnw := World.alloc_heap_new wd (.cells #[.bool u, .int .i64 at', .int .i64 fr, .int .i64 to] 61)
            have HNW := Hold.mk (fun j q (hj : [Value.bool u, .int .i64 at', .int .i64 fr, .int .i64 to][j]? = some q) => (show (wd.alloc (.cells #[.bool u, .int .i64 at', .int .i64 fr, .int .i64 to] 61)).cell? (Addr.add ⟨wd.heap.size, 0, none⟩ j) = some q from by
              have ea : Addr.add ⟨wd.heap.size, 0, none⟩ j = ⟨wd.heap.size, j, none⟩ := by simp [Addr.add]; omega
              rw [ea]
              simp only [World.cell?, hnw]
              rcases j with _ | _ | _ | _ | j
              · simpa using hj
              · simpa using hj
              · simpa using hj
              · simpa using hj
              · simp at hj))
            clear hnw
            refine wpAnyH_ready (rs := [7]) (by kernel_rfl) (by simp) (AllReadyH.cons (o := { dst := some 30, op := Op.call { callee := Callee.builtin Builtin.append, args := #[Operand.tmp 26, Operand.tmp 29], argTypes := #[42, 42] }, type := 42, pos := "saw.go:114", after := #[{ on := 3, ground := Ground.data }, { on := 6, ground := Ground.data }], guard := none }) rfl (fun K hK => ?_) AllReadyH.nil)
            rw [if_pos (by rfl)]
            refine wp_append_own _ (.tmp 26) (.tmp 29) 42 rfl base 61 i0 _ 4 32 Try.underlying42 hi hz0 hz1 hz2 rfl (by decide) _ D.length (lineCells D) rfl ((own_mod HOW.out (HMW.out.trans HD.out)).alloc _) ⟨wd.heap.size, 0, none⟩ 1 1 [.bool u, .int .i64 at', .int .i64 fr, .int .i64 to] rfl rfl HNW.out (by simp [Value.oneCell']) (by unfold maxLen; omega) (by omega) (by simp; omega) ?_
            intro v4 w4 hown4 hgr _
            have hr4 : R61 base w3 w4 := (R61.of (HD.out.alloc _)).trans (R61.own ((own_mod HOW.out (HMW.out.trans HD.out)).alloc _) hgr)
            have hown4' : w4.ownsRow base 61 4 v4 (D ++ [(u, (at' : Int), (fr : Int), (to : Int))]).length (lineCells (D ++ [(u, (at' : Int), (fr : Int), (to : Int))])) := by
              have e : lineCells (D ++ [(u, (at' : Int), (fr : Int), (to : Int))]) = lineCells D ++ [.bool u, .int .i64 at', .int .i64 fr, .int .i64 to] := by simp [lineCells]
              rw [e, List.length_append]
              exact hown4
            have HR4 := Hold.mk (And.intro hr4 hown4')
            have hb4 : base ≤ w4.heap.size := by have := Mod.size hr4; omega
            clear hown4 hgr hr4 hown4'
            refine hK.out _ _ ?_ (fun hHeld => ?_)
            · exact HIM.out _ HR4.out.1
            clear hK K
            try simp only [Act.put, List.setIfInBounds_toArray, List.set_cons_zero, List.set_cons_succ]
            refine wpAnyH_ready (rs := [8]) (by kernel_rfl) (by simp) (AllReadyH.cons (o := { dst := some 31, op := Op.call { callee := Callee.value (Operand.func 56), args := #[Operand.tmp 23, Operand.tmp 25, Operand.tmp 30], argTypes := #[71, 97, 42] }, type := 94, pos := "saw.go:114", after := #[{ on := 0, ground := Ground.data }, { on := 2, ground := Ground.data }, { on := 7, ground := Ground.data }, { on := 7, ground := Ground.chain }], guard := none }) rfl (fun K hK => ?_) AllReadyH.nil)
            go_simp
            go_at_call 56; refine (H1.out w4 v4 hb4 HR4.out.2 (HR4.out.1.map (HM.out.same (HMW.out.block mb HM.out.lt id)))).mono ?_; rintro e w5 ⟨v5, rfl, hown5, hR5⟩
            have HR5 := Hold.mk (HR4.out.1.trans hR5)
            have HO5 := Hold.mk hown5
            clear hR5 hown5
            go_wp2_with fail
            refine hK.out _ _ ?_ (fun hHeld => ?_)
            · exact HIM.out _ HR5.out
            clear hK K
            try simp only [Act.put, List.setIfInBounds_toArray, List.set_cons_zero, List.set_cons_succ]
            refine wpAnyH_take (i := 9) (oi := { dst := some 22, op := Op.move (Operand.tmp 31), type := 94, pos := "saw.go:114", after := #[{ on := 8, ground := Ground.data }], guard := none }) (v := ?_) rfl (by kernel_rfl) (by kernel_rfl) (by kernel_rfl) (fun _ _ _ h => h) (Or.inl ⟨by rfl, ?_⟩) (by assumption) ?_
            rotate_left
            · intro w hSw
              (try dsimp only at hSw)
              go_simp
              first | done | with_reducible rfl
            try simp only [Act.put, List.setIfInBounds_toArray, List.set_cons_zero, List.set_cons_succ]
            refine wpAnyH_take (i := 10) (oi := { dst := some 32, op := Op.extract (Operand.tmp 22) 0, type := 42, pos := "saw.go:114", after := #[{ on := 9, ground := Ground.data }], guard := none }) (v := ?_) rfl (by kernel_rfl) (by kernel_rfl) (by kernel_rfl) (fun _ _ _ h => h) (Or.inl ⟨by rfl, ?_⟩) (by assumption) ?_
            rotate_left
            · intro w hSw
              (try dsimp only at hSw)
              go_simp
              first | done | with_reducible rfl
            try simp only [Act.put, List.setIfInBounds_toArray, List.set_cons_zero, List.set_cons_succ]
            refine wpAnyH_take (i := 11) (oi := { dst := some 33, op := Op.extract (Operand.tmp 22) 1, type := 4, pos := "saw.go:114", after := #[{ on := 9, ground := Ground.data }, { on := 12, ground := Ground.gcOnly Departure.lateStores }], guard := none }) (v := ?_) rfl (by kernel_rfl) (by kernel_rfl) (by kernel_rfl) (fun _ _ _ h => h) (Or.inl ⟨by rfl, ?_⟩) (by assumption) ?_
            rotate_left
            · intro w hSw
              (try dsimp only at hSw)
              go_simp
              first | done | with_reducible rfl
            try simp only [Act.put, List.setIfInBounds_toArray, List.set_cons_zero, List.set_cons_succ]
            refine wpAnyH_take (i := 12) (oi := { dst := some 2, op := Op.assign (Operand.tmp 32), type := 42, pos := "saw.go:114", after := #[{ on := 10, ground := Ground.data }, { on := 8, ground := Ground.chain }, { on := 0, ground := Ground.phase }, { on := 1, ground := Ground.phase }, { on := 2, ground := Ground.phase }, { on := 3, ground := Ground.phase }, { on := 4, ground := Ground.phase }, { on := 5, ground := Ground.phase }, { on := 6, ground := Ground.phase }, { on := 7, ground := Ground.phase }, { on := 8, ground := Ground.phase }, { on := 9, ground := Ground.phase }, { on := 10, ground := Ground.phase }, { on := 11, ground := Ground.textOnly Departure.lateStores }], guard := none }) (v := ?_) rfl (by kernel_rfl) (by kernel_rfl) (by kernel_rfl) (fun _ _ _ h => h) (Or.inl ⟨by rfl, ?_⟩) (by assumption) ?_
            rotate_left
            · intro w hSw
              (try dsimp only at hSw)
              go_simp
              first | done | with_reducible rfl
            try simp only [Act.put, List.setIfInBounds_toArray, List.set_cons_zero, List.set_cons_succ]
            refine wpAnyH_take (i := 13) (oi := { dst := some 9, op := Op.assign (Operand.tmp 33), type := 4, pos := "saw.go:114", after := #[{ on := 11, ground := Ground.data }, { on := 12, ground := Ground.chain }, { on := 0, ground := Ground.phase }, { on := 1, ground := Ground.phase }, { on := 2, ground := Ground.phase }, { on := 3, ground := Ground.phase }, { on := 4, ground := Ground.phase }, { on := 5, ground := Ground.phase }, { on := 6, ground := Ground.phase }, { on := 7, ground := Ground.phase }, { on := 8, ground := Ground.phase }, { on := 9, ground := Ground.phase }, { on := 10, ground := Ground.phase }, { on := 11, ground := Ground.phase }, { on := 12, ground := Ground.phase }], guard := none }) (v := ?_) rfl (by kernel_rfl) (by kernel_rfl) (by kernel_rfl) (fun _ _ _ h => h) (Or.inl ⟨by rfl, ?_⟩) (by assumption) ?_
            rotate_left
            · intro w hSw
              (try dsimp only at hSw)
              go_simp
              first | done | with_reducible rfl
            try simp only [Act.put, List.setIfInBounds_toArray, List.set_cons_zero, List.set_cons_succ]
            refine wpAnyH_done (by kernel_rfl) ?_ _
            refine NoPanic.normal ?_
            go_wp2_with (go_at_call 56; refine (H2.out w5 v5 (by have := Mod.size HR5.out; omega) HO5.out (HR5.out.map (HM.out.same (HMW.out.block mb HM.out.lt id)))).mono ?_; rintro e w6 ⟨v6, rfl, hown6, hR6⟩)
            go_ret2
            refine ⟨v6, rfl, ?_, ((R61.of HMW.out).trans HR5.out).trans hR6⟩
            rw [show D ++ (u, (at' : Int), (fr : Int), (to : Int)) :: (L1 ++ L2) = D ++ [(u, (at' : Int), (fr : Int), (to : Int))] ++ L1 ++ L2 by simp]
            exact hown6
end Go.Proofs.Ytogalmkeipigeaa

/- Saw: the lines of a saw. -/
namespace Go.Proofs.Ytogalmkeipigeaa
open Go.RowKit

/-- What Saw returns. -/
noncomputable def sawR (W H : Int) (zs : List Int) : List LineT × Int :=
  if (checkR W H zs).2 ≠ 0 then ([], (checkR W H zs).2)
  else match sawL (laidG W.toNat zs zs.length) (W.toNat * H.toNat) 0 0 W.toNat H.toNat with
    | none => ([], 11)
    | some L => (L, 0)

/-- A list of lines that a call returns, with an error. -/
def SawsOut (e : Ending) (w w' : World) (r : List LineT × Int) : Prop :=
  ∃ v, e = .returned (.tuple #[v, .int .i64 r.2]) ∧ w'.ownsRow w.heap.size 61 4 v r.1.length (lineCells r.1) ∧ Mod noB w w'

theorem own_none (w : World) (base e size : Nat) : w.ownsRow base e size (.slice none 0 0) 0 [] := ⟨by simp, .inl ⟨rfl, rfl⟩⟩

set_option maxRecDepth 100000 in
set_option maxHeartbeats 2000000 in
theorem saw_no (W H : Int) (ao : Option Addr) (zs : List Int) (cap : Nat) (w : World) (hs : IntsAt w ao zs) (h : (checkR W H zs).2 ≠ 0) :
    Calls Try.prog 24 #[cutV W H ao zs.length cap] w fun e w' => SawsOut e w w' (sawR W H zs) := by
  have hR : sawR W H zs = ([], (checkR W H zs).2) := by unfold sawR; rw [if_pos h]
  rw [hR]
  have HO := Hold.mk (open_no W H ao zs cap _ (hs.alloc (.cells #[.int .i64 W, .int .i64 H, .slice ao zs.length cap] 24)) h)
  clear hR
  generalize (checkR W H zs).2 = e at *
  have he : (e != 0) = true := by simpa using h
  have HM0 := Hold.mk ((Mod.refl noB w).alloc (.cells #[.int .i64 W, .int .i64 H, .slice ao zs.length cap] 24))
  clear hs h
  go_enter Try.func24, Try.ntmps24
  go_wp2_with (go_at_call 46; refine HO.out.mono ?_; rintro e w1 ⟨rfl, hM1⟩; have HM1 := Hold.mk hM1; clear hM1)
  go_ret2
  exact ⟨_, rfl, own_none _ _ _ _, (HM0.out.trans HM1.out).alloc _⟩

set_option maxRecDepth 100000 in
set_option maxHeartbeats 2000000 in
theorem saw_yes {W H : Nat} {zs : List Int} (C : CutN W H zs) (ao : Option Addr) (cap : Nat) (w : World) (hs : IntsAt w ao zs) (h : (checkR W H zs).2 = 0) :
    Calls Try.prog 24 #[cutV W H ao zs.length cap] w fun e w' => SawsOut e w w' (sawR W H zs) := by
  have hR : sawR W H zs = match sawL (laidG W zs zs.length) (W * H) 0 0 W H with | none => ([], 11) | some L => (L, 0) := by
    unfold sawR; rw [if_neg (fun h' => h' h)]; rfl
  rw [hR]
  clear hR
  have HO := Hold.mk (open_yes C ao cap _ (hs.alloc (.cells #[.int .i64 W, .int .i64 H, .slice ao zs.length cap] 24)) h)
  have hbc := World.alloc_heap_new w (.cells #[.int .i64 W, .int .i64 H, .slice ao zs.length cap] 24)
  have HB : Hold (∀ w1 : World, Mod noB (w.alloc (.cells #[.int .i64 W, .int .i64 H, .slice ao zs.length cap] 24)) w1 → w1.cell? ⟨w.heap.size, 0, none⟩ = some (.int .i64 W) ∧ w1.cell? ⟨w.heap.size, 1, none⟩ = some (.int .i64 H)) := ⟨fun w1 h => by
    have e1 := h.at hbc id
    refine ⟨?_, ?_⟩ <;> simp [World.cell?, e1]⟩
  have HM0 := Hold.mk ((Mod.refl noB w).alloc (.cells #[.int .i64 W, .int .i64 H, .slice ao zs.length cap] 24))
  have HG := Hold.mk C.grid
  have hW1 := C.w1
  have hH1 := C.h1
  have har : W * H ≤ 144 := Nat.mul_le_mul C.w2 C.h2
  obtain ⟨g, hg⟩ : ∃ g, laidG W zs zs.length = g := ⟨_, rfl⟩
  obtain ⟨N, hN⟩ : ∃ N, many zs = N := ⟨_, rfl⟩
  rw [hN] at HO
  rw [hg] at HG HO ⊢
  have HS := Hold.mk (fun (w1 : World) (mb : Nat) (hm : MapIs Try.prog 106 cellV w1 mb g) => saw_any g W H HG.out N mb (W * H) 0 0 W H (by omega) (Nat.le_refl _) (by omega) (Nat.le_refl _) (by simp) w1.heap.size w1 (.slice none 0 0) [] (Nat.le_refl _) (own_none _ _ _ _) (by simp; omega) hm)
  clear hs h hN C hg hbc
  cases hsw : sawL g (W * H) 0 0 W H with
  | none =>
    rw [hsw] at HS
    simp only
    clear hsw
    go_enter Try.func24, Try.ntmps24
    go_wp2_with (first
      | (go_at_call 46; refine HO.out.mono ?_; rintro e w1 ⟨mb, rfl, hM1, hmp⟩; obtain ⟨c0, c1⟩ := HB.out _ hM1; have hz : w.heap.size < w1.heap.size := (by have := hM1.size; simp at this; omega); have HM1 := Hold.mk (And.intro hM1 hmp); clear hM1 hmp)
      | (go_at_call 56; refine (HS.out _ mb (HM1.out.2.alloc _)).mono ?_; rintro e w2 ⟨rfl, hR2⟩; have HM2 := Hold.mk (R61.none hR2); clear hR2))
    go_ret2
    exact ⟨_, rfl, own_none _ _ _ _, ((HM0.out.trans HM1.out.1).alloc _).trans HM2.out⟩
  | some L =>
    rw [hsw] at HS
    simp only
    clear hsw
    go_enter Try.func24, Try.ntmps24
    go_wp2_with (first
      | (go_at_call 46; refine HO.out.mono ?_; rintro e w1 ⟨mb, rfl, hM1, hmp⟩; obtain ⟨c0, c1⟩ := HB.out _ hM1; have hz : w.heap.size < w1.heap.size := (by have := hM1.size; simp at this; omega); have HM1 := Hold.mk (And.intro hM1 hmp); clear hM1 hmp)
      | (go_at_call 56; refine (HS.out _ mb (HM1.out.2.alloc _)).mono ?_; rintro e w2 ⟨v, rfl, hown, hR2⟩; have HM2 := Hold.mk (And.intro hown (R61.none hR2)); clear hown hR2))
    go_ret2
    have hz := (HM0.out.trans HM1.out.1).size
    refine ⟨_, rfl, own_mono HM2.out.1 (by simp; omega), ((HM0.out.trans HM1.out.1).alloc _).trans HM2.out.2⟩
end Go.Proofs.Ytogalmkeipigeaa

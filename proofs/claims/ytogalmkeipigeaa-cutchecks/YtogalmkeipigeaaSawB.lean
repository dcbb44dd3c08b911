/- within: the pieces that have cells in a block. -/
import Derived.Test.YtogalmkeipigeaaSawA
import Derived.Test.YtogalmkeipigeaaOutside
set_option linter.unusedSimpArgs false
set_option linter.unusedVariables false
namespace Go.Proofs.Ytogalmkeipigeaa
open Go.RowKit Go.Shelf
attribute [local go_sem] Oper.semAt_some

def memB (L : List Int) (k : Nat) : Bool := decide ((k : Int) ∈ L)
theorem memB_snoc (L : List Int) (x : Nat) : (fun j => if j = x then true else memB L j) = memB (L ++ [(x : Int)]) := by
  funext j
  unfold memB
  by_cases e : j = x
  · subst e; simp
  · rw [if_neg e]
    have : ¬ ((j : Int) = (x : Int)) := by omega
    simp [this]

set_option maxRecDepth 100000 in
set_option maxHeartbeats 4000000 in
theorem within_any (g : Int × Int → Option Int) (W H : Nat) (G : Grid g W H) (N : Int) (mb lt tp rt bt : Nat) (h1 : lt ≤ rt) (h2 : rt ≤ W) (h3 : tp ≤ bt) (h4 : bt ≤ H) (w : World) (hm : MapIs Try.prog 106 cellV w mb g) :
    Calls Try.prog 86 #[picV W H N mb, blockV lt tp rt bt] w fun e w' => e = .returned (.agg (boolCells 40 (memB (numbersL g lt tp rt bt)))) ∧ Mod noB w w' := by
  have hw2 := G.w2
  have hh2 := G.h2
  have HL : Hold (∀ x ∈ numbersL g lt tp rt bt, 0 ≤ x ∧ x < 40) := ⟨fun x hx => numbersL_le G h2 h4 hx⟩
  refine callsIn_wide (n := 3) |>.1 ?_
  refine callsIn_of_wp_marks Try.func86 rfl trivial ?_ rfl
  simp only [Try.ntmps86, List.size_toArray, List.length_cons, List.length_nil, Nat.reduceAdd, Nat.reduceSub, Array.replicate_succ, Array.replicate_zero, List.push_toArray, List.append_toArray, List.nil_append, List.cons_append]
  have HM := Hold.mk hm
  clear hm G
  gi_wp2_with (refine ⟨trivial, ?_⟩; gi_at_call 84; refine (callsIn_wide.2 (numbers_any _ _ _ _ _ _ _ _ _)).mono ?_; rintro e w' ⟨rfl, rfl⟩)
  rw [zero84, allocL6]
  obtain ⟨W1, hW1⟩ : ∃ W1, allocL w [.cells #[.int .i64 W, .int .i64 H, .int .i64 N, .map (some mb)] 71, .cells #[.int .i64 lt, .int .i64 tp, .int .i64 rt, .int .i64 bt] 97, .cells (boolCells 40 fun _ => false) 84, .cells (boolCells 40 fun _ => false) 84,
    .cells #[.int .i64 W, .int .i64 H, .int .i64 N, .map (some mb)] 71, .cells #[.int .i64 lt, .int .i64 tp, .int .i64 rt, .int .i64 bt] 97] = W1 := ⟨_, rfl⟩
  have hM1 : Mod noB w W1 := by rw [← hW1]; exact allocL_mod _ _ _
  have hz1 : W1.heap.size = w.heap.size + 6 := by rw [← hW1]; exact allocL_size _ _
  have bres : W1.heap[w.heap.size + 2]? = some (.cells (boolCells 40 fun _ => false) 84) := by rw [← hW1]; exact allocL_at _ _ _ _ rfl
  have bl : W1.heap[w.heap.size + 3]? = some (.cells (boolCells 40 fun _ => false) 84) := by rw [← hW1]; exact allocL_at _ _ _ _ rfl
  have bp : W1.heap[w.heap.size + 4]? = some (.cells #[.int .i64 W, .int .i64 H, .int .i64 N, .map (some mb)] 71) := by rw [← hW1]; exact allocL_at _ _ _ _ rfl
  have bb : W1.heap[w.heap.size + 5]? = some (.cells #[.int .i64 lt, .int .i64 tp, .int .i64 rt, .int .i64 bt] 97) := by rw [← hW1]; exact allocL_at _ _ _ _ rfl
  rw [hW1]
  clear hW1
  have hm1 := HM.out.same (hM1.block mb HM.out.lt id)
  have hml := HM.out.lt
  refine range_plain (gf := 88) (lb := #[.pointer (some ⟨w.heap.size + 1 + 1 + 1 + 1 + 1, 0, none⟩), .pointer (some ⟨w.heap.size + 1 + 1 + 1 + 1, 0, none⟩)]) rfl rfl enter88 (numbers1_runs (w.heap.size + 1 + 1 + 1 + 1 + 1) (w.heap.size + 1 + 1 + 1 + 1) mb lt tp rt bt W H N g W1 bb bp hm1 h1 (by omega) h3 (by omega))
    (by rintro b (rfl | rfl | rfl) <;> omega) (fun b => b = w.heap.size + 3) (by rintro b rfl; exact ⟨by omega, by omega⟩)
    (fun pre Wr => Wr.heap[w.heap.size + 3]? = some (.cells (boolCells 40 (memB pre)) 84) ∧ Mod (fun b => b = w.heap.size + 3) W1 Wr)
    (fun _ _ _ => False)
    (fun s A B h hg => ⟨hg.at h.1 (by omega), h.2.then hg (fun i h1 h2 => by omega)⟩)
    (fun c s A B h hg => h)
    ⟨by have e : memB [] = fun _ => false := by funext j; simp [memB]
        rw [e]; exact bl, Mod.refl _ _⟩
    none
    (fun _ x => { tmps := #[picV W H N mb, blockV lt tp rt bt, .pointer (some ⟨w.heap.size, 0, none⟩), .pointer (some ⟨w.heap.size + 1, 0, none⟩), .pointer (some ⟨w.heap.size + 1 + 1, 0, none⟩), .pointer (some ⟨w.heap.size + 1 + 1 + 1, 0, none⟩), .int .i64 x,
      .agg #[.int .i64 W, .int .i64 H, .int .i64 N, .map (some mb)], .agg #[.int .i64 lt, .int .i64 tp, .int .i64 rt, .int .i64 bt],
      .func (.func 88) #[] #[.pointer (some ⟨w.heap.size + 1 + 1 + 1 + 1 + 1, 0, none⟩), .pointer (some ⟨w.heap.size + 1 + 1 + 1 + 1, 0, none⟩)], .int .i64 x, undef, undef, undef], defers := [] })
    ?assign ?body ?done ?stop
  case assign =>
    intro l x W K hK
    gi_wp2
    exact hK
  case body =>
    rintro l2 pre x rest a' Wr hL hl2 hr2 hzr ⟨hrr, hmr⟩ rfl
    obtain ⟨hx1, hx2⟩ := HL.out x (by rw [hL]; simp)
    obtain ⟨x, rfl⟩ := Int.eq_ofNat_of_zero_le hx1
    have hx : x < 40 := by omega
    have c0 : Wr.cell? ⟨w.heap.size + 1 + 1 + 1, x, none⟩ = some (.bool (memB pre x)) := fcells_cell hrr hx
    have c1 : Wr.frozen? ⟨w.heap.size + 1 + 1 + 1, x, none⟩ = false := cells_frozen hrr x
    have HF := Hold.mk (And.intro hrr hmr)
    clear hL hrr hmr bres bl bp bb hm1
    gi_wp2
    obtain ⟨hrr, hmr⟩ := HF.out
    refine ⟨(Mod.refl (fun b => b = w.heap.size + 3) Wr).setCell (p := ⟨w.heap.size + 3, x, none⟩) (fun _ => rfl) _, ?_, hmr.setCell (p := ⟨w.heap.size + 3, x, none⟩) (fun _ => rfl) _⟩
    rw [← memB_snoc]
    exact boolCells_store hrr x
  case done =>
    rintro D W' hD hz ⟨hr, hm'⟩ hK
    have hres := hm'.at bres (by omega)
    have e1 : (Try.prog.info? 84).map (·.size) = some (boolCells 40 (memB (numbersL g lt tp rt bt))).size := by rw [boolCells, fcells_size]; kernel_rfl
    have e2 : (boolCells 40 (memB (numbersL g lt tp rt bt))).all (·.oneCell') = true := by simp [boolCells, fcells, Value.oneCell']
    have e3 : (boolCells 40 fun _ => false).size = (boolCells 40 (memB (numbersL g lt tp rt bt))).size := by simp [boolCells, fcells_size]
    have E := Hold.mk (And.intro e1 (And.intro e2 (And.intro e3 (And.intro hr (And.intro hres (And.intro hm' hK))))))
    clear hr hres bres bl bp bb hm1 e1 e2 e3 hm' hK
    gi_wp2_with (first
      | (refine wpListIn_loadRow rfl 84 (.tmp 5) rfl (w.heap.size + 1 + 1 + 1) rfl 84 _ _ E.out.2.2.2.1 Try.underlying84 rfl E.out.1 ?_)
      | (refine wpListIn_storeRow rfl 84 (.tmp 4) (.tmp 13) rfl (w.heap.size + 1 + 1) rfl _ rfl 84 _ E.out.2.2.2.2.1 E.out.1 E.out.2.2.1 E.out.2.1 ?_))
    obtain ⟨e1, e2, e3, hr, hres, hm', hK⟩ := E.out
    refine ⟨by simp, .inl ⟨_, _, rfl, run_takeDeferred ((World.putObj_heap_other (by omega)).trans hK), ?_⟩⟩
    have hlt := (Array.getElem?_eq_some_iff.1 hres).1
    have hg : ((W'.putObj (w.heap.size + 2) (.cells (boolCells 40 (memB (numbersL g lt tp rt bt))) 84)).putObj D (.deferred none)).heap[w.heap.size + 2]? = some (.cells (boolCells 40 (memB (numbersL g lt tp rt bt))) 84) :=
      (World.putObj_heap_other (by omega)).trans (World.putObj_heap_same hlt)
    refine ⟨_, results_cell_row (fn := Try.f86) rfl _ _ (w.heap.size + 2) 84 _ (0, 0) _ rfl hg Try.underlying84 rfl e1, rfl, ?_⟩
    exact ((hM1.then hm' (fun i h1 h2 => by omega)).putObj (fun h => by omega) _).putObj (fun h => by omega) _
  case stop =>
    rintro D c pre Wx hD hz hpre h hK
    exact h.elim
end Go.Proofs.Ytogalmkeipigeaa

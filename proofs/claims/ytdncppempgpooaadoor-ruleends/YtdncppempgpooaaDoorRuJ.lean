/- price, bent: ranges over the blades of a set. -/
import Derived.Test.YtdncppempgpooaaDoorRuI
import Derived.Laws.EntriesVeiled
import Derived.Test.YtdncppempgpooaaDoorGen
set_option linter.unusedSimpArgs false
set_option linter.unusedVariables false
namespace Go.Proofs.YtdncppempgpooaaDoor
open Go.RowKit Go.Shelf
attribute [local go_sem] Oper.semAt_some

@[reducible] def mtC (ao : Option Addr) (n cap : Nat) (d : Dye) (oo : Option Addr) (oc : Nat) (r : Nat → Int) : Array Value :=
  #[.slice ao n cap, .int .i64 d.bound, .int .i64 d.stop, .int .i64 d.bend, .slice oo n oc, .int .i64 (r 0), .int .i64 (r 1), .int .i64 (r 2), .int .i64 (r 3), .int .i64 (r 4)]
@[reducible] def mtV (ao : Option Addr) (n cap : Nat) (d : Dye) (oo : Option Addr) (oc : Nat) (r : Nat → Int) : Value :=
  .agg #[.slice ao n cap, .int .i64 d.bound, .int .i64 d.stop, .int .i64 d.bend, .slice oo n oc, .int .i64 (r 0), .int .i64 (r 1), .int .i64 (r 2), .int .i64 (r 3), .int .i64 (r 4)]
theorem mtC_same {ao : Option Addr} {n cap : Nat} {d : Dye} {oo : Option Addr} {oc : Nat} {r r' : Nat → Int} (h : ∀ k, k < 5 → r k = r' k) : mtC ao n cap d oo oc r = mtC ao n cap d oo oc r' := by
  unfold mtC; rw [h 0 (by omega), h 1 (by omega), h 2 (by omega), h 3 (by omega), h 4 (by omega)]
theorem mtC_set {ao : Option Addr} {n cap : Nat} {d : Dye} {oo : Option Addr} {oc : Nat} {r : Nat → Int} {x : Nat} (v : Int) (hx : x < 5) :
    (mtC ao n cap d oo oc r).setIfInBounds (5 + x) (.int .i64 v) = mtC ao n cap d oo oc (fun k => if k = x then v else r k) := by
  rcases (by omega : x = 0 ∨ x = 1 ∨ x = 2 ∨ x = 3 ∨ x = 4) with rfl | rfl | rfl | rfl | rfl <;> rfl

theorem enter80 : ∀ args w, (callFunc 80 args).run Tryd.prog w = .ok (.enter 80 args) w := enters_of Tryd.func80 (by kernel_rfl) rfl
set_option maxHeartbeats 400000 in
theorem bladesOf_any (set : Int) (w : World) :
    Calls Tryd.prog 71 #[.int .i64 set] w fun e w' => e = .returned (.func (.func 80) #[] #[.pointer (some ⟨w.heap.size, 0, none⟩)]) ∧ w' = w.alloc (.cells #[.int .i64 set] 3) := by
  go_enter Tryd.func71, Tryd.ntmps71
  go_wp2
  go_ret
  exact ⟨rfl, rfl⟩

set_option maxHeartbeats 1000000 in
theorem price_zero (ao : Option Addr) (n cap : Nat) (d : Dye) (oo : Option Addr) (oc : Nat) (r : Nat → Int) (w : World) :
    Calls Tryd.prog 49 #[mtV ao n cap d oo oc r, .int .i64 0] w fun e w' => e = .returned (.int .i64 0) ∧ Mod noB w w' := by
  go_enter Tryd.func49, Tryd.ntmps49
  go_wp2
  go_ret
  exact ⟨rfl, (Mod.refl _ _).alloc _⟩

set_option maxRecDepth 100000 in
set_option maxHeartbeats 2000000 in
theorem price_some (ao : Option Addr) (n cap : Nat) (d : Dye) (oo : Option Addr) (oc : Nat) (r : Nat → Int) (set : Nat) (w : World) (h0 : set ≠ 0) (hs : set < 32) (hT : Tab w) (hst : 0 ≤ d.stop ∧ d.stop ≤ 10000) (hbe : 0 ≤ d.bend ∧ d.bend ≤ 10000) :
    Calls Tryd.prog 49 #[mtV ao n cap d oo oc r, .int .i64 set] w fun e w' => e = .returned (.int .i64 (priceR d set)) ∧ Mod noB w w' := by
  have hn0 : ((set : Int) == 0) = false := by simp; omega
  have hlt1 : 1 < w.heap.size := World.block_lt_of_cell? _ _ (hT.at_ 0 (by omega))
  refine callsIn_wide (n := 3) |>.1 ?_
  refine callsIn_of_wp_marks Tryd.func49 rfl trivial ?_ rfl
  simp only [Tryd.ntmps49, List.size_toArray, List.length_cons, List.length_nil, Nat.reduceAdd, Nat.reduceSub, Array.replicate_succ, Array.replicate_zero, List.push_toArray, List.append_toArray, List.nil_append, List.cons_append]
  gi_wp2_with (refine ⟨trivial, ?_⟩; gi_at_call 71; refine (callsIn_wide.2 (bladesOf_any _ _)).mono ?_; rintro e w' ⟨rfl, rfl⟩)
  obtain ⟨W1, hW1⟩ : ∃ W1, ((w.alloc (.cells (mtC ao n cap d oo oc r) 87)).alloc (.cells #[.int .i64 d.stop] 3)).alloc (.cells #[.int .i64 set] 3) = W1 := ⟨_, rfl⟩
  rw [hW1]
  have hL := allocL_at [.cells (mtC ao n cap d oo oc r) 87, .cells #[.int .i64 d.stop] 3, .cells #[.int .i64 set] 3] w
  have hM1 : Mod noB w W1 := by rw [← hW1]; exact (((Mod.refl noB w).alloc _).alloc _).alloc _
  have hz1 : W1.heap.size = w.heap.size + 3 := by rw [← hW1]; simp
  have b0 : W1.heap[w.heap.size]? = some (.cells (mtC ao n cap d oo oc r) 87) := by rw [← hW1]; exact hL 0 _ rfl
  have b1 : W1.heap[w.heap.size + 1]? = some (.cells #[.int .i64 d.stop] 3) := by rw [← hW1]; exact hL 1 _ rfl
  have b2 : W1.heap[w.heap.size + 1 + 1]? = some (.cells #[.int .i64 set] 3) := by rw [← hW1]; exact hL 2 _ rfl
  have hT1 : Tab W1 := hT.same (hM1.block 1 hlt1 id)
  have hlen := bits_len ⟨set, hs⟩
  simp only at hlen
  clear hW1 hL hT
  refine range_plain (gf := 80) (lb := #[.pointer (some ⟨w.heap.size + 1 + 1, 0, none⟩)]) rfl rfl enter80 (blades_runs (w.heap.size + 1 + 1) set W1 hs b2 hT1)
    (by rintro k (rfl | rfl) <;> omega) (fun k => k = w.heap.size + 1) (by rintro k rfl; exact ⟨by omega, by omega⟩)
    (fun pre Wr => (Wr.heap[w.heap.size + 1]? = some (.cells #[.int .i64 (d.stop + pre.length * d.bend)] 3) ∧ pre.length ≤ 5) ∧ Mod (fun k => k = w.heap.size + 1) W1 Wr)
    (fun _ _ _ => False)
    (fun s A B h hg => ⟨⟨hg.at h.1.1 (by omega), h.1.2⟩, h.2.then hg (fun i h1 h2 => by omega)⟩)
    (fun c s A B h hg => h)
    ⟨⟨by simpa using b1, by simp⟩, Mod.refl _ _⟩
    none
    (fun _ x => { tmps := #[mtV ao n cap d oo oc r, .int .i64 set, .pointer (some ⟨w.heap.size, 0, none⟩), undef, .int .i64 0, .pointer (some ⟨w.heap.size + 1, 0, none⟩), .int .i64 set, .bool false, .pointer (some ⟨w.heap.size, 0, none⟩), .pointer (some ⟨w.heap.size, 2, none⟩), .int .i64 d.stop, .int .i64 set, .func (.func 80) #[] #[.pointer (some ⟨w.heap.size + 1 + 1, 0, none⟩)], .int .i64 x, undef, undef, undef, undef, undef, undef], defers := [] })
    ?assign ?body ?done ?stop
  case assign =>
    intro l x W K hK
    gi_wp2
    exact hK
  case body =>
    rintro l2 pre x rest a' Wr hL hl2 hr2 hzr ⟨⟨hb, hp5⟩, hmr⟩ rfl
    have hpl : pre.length + 1 ≤ 5 := by
      have h1 := congrArg List.length hL
      simp at h1
      omega
    have hv : Hold (d.stop + ((pre ++ [x]).length : Nat) * d.bend = d.stop + pre.length * d.bend + d.bend) := ⟨by simp [Int.add_mul]; omega⟩
    have hbd := mul_bd (m := 5) (k := 10000) (a := (pre.length : Int)) (b := d.bend) (by omega) (by omega)
    have ha := hmr.at b0 (by omega)
    have k0 := cellsAt ha 3
    have k1 := cellsAt hb 0
    have kf := cells_frozen hb 0
    have HL : Hold ((pre ++ [x]).length ≤ 5) := ⟨by simpa using hpl⟩
    have HB := Hold.mk hb
    have HM := Hold.mk hmr
    generalize (pre.length : Int) * d.bend = v at *
    obtain ⟨hb1, hb2⟩ := hbd
    obtain ⟨s1, s2⟩ := hst
    obtain ⟨e1, e2⟩ := hbe
    clear hb hmr hL hlen b0 b1 b2 hT1 hp5 ha hpl
    gi_wp2
    have hset : (Wr.setCell ⟨w.heap.size + 1, 0, none⟩ (.int .i64 (d.stop + v + d.bend))).heap[w.heap.size + 1]? = some (.cells #[.int .i64 (d.stop + v + d.bend)] 3) := by
      have := setCell_at HB.out 0 (.int .i64 (d.stop + v + d.bend))
      exact this
    exact ⟨(Mod.refl (fun k => k = w.heap.size + 1) Wr).setCell (p := ⟨w.heap.size + 1, 0, none⟩) (fun _ => rfl) _, ⟨by rw [hv.out]; exact hset, HL.out⟩, HM.out.setCell (p := ⟨w.heap.size + 1, 0, none⟩) (fun _ => rfl) _⟩
  case done =>
    rintro D W' hD hz ⟨⟨hb, _⟩, hm⟩ hK
    have k1 := cellsAt hb 0
    have hp : Hold (priceR d set = d.stop + (bitsL set).length * d.bend) := ⟨by simp [priceR, h0]⟩
    gi_wp2
    refine ⟨by simp, .inl ⟨_, _, rfl, run_takeDeferred hK, ?_⟩⟩
    exact ⟨_, results_tmp rfl _ _ _, by rw [hp.out]; rfl, (hM1.then hm (fun i h1 h2 => by omega)).putObj (fun h => by omega) _⟩
  case stop =>
    rintro D c pre W hD hz hpre h hK
    exact h.elim

theorem mem_bits {set k : Nat} : k ∈ bitsL set ↔ k < 5 ∧ set.testBit k = true := by simp [bitsL]
theorem bent_cells {ao : Option Addr} {n cap : Nat} {d : Dye} {oo : Option Addr} {oc : Nat} {r : Nat → Int} {set : Nat} : mtC ao n cap d oo oc (fun k => if k ∈ bitsL set then 0 else r k) = mtC ao n cap d oo oc (bentR r set) :=
  mtC_same fun k hk => by
    simp only [bentR, mem_bits, hk, true_and]
@[reducible] def zeroM : Array Value := #[.slice none 0 0, .int .i64 0, .int .i64 0, .int .i64 0, .slice none 0 0, .int .i64 0, .int .i64 0, .int .i64 0, .int .i64 0, .int .i64 0]
theorem mtC_info {ao : Option Addr} {n cap : Nat} {d : Dye} {oo : Option Addr} {oc : Nat} {r : Nat → Int} : (Tryd.prog.info? 87).map (·.size) = some (mtC ao n cap d oo oc r).size ∧ zeroM.size = (mtC ao n cap d oo oc r).size ∧ (mtC ao n cap d oo oc r).all (·.oneCell') = true :=
  ⟨by show _ = some 10; kernel_rfl, rfl, by simp [Value.oneCell']⟩

set_option maxRecDepth 100000 in
set_option maxHeartbeats 2000000 in
theorem bent_any (ao : Option Addr) (n cap : Nat) (d : Dye) (oo : Option Addr) (oc : Nat) (r : Nat → Int) (set : Nat) (w : World) (hs : set < 32) (hT : Tab w) :
    Calls Tryd.prog 50 #[mtV ao n cap d oo oc r, .int .i64 set] w fun e w' => e = .returned (mtV ao n cap d oo oc (bentR r set)) ∧ Mod noB w w' := by
  have hlt1 : 1 < w.heap.size := World.block_lt_of_cell? _ _ (hT.at_ 0 (by omega))
  refine callsIn_wide (n := 3) |>.1 ?_
  refine callsIn_of_wp_marks Tryd.func50 rfl trivial ?_ rfl
  simp only [Tryd.ntmps50, List.size_toArray, List.length_cons, List.length_nil, Nat.reduceAdd, Nat.reduceSub, Array.replicate_succ, Array.replicate_zero, List.push_toArray, List.append_toArray, List.nil_append, List.cons_append]
  gi_wp2_with (refine ⟨trivial, ?_⟩; gi_at_call 71; refine (callsIn_wide.2 (bladesOf_any _ _)).mono ?_; rintro e w' ⟨rfl, rfl⟩)
  obtain ⟨W1, hW1⟩ : ∃ W1, ((w.alloc (.cells (mtC ao n cap d oo oc r) 87)).alloc (.cells zeroM 87)).alloc (.cells #[.int .i64 set] 3) = W1 := ⟨_, rfl⟩
  rw [hW1]
  have hL := allocL_at [.cells (mtC ao n cap d oo oc r) 87, .cells zeroM 87, .cells #[.int .i64 set] 3] w
  have hM1 : Mod noB w W1 := by rw [← hW1]; exact (((Mod.refl noB w).alloc _).alloc _).alloc _
  have hz1 : W1.heap.size = w.heap.size + 3 := by rw [← hW1]; simp
  have b0 : W1.heap[w.heap.size]? = some (.cells (mtC ao n cap d oo oc r) 87) := by rw [← hW1]; exact hL 0 _ rfl
  have b1 : W1.heap[w.heap.size + 1]? = some (.cells zeroM 87) := by rw [← hW1]; exact hL 1 _ rfl
  have b2 : W1.heap[w.heap.size + 1 + 1]? = some (.cells #[.int .i64 set] 3) := by rw [← hW1]; exact hL 2 _ rfl
  have hT1 : Tab W1 := hT.same (hM1.block 1 hlt1 id)
  clear hW1 hL hT
  refine range_plain (gf := 80) (lb := #[.pointer (some ⟨w.heap.size + 1 + 1, 0, none⟩)]) rfl rfl enter80 (blades_runs (w.heap.size + 1 + 1) set W1 hs b2 hT1)
    (by rintro k (rfl | rfl) <;> omega) (fun k => k = w.heap.size) (by rintro k rfl; exact ⟨by omega, by omega⟩)
    (fun pre Wr => Wr.heap[w.heap.size]? = some (.cells (mtC ao n cap d oo oc (fun k => if k ∈ pre then 0 else r k)) 87) ∧ Mod (fun k => k = w.heap.size) W1 Wr)
    (fun _ _ _ => False)
    (fun s A B h hg => ⟨hg.at h.1 (by omega), h.2.then hg (fun i h1 h2 => by omega)⟩)
    (fun c s A B h hg => h)
    ⟨by simpa using b0, Mod.refl _ _⟩
    none
    (fun _ x => { tmps := #[mtV ao n cap d oo oc r, .int .i64 set, .pointer (some ⟨w.heap.size, 0, none⟩), undef, .pointer (some ⟨w.heap.size + 1, 0, none⟩), .int .i64 x, .int .i64 set, .func (.func 80) #[] #[.pointer (some ⟨w.heap.size + 1 + 1, 0, none⟩)], .int .i64 x, undef, undef, undef, undef], defers := [] })
    ?assign ?body ?done ?stop
  case assign =>
    intro l x W K hK
    gi_wp2
    exact hK
  case body =>
    rintro l2 pre x rest a' Wr hL hl2 hr2 hzr ⟨hb, hmr⟩ rfl
    have hx5 : x < 5 := (mem_bits.1 (by rw [hL]; simp : x ∈ bitsL set)).1
    have hx5i : (x : Int) < 5 := by omega
    have kf := cells_frozen hb (5 + x)
    obtain ⟨v, hv⟩ : ∃ v, Wr.cell? ⟨w.heap.size, 5 + x, none⟩ = some v := by
      rw [cellsAt hb]
      exact ⟨_, Array.getElem?_eq_getElem (by simp; omega)⟩
    have HB := Hold.mk (And.intro hb hmr)
    have hset : Hold ((Wr.setCell ⟨w.heap.size, 5 + x, none⟩ (.int .i64 0)).heap[w.heap.size]? = some (.cells (mtC ao n cap d oo oc (fun k => if k ∈ pre ++ [x] then 0 else r k)) 87)) := ⟨by
      rw [setCell_at hb, mtC_set 0 hx5]
      congr 2
      refine mtC_same fun k _ => ?_
      simp only [List.mem_append, List.mem_singleton]
      by_cases e : k = x <;> by_cases e2 : k ∈ pre <;> simp [e, e2]⟩
    clear hb hmr hL b0 b1 b2 hT1
    gi_wp2
    exact ⟨(Mod.refl (fun k => k = w.heap.size) Wr).setCell (p := ⟨w.heap.size, 5 + x, none⟩) (fun _ => rfl) _, hset.out, HB.out.2.setCell (p := ⟨w.heap.size, 5 + x, none⟩) (fun _ => rfl) _⟩
  case done =>
    rintro D W' hD hz ⟨ha, hm⟩ hK
    have hb := hm.at b1 (by omega)
    rw [bent_cells] at ha
    have HV : Hold (mtV ao n cap d oo oc (bentR r set) = .agg (mtC ao n cap d oo oc (bentR r set))) := ⟨rfl⟩
    have HI := @mtC_info ao n cap d oo oc (bentR r set)
    generalize mtC ao n cap d oo oc (bentR r set) = cs at *
    have HA := Hold.mk (And.intro ha (And.intro hb HI))
    have HM := Hold.mk hm
    have HK := Hold.mk hK
    clear ha hb hm hK HI b0 b1 b2 hT1
    gi_wp2_with (first
      | (refine wpListIn_loadRow rfl 87 (.tmp 2) rfl w.heap.size rfl 87 _ _ HA.out.1 Tryd.underlying87 rfl HA.out.2.2.1 ?_)
      | (refine wpListIn_storeRow rfl 87 (.tmp 4) (.tmp 12) rfl (w.heap.size + 1) rfl _ rfl 87 _ HA.out.2.1 HA.out.2.2.1 HA.out.2.2.2.1 HA.out.2.2.2.2 ?_))
    have hlt := at_ltS HA.out.2.1
    have hDne : D ≠ w.heap.size + 1 := by omega
    have hg : ((W'.putObj (w.heap.size + 1) (.cells cs 87)).putObj D (.deferred none)).heap[w.heap.size + 1]? = some (.cells cs 87) := (World.putObj_heap_other (by omega)).trans (World.putObj_heap_same hlt)
    refine ⟨by simp, .inl ⟨_, _, rfl, run_takeDeferred ((World.putObj_heap_other hDne).trans HK.out), ?_⟩⟩
    exact ⟨_, results_cell_row (fn := Tryd.f50) rfl _ _ (w.heap.size + 1) 87 _ (0, 0) _ rfl hg Tryd.underlying87 rfl HA.out.2.2.1, by rw [HV.out],
      ((hM1.then HM.out (fun i h1 h2 => by omega)).putObj (fun h => by omega) _).putObj (fun h => by omega) _⟩
  case stop =>
    rintro D c pre W hD hz hpre h hK
    exact h.elim
end Go.Proofs.YtdncppempgpooaaDoor

/- Several texts in one (a claim holds at most 60 files): each has its own words ahead of it. -/
import Derived.Test.YtdncppempgpooaaDoorRxA
import Derived.Shelf.Spec.TrailingZeros
import Derived.Laws.BitsLemmas
import Derived.Laws.EntriesVeiled
import Derived.Test.YtdncppempgpooaaDoorGen
import Derived.Test.YtdncppempgpooaaDoorRuG
import Derived.Deep.QuietTactic
import Derived.BigQuiet
import Derived.Laws.Tables
import Derived.Maps.AppendAt
set_option linter.unusedSimpArgs false
set_option linter.unusedVariables false

/- The blades of a set: bits.TrailingZeros, the iterator bladesOf. -/
namespace Go.Proofs.YtdncppempgpooaaDoor
open Go.RowKit Go.Shelf
attribute [local go_sem] Oper.semAt_some

/-- The library's table lies in its variable. -/
structure Tab (w : World) : Prop where
  at_ : ∀ j, j < 64 → w.cell? ⟨1, j, none⟩ = some (.int .u8 (Lib.deBruijn64tab.getD j 0))
theorem Tab.same {w w' : World} (h : Tab w) (hm : w'.heap[1]? = w.heap[1]?) : Tab w' := ⟨fun j hj => (cell_same hm _).trans (h.at_ j hj)⟩
theorem Tab.low {B : Nat} {w w' : World} (h : Tab w) (hB : 1 < B) (hm : Low B w w') : Tab w' := h.same (hm.2 1 hB)

set_option maxHeartbeats 1000000 in
theorem tz64_core (x k idx : Nat) (w : World) (hx0 : ((x : Int) == 0) = false)
    (key : IntKind.u64.wrap (bits BinOp.and IntKind.u64 (x : Int) (IntKind.u64.wrap (-(x : Int))) * 285870213051353865) / 288230376151711744 = (idx : Int))
    (hi : idx < 64) (hk : k < 64) (hcell : w.cell? ⟨1, idx, none⟩ = some (.int .u8 k)) :
    Calls Tryd.prog 84 #[.int .u64 x] w fun e w' => e = .returned (.int .i64 k) ∧ w' = w := by
  go_enter Tryd.func84, Tryd.ntmps84
  go_wp2_with (simp only [key])
  go_ret
  exact ⟨rfl, rfl⟩
theorem tz64_any (x : Nat) (h0 : x ≠ 0) (hx : x < 32) (w : World) (hT : Tab w) : Calls Tryd.prog 84 #[.int .u64 x] w fun e w' => e = .returned (.int .i64 (Lib.ctz 64 x)) ∧ w' = w := by
  obtain ⟨hlow, hk⟩ := Lib.lowest_bit 64 x h0 (by omega)
  obtain ⟨hi, htab⟩ := Lib.deBruijn64_at _ hk
  refine tz64_core x _ _ w (by simp; omega) (tz64_key x _ (by omega) h0 hlow) hi hk ?_
  rw [hT.at_ _ hi, htab]

set_option maxHeartbeats 400000 in
theorem tz_any (x : Nat) (h0 : x ≠ 0) (hx : x < 32) (w : World) (hT : Tab w) : Calls Tryd.prog 81 #[.int .u64 x] w fun e w' => e = .returned (.int .i64 (Lib.ctz 64 x)) ∧ w' = w := by
  have H := Hold.mk (tz64_any x h0 hx w hT)
  clear h0 hT
  generalize Lib.ctz 64 x = k at *
  go_enter Tryd.func81, Tryd.ntmps81
  go_wp2_with (go_at_call 84; refine H.out.mono ?_; rintro e w' ⟨rfl, rfl⟩)
  go_ret
  exact ⟨rfl, rfl⟩

/-- What is left of a set when the least blades are taken, one after the other. -/
def restOf (set : Nat) : Nat → Nat
  | 0 => set
  | m + 1 => restOf set m &&& (restOf set m - 1)
theorem rest_all : ∀ set : Fin 32, ∀ m : Fin 6, restOf set m < 32 ∧ (m.val < (bitsL set).length ↔ restOf set m ≠ 0) ∧ (m.val < (bitsL set).length → (bitsL set)[m.val]? = some (Lib.ctz 64 (restOf set m))) := by decide +kernel
theorem bits_len : ∀ set : Fin 32, (bitsL set).length ≤ 5 := by decide +kernel

theorem wraps_small : ∀ n : Int, 0 ≤ n → n < 2 ^ 5 → IntKind.i64.wrap n = n := fun n h0 h1 => IntWalk.i64_in n (by omega)
theorem and_rest (x : Nat) (hx : x < 32) (h0 : x ≠ 0) : bits BinOp.and IntKind.i64 (x : Int) ((x : Int) - 1) = ((x &&& (x - 1) : Nat) : Int) := by
  rw [show ((x : Int) - 1) = ((x - 1 : Nat) : Int) by omega]
  exact (bits_nat .i64 5 (by decide) wraps_small x (x - 1) (by omega) (by omega)).1

set_option maxRecDepth 100000 in
set_option maxHeartbeats 1000000 in
theorem blades_runs (b set : Nat) (w : World) (hset : set < 32) (hb : w.heap[b]? = some (.cells #[.int .i64 set] 3)) (hT : Tab w) :
    Runs Tryd.prog 80 #[.pointer (some ⟨b, 0, none⟩)] (fun k : Nat => .int .i64 k) (fun k => k = b ∨ k = 1) (bitsL set) w := by
  refine runs_of fun n l J Jx W hs hW hJ hJx hY h0 => ?_
  have hb0 : W.heap[b]? = some (.cells #[.int .i64 set] 3) := (hW b (.inl rfl)).trans hb
  have hT0 : Tab W := hT.same (hW 1 (.inr rfl))
  have h1 : (1 : Nat) < W.heap.size := World.block_lt_of_cell? _ _ (hT0.at_ 0 (by omega))
  clear hb hW hT
  refine callsIn_of_wp Tryd.func80 rfl trivial ?_ rfl
  simp only [Tryd.ntmps80, List.size_toArray, List.length_cons, List.length_nil, Nat.reduceAdd, Nat.reduceSub, Array.replicate_succ, Array.replicate_zero, List.push_toArray, List.append_toArray, List.nil_append, List.cons_append]
  have c1 := cellsAt hb0 0
  have HT := Hold.mk hT0
  have HB := Hold.mk hb0
  have HY := Hold.mk hY
  have hlen := bits_len ⟨set, hset⟩
  simp only at hlen
  have HS : Hold (∀ m, m ≤ 5 → restOf set m < 32 ∧ (m < (bitsL set).length ↔ restOf set m ≠ 0) ∧ (m < (bitsL set).length → (bitsL set)[m]? = some (Lib.ctz 64 (restOf set m)))) := ⟨fun m hm => rest_all ⟨set, hset⟩ ⟨m, by omega⟩⟩
  clear hT0 hb0 hY
  gi_wp2
  gi_loopw [3] (fun y wr => ∃ k : Nat, k ≤ (bitsL set).length ∧ y = .int .i64 (restOf set k) ∧ J k wr ∧ W.heap.size ≤ wr.heap.size ∧ wr.heap[1]? = W.heap[1]?)
    (fun y _ => (intOf y).toNat)
  case atStart => exact ⟨0, by omega, rfl, h0, Nat.le_refl _, rfl⟩
  case round =>
    obtain ⟨k, hk, rfl, hj, hz, hw1⟩ := hrel
    obtain ⟨hr1, hr2, hr3⟩ := HS.out k (by omega)
    by_cases hlt : k < (bitsL set).length
    · have hne : restOf set k ≠ 0 := hr2.1 hlt
      have hn1 : ((restOf set k : Int) != 0) = true := by simp [bne]; omega
      have HTZ := Hold.mk (tz_any (restOf set k) hne hr1 wr (HT.out.same hw1))
      have hy0 := HY.out k hlt wr hj hz
      have hat : (bitsL set)[k] = Lib.ctz 64 (restOf set k) := by
        have := hr3 hlt
        rw [List.getElem?_eq_getElem hlt] at this
        exact Option.some.inj this
      rw [hat] at hy0
      have ha := and_rest (restOf set k) hr1 hne
      have hstep : restOf set (k + 1) = restOf set k &&& (restOf set k - 1) := rfl
      have hle : restOf set k &&& (restOf set k - 1) ≤ restOf set k - 1 := Nat.and_le_right
      have HW1 := Hold.mk hw1
      have HST := Hold.mk (And.intro hstep hle)
      have hpos : 0 < restOf set k := by omega
      clear hr2 hr3 hat hj hne hw1 hstep hle
      generalize restOf set k = x at *
      generalize Lib.ctz 64 x = z at *
      obtain ⟨fn, tmps, assign, body, hy, hR⟩ := hy0
      gi_wp2_with (first
        | (refine ⟨trivial, ?_⟩; gi_at_call 81; refine (callsIn_wide.2 HTZ.out).mono ?_; rintro e w' ⟨rfl, rfl⟩))
      refine hR.mono ?_
      rintro e W3 (⟨rfl, hJ3, hM3⟩ | ⟨rfl, hJx3, hM3⟩) <;> have hz3 := hM3.size <;> (have hk3 := hM3.block 1 (by omega) (fun h => h.2 (.inr rfl))) <;> clear hM3
      · have HK3 := Hold.mk (hk3.trans HW1.out)
        clear hk3
        gi_wp2
        go_roundw
        case rel => exact ⟨k + 1, by omega, by rw [HST.out.1], hJ3, by omega, HK3.out⟩
        case measure => have := HST.out.2; simp [intOf]; omega
      · clear hk3
        gi_wp2
        refine bodyPost_ret (results_none rfl _ _ _) rfl ?_
        exact ⟨⟨_, rfl⟩, by omega, .inr ⟨_, hJx3⟩⟩
    · obtain rfl : k = (bitsL set).length := by omega
      have hz0 : restOf set (bitsL set).length = 0 := by
        by_cases e : restOf set (bitsL set).length = 0
        · exact e
        · exact absurd (hr2.2 e) hlt
      rw [hz0]
      clear hr1 hr2 hr3
      gi_wp2
      go_end0
      exact ⟨⟨_, rfl⟩, hz, .inl hj⟩
end Go.Proofs.YtdncppempgpooaaDoor

/- price, bent: ranges over the blades of a set. -/
namespace Go.Proofs.YtdncppempgpooaaDoor
open Go.RowKit Go.Shelf
attribute [local go_sem] Oper.semAt_some

@[reducible] def mtC (ao : Option Addr) (n cap : Nat) (d : Dye) (oo : Option Addr) (oc : Nat) (r : Nat → Int) : Array Value :=
  #[.slice ao n cap, .int .i64 d.bound, .int .i64 d.stop, .int .i64 d.bend, .slice oo n oc, .int .i64 (r 0), .int .i64 (r 1), .int .i64 (r 2), .int .i64 (r 3), .int .i64 (r 4)]
@[reducible] def mtV (ao : Option Addr) (n cap : Nat) (d : Dye) (oo : Option Addr) (oc : Nat) (r : Nat → Int) : Value :=
  .agg #[.slice ao n cap, .int .i64 d.bound, .int .i64 d.stop, .int .i64 d.bend, .slice oo n oc, .int .i64 (r 0), .int .i64 (r 1), .int .i64 (r 2), .int .i64 (r 3), .int .i64 (r 4)]
theorem mtC_same {ao : Option Addr} {n cap : Nat} {d : Dye} {oo : Option Addr} {oc : Nat} {r r' : Nat → Int} (h : ∀ k, k < 5 → r k = r' k) : mtC ao n cap d oo oc r = mtC ao n cap d oo oc r' := by
  unfold mtC; rw [h 0 (by omega), h 1 (by omega), h 2 (by omega), h 3 (by omega), h 4 (by omega)]
theorem mtC_set {ao : Option Addr} {n cap : Nat} {d : Dye} {oo : Option Addr} {oc : Nat} {r : Nat → Int} {x : Nat} (v : Int) (hx : x < 5) :
    (mtC ao n cap d oo oc r).setIfInBounds (5 + x) (.int .i64 v) = mtC ao n cap d oo oc (fun k => if k = x then v else r k) := by
  rcases (by omega : x = 0 ∨ x = 1 ∨ x = 2 ∨ x = 3 ∨ x = 4) with rfl | rfl | rfl | rfl | rfl <;> rfl

theorem enter80 : ∀ args w, (callFunc 80 args).run Tryd.prog w = .ok (.enter 80 args) w := enters_of Tryd.func80 (by kernel_rfl) rfl
set_option maxHeartbeats 400000 in
theorem bladesOf_any (set : Int) (w : World) :
    Calls Tryd.prog 71 #[.int .i64 set] w fun e w' => e = .returned (.func (.func 80) #[] #[.pointer (some ⟨w.heap.size, 0, none⟩)]) ∧ w' = w.alloc (.cells #[.int .i64 set] 3) := by
  go_enter Tryd.func71, Tryd.ntmps71
  go_wp2
  go_ret
  exact ⟨rfl, rfl⟩

set_option maxHeartbeats 1000000 in
theorem price_zero (ao : Option Addr) (n cap : Nat) (d : Dye) (oo : Option Addr) (oc : Nat) (r : Nat → Int) (w : World) :
    Calls Tryd.prog 49 #[mtV ao n cap d oo oc r, .int .i64 0] w fun e w' => e = .returned (.int .i64 0) ∧ Mod noB w w' := by
  go_enter Tryd.func49, Tryd.ntmps49
  go_wp2
  go_ret
  exact ⟨rfl, (Mod.refl _ _).alloc _⟩

set_option maxRecDepth 100000 in
set_option maxHeartbeats 2000000 in
theorem price_some (ao : Option Addr) (n cap : Nat) (d : Dye) (oo : Option Addr) (oc : Nat) (r : Nat → Int) (set : Nat) (w : World) (h0 : set ≠ 0) (hs : set < 32) (hT : Tab w) (hst : 0 ≤ d.stop ∧ d.stop ≤ 10000) (hbe : 0 ≤ d.bend ∧ d.bend ≤ 10000) :
    Calls Tryd.prog 49 #[mtV ao n cap d oo oc r, .int .i64 set] w fun e w' => e = .returned (.int .i64 (priceR d set)) ∧ Mod noB w w' := by
  have hn0 : ((set : Int) == 0) = false := by simp; omega
  have hlt1 : 1 < w.heap.size := World.block_lt_of_cell? _ _ (hT.at_ 0 (by omega))
  refine callsIn_wide (n := 3) |>.1 ?_
  refine callsIn_of_wp_marks Tryd.func49 rfl trivial ?_ rfl
  simp only [Tryd.ntmps49, List.size_toArray, List.length_cons, List.length_nil, Nat.reduceAdd, Nat.reduceSub, Array.replicate_succ, Array.replicate_zero, List.push_toArray, List.append_toArray, List.nil_append, List.cons_append]
  gi_wp2_with (refine ⟨trivial, ?_⟩; gi_at_call 71; refine (callsIn_wide.2 (bladesOf_any _ _)).mono ?_; rintro e w' ⟨rfl, rfl⟩)
  obtain ⟨W1, hW1⟩ : ∃ W1, ((w.alloc (.cells (mtC ao n cap d oo oc r) 87)).alloc (.cells #[.int .i64 d.stop] 3)).alloc (.cells #[.int .i64 set] 3) = W1 := ⟨_, rfl⟩
  rw [hW1]
  have hL := allocL_at [.cells (mtC ao n cap d oo oc r) 87, .cells #[.int .i64 d.stop] 3, .cells #[.int .i64 set] 3] w
  have hM1 : Mod noB w W1 := by rw [← hW1]; exact (((Mod.refl noB w).alloc _).alloc _).alloc _
  have hz1 : W1.heap.size = w.heap.size + 3 := by rw [← hW1]; simp
  have b0 : W1.heap[w.heap.size]? = some (.cells (mtC ao n cap d oo oc r) 87) := by rw [← hW1]; exact hL 0 _ rfl
  have b1 : W1.heap[w.heap.size + 1]? = some (.cells #[.int .i64 d.stop] 3) := by rw [← hW1]; exact hL 1 _ rfl
  have b2 : W1.heap[w.heap.size + 1 + 1]? = some (.cells #[.int .i64 set] 3) := by rw [← hW1]; exact hL 2 _ rfl
  have hT1 : Tab W1 := hT.same (hM1.block 1 hlt1 id)
  have hlen := bits_len ⟨set, hs⟩
  simp only at hlen
  clear hW1 hL hT
  refine range_plain (gf := 80) (lb := #[.pointer (some ⟨w.heap.size + 1 + 1, 0, none⟩)]) rfl rfl enter80 (blades_runs (w.heap.size + 1 + 1) set W1 hs b2 hT1)
    (by rintro k (rfl | rfl) <;> omega) (fun k => k = w.heap.size + 1) (by rintro k rfl; exact ⟨by omega, by omega⟩)
    (fun pre Wr => (Wr.heap[w.heap.size + 1]? = some (.cells #[.int .i64 (d.stop + pre.length * d.bend)] 3) ∧ pre.length ≤ 5) ∧ Mod (fun k => k = w.heap.size + 1) W1 Wr)
    (fun _ _ _ => False)
    (fun s A B h hg => ⟨⟨hg.at h.1.1 (by omega), h.1.2⟩, h.2.then hg (fun i h1 h2 => by omega)⟩)
    (fun c s A B h hg => h)
    ⟨⟨by simpa using b1, by simp⟩, Mod.refl _ _⟩
    none
    (fun _ x => { tmps := #[mtV ao n cap d oo oc r, .int .i64 set, .pointer (some ⟨w.heap.size, 0, none⟩), undef, .int .i64 0, .pointer (some ⟨w.heap.size + 1, 0, none⟩), .int .i64 set, .bool false, .pointer (some ⟨w.heap.size, 0, none⟩), .pointer (some ⟨w.heap.size, 2, none⟩), .int .i64 d.stop, .int .i64 set, .func (.func 80) #[] #[.pointer (some ⟨w.heap.size + 1 + 1, 0, none⟩)], .int .i64 x, undef, undef, undef, undef, undef, undef], defers := [] })
    ?assign ?body ?done ?stop
  case assign =>
    intro l x W K hK
    gi_wp2
    exact hK
  case body =>
    rintro l2 pre x rest a' Wr hL hl2 hr2 hzr ⟨⟨hb, hp5⟩, hmr⟩ rfl
    have hpl : pre.length + 1 ≤ 5 := by
      have h1 := congrArg List.length hL
      simp at h1
      omega
    have hv : Hold (d.stop + ((pre ++ [x]).length : Nat) * d.bend = d.stop + pre.length * d.bend + d.bend) := ⟨by simp [Int.add_mul]; omega⟩
    have hbd := mul_bd (m := 5) (k := 10000) (a := (pre.length : Int)) (b := d.bend) (by omega) (by omega)
    have ha := hmr.at b0 (by omega)
    have k0 := cellsAt ha 3
    have k1 := cellsAt hb 0
    have kf := cells_frozen hb 0
    have HL : Hold ((pre ++ [x]).length ≤ 5) := ⟨by simpa using hpl⟩
    have HB := Hold.mk hb
    have HM := Hold.mk hmr
    generalize (pre.length : Int) * d.bend = v at *
    obtain ⟨hb1, hb2⟩ := hbd
    obtain ⟨s1, s2⟩ := hst
    obtain ⟨e1, e2⟩ := hbe
    clear hb hmr hL hlen b0 b1 b2 hT1 hp5 ha hpl
    gi_wp2
    have hset : (Wr.setCell ⟨w.heap.size + 1, 0, none⟩ (.int .i64 (d.stop + v + d.bend))).heap[w.heap.size + 1]? = some (.cells #[.int .i64 (d.stop + v + d.bend)] 3) := by
      have := setCell_at HB.out 0 (.int .i64 (d.stop + v + d.bend))
      exact this
    exact ⟨(Mod.refl (fun k => k = w.heap.size + 1) Wr).setCell (p := ⟨w.heap.size + 1, 0, none⟩) (fun _ => rfl) _, ⟨by rw [hv.out]; exact hset, HL.out⟩, HM.out.setCell (p := ⟨w.heap.size + 1, 0, none⟩) (fun _ => rfl) _⟩
  case done =>
    rintro D W' hD hz ⟨⟨hb, _⟩, hm⟩ hK
    have k1 := cellsAt hb 0
    have hp : Hold (priceR d set = d.stop + (bitsL set).length * d.bend) := ⟨by simp [priceR, h0]⟩
    gi_wp2
    refine ⟨by simp, .inl ⟨_, _, rfl, run_takeDeferred hK, ?_⟩⟩
    exact ⟨_, results_tmp rfl _ _ _, by rw [hp.out]; rfl, (hM1.then hm (fun i h1 h2 => by omega)).putObj (fun h => by omega) _⟩
  case stop =>
    rintro D c pre W hD hz hpre h hK
    exact h.elim

theorem mem_bits {set k : Nat} : k ∈ bitsL set ↔ k < 5 ∧ set.testBit k = true := by simp [bitsL]
theorem bent_cells {ao : Option Addr} {n cap : Nat} {d : Dye} {oo : Option Addr} {oc : Nat} {r : Nat → Int} {set : Nat} : mtC ao n cap d oo oc (fun k => if k ∈ bitsL set then 0 else r k) = mtC ao n cap d oo oc (bentR r set) :=
  mtC_same fun k hk => by
    simp only [bentR, mem_bits, hk, true_and]
@[reducible] def zeroM : Array Value := #[.slice none 0 0, .int .i64 0, .int .i64 0, .int .i64 0, .slice none 0 0, .int .i64 0, .int .i64 0, .int .i64 0, .int .i64 0, .int .i64 0]
theorem mtC_info {ao : Option Addr} {n cap : Nat} {d : Dye} {oo : Option Addr} {oc : Nat} {r : Nat → Int} : (Tryd.prog.info? 87).map (·.size) = some (mtC ao n cap d oo oc r).size ∧ zeroM.size = (mtC ao n cap d oo oc r).size ∧ (mtC ao n cap d oo oc r).all (·.oneCell') = true :=
  ⟨by show _ = some 10; kernel_rfl, rfl, by simp [Value.oneCell']⟩

set_option maxRecDepth 100000 in
set_option maxHeartbeats 2000000 in
theorem bent_any (ao : Option Addr) (n cap : Nat) (d : Dye) (oo : Option Addr) (oc : Nat) (r : Nat → Int) (set : Nat) (w : World) (hs : set < 32) (hT : Tab w) :
    Calls Tryd.prog 50 #[mtV ao n cap d oo oc r, .int .i64 set] w fun e w' => e = .returned (mtV ao n cap d oo oc (bentR r set)) ∧ Mod noB w w' := by
  have hlt1 : 1 < w.heap.size := World.block_lt_of_cell? _ _ (hT.at_ 0 (by omega))
  refine callsIn_wide (n := 3) |>.1 ?_
  refine callsIn_of_wp_marks Tryd.func50 rfl trivial ?_ rfl
  simp only [Tryd.ntmps50, List.size_toArray, List.length_cons, List.length_nil, Nat.reduceAdd, Nat.reduceSub, Array.replicate_succ, Array.replicate_zero, List.push_toArray, List.append_toArray, List.nil_append, List.cons_append]
  gi_wp2_with (refine ⟨trivial, ?_⟩; gi_at_call 71; refine (callsIn_wide.2 (bladesOf_any _ _)).mono ?_; rintro e w' ⟨rfl, rfl⟩)
  obtain ⟨W1, hW1⟩ : ∃ W1, ((w.alloc (.cells (mtC ao n cap d oo oc r) 87)).alloc (.cells zeroM 87)).alloc (.cells #[.int .i64 set] 3) = W1 := ⟨_, rfl⟩
  rw [hW1]
  have hL := allocL_at [.cells (mtC ao n cap d oo oc r) 87, .cells zeroM 87, .cells #[.int .i64 set] 3] w
  have hM1 : Mod noB w W1 := by rw [← hW1]; exact (((Mod.refl noB w).alloc _).alloc _).alloc _
  have hz1 : W1.heap.size = w.heap.size + 3 := by rw [← hW1]; simp
  have b0 : W1.heap[w.heap.size]? = some (.cells (mtC ao n cap d oo oc r) 87) := by rw [← hW1]; exact hL 0 _ rfl
  have b1 : W1.heap[w.heap.size + 1]? = some (.cells zeroM 87) := by rw [← hW1]; exact hL 1 _ rfl
  have b2 : W1.heap[w.heap.size + 1 + 1]? = some (.cells #[.int .i64 set] 3) := by rw [← hW1]; exact hL 2 _ rfl
  have hT1 : Tab W1 := hT.same (hM1.block 1 hlt1 id)
  clear hW1 hL hT
  refine range_plain (gf := 80) (lb := #[.pointer (some ⟨w.heap.size + 1 + 1, 0, none⟩)]) rfl rfl enter80 (blades_runs (w.heap.size + 1 + 1) set W1 hs b2 hT1)
    (by rintro k (rfl | rfl) <;> omega) (fun k => k = w.heap.size) (by rintro k rfl; exact ⟨by omega, by omega⟩)
    (fun pre Wr => Wr.heap[w.heap.size]? = some (.cells (mtC ao n cap d oo oc (fun k => if k ∈ pre then 0 else r k)) 87) ∧ Mod (fun k => k = w.heap.size) W1 Wr)
    (fun _ _ _ => False)
    (fun s A B h hg => ⟨hg.at h.1 (by omega), h.2.then hg (fun i h1 h2 => by omega)⟩)
    (fun c s A B h hg => h)
    ⟨by simpa using b0, Mod.refl _ _⟩
    none
    (fun _ x => { tmps := #[mtV ao n cap d oo oc r, .int .i64 set, .pointer (some ⟨w.heap.size, 0, none⟩), undef, .pointer (some ⟨w.heap.size + 1, 0, none⟩), .int .i64 x, .int .i64 set, .func (.func 80) #[] #[.pointer (some ⟨w.heap.size + 1 + 1, 0, none⟩)], .int .i64 x, undef, undef, undef, undef], defers := [] })
    ?assign ?body ?done ?stop
  case assign =>
    intro l x W K hK
    gi_wp2
    exact hK
  case body =>
    rintro l2 pre x rest a' Wr hL hl2 hr2 hzr ⟨hb, hmr⟩ rfl
    have hx5 : x < 5 := (mem_bits.1 (by rw [hL]; simp : x ∈ bitsL set)).1
    have hx5i : (x : Int) < 5 := by omega
    have kf := cells_frozen hb (5 + x)
    obtain ⟨v, hv⟩ : ∃ v, Wr.cell? ⟨w.heap.size, 5 + x, none⟩ = some v := by
      rw [cellsAt hb]
      exact ⟨_, Array.getElem?_eq_getElem (by simp; omega)⟩
    have HB := Hold.mk (And.intro hb hmr)
    have hset : Hold ((Wr.setCell ⟨w.heap.size, 5 + x, none⟩ (.int .i64 0)).heap[w.heap.size]? = some (.cells (mtC ao n cap d oo oc (fun k => if k ∈ pre ++ [x] then 0 else r k)) 87)) := ⟨by
      rw [setCell_at hb, mtC_set 0 hx5]
      congr 2
      refine mtC_same fun k _ => ?_
      simp only [List.mem_append, List.mem_singleton]
      by_cases e : k = x <;> by_cases e2 : k ∈ pre <;> simp [e, e2]⟩
    clear hb hmr hL b0 b1 b2 hT1
    gi_wp2
    exact ⟨(Mod.refl (fun k => k = w.heap.size) Wr).setCell (p := ⟨w.heap.size, 5 + x, none⟩) (fun _ => rfl) _, hset.out, HB.out.2.setCell (p := ⟨w.heap.size, 5 + x, none⟩) (fun _ => rfl) _⟩
  case done =>
    rintro D W' hD hz ⟨ha, hm⟩ hK
    have hb := hm.at b1 (by omega)
    rw [bent_cells] at ha
    have HV : Hold (mtV ao n cap d oo oc (bentR r set) = .agg (mtC ao n cap d oo oc (bentR r set))) := ⟨rfl⟩
    have HI := @mtC_info ao n cap d oo oc (bentR r set)
    generalize mtC ao n cap d oo oc (bentR r set) = cs at *
    have HA := Hold.mk (And.intro ha (And.intro hb HI))
    have HM := Hold.mk hm
    have HK := Hold.mk hK
    clear ha hb hm hK HI b0 b1 b2 hT1
    gi_wp2_with (first
      | (refine wpListIn_loadRow rfl 87 (.tmp 2) rfl w.heap.size rfl 87 _ _ HA.out.1 Tryd.underlying87 rfl HA.out.2.2.1 ?_)
      | (refine wpListIn_storeRow rfl 87 (.tmp 4) (.tmp 12) rfl (w.heap.size + 1) rfl _ rfl 87 _ HA.out.2.1 HA.out.2.2.1 HA.out.2.2.2.1 HA.out.2.2.2.2 ?_))
    have hlt := at_ltS HA.out.2.1
    have hDne : D ≠ w.heap.size + 1 := by omega
    have hg : ((W'.putObj (w.heap.size + 1) (.cells cs 87)).putObj D (.deferred none)).heap[w.heap.size + 1]? = some (.cells cs 87) := (World.putObj_heap_other (by omega)).trans (World.putObj_heap_same hlt)
    refine ⟨by simp, .inl ⟨_, _, rfl, run_takeDeferred ((World.putObj_heap_other hDne).trans HK.out), ?_⟩⟩
    exact ⟨_, results_cell_row (fn := Tryd.f50) rfl _ _ (w.heap.size + 1) 87 _ (0, 0) _ rfl hg Tryd.underlying87 rfl HA.out.2.2.1, by rw [HV.out],
      ((hM1.then HM.out (fun i h1 h2 => by omega)).putObj (fun h => by omega) _).putObj (fun h => by omega) _⟩
  case stop =>
    rintro D c pre W hD hz hpre h hK
    exact h.elim
end Go.Proofs.YtdncppempgpooaaDoor

/- A die on the press: fails, failing, run, allBlades. -/
namespace Go.Proofs.YtdncppempgpooaaDoor
open Go.RowKit Go.Shelf

theorem bladeAt_some {d : Dye} {k : Nat} (h : k < d.bl.length) : d.bl[k]? = some (bladeAt d k) := by
  rw [bladeAt, List.getElem?_eq_getElem h]; rfl

/-- The functions of all blades. -/
structure OffsAt (B : Nat) (w : World) (oo : Option Addr) (l : List Bld) : Prop where
  ex : ∃ ps : List (Nat × Nat × Nat × Nat), ps.length = l.length ∧ ListAt B w 2 offC oo ps ∧ ∀ (k : Nat) (p : Nat × Nat × Nat × Nat) (b : Bld), ps[k]? = some p → l[k]? = some b → OffIs B w p b
theorem OffsAt.low {B : Nat} {w w' : World} {oo : Option Addr} {l : List Bld} (h : OffsAt B w oo l) (hm : Low B w w') : OffsAt B w' oo l := by
  obtain ⟨ps, h1, h2, h3⟩ := h.ex
  exact ⟨ps, h1, h2.low hm, fun k p b hp hb => (h3 k p b hp hb).low hm⟩
theorem OffsAt.off {B : Nat} {w : World} {oo : Option Addr} {l : List Bld} (h : OffsAt B w oo l) {k : Nat} {x : Bld} (hx : l[k]? = some x) :
    ∃ b off p1 p2 p3 p4, oo = some ⟨b, off, none⟩ ∧ b < B ∧ OffIs B w (p1, p2, p3, p4) x ∧
      w.cell? ⟨b, off + k * 2, none⟩ = some (.func (.func 64) #[] #[.pointer (some ⟨p1, 0, none⟩), .pointer (some ⟨p2, 0, none⟩)]) ∧
      w.cell? ⟨b, off + k * 2 + 1, none⟩ = some (.func (.func 64) #[] #[.pointer (some ⟨p3, 0, none⟩), .pointer (some ⟨p4, 0, none⟩)]) := by
  obtain ⟨ps, h1, h2, h3⟩ := h.ex
  have hk : k < ps.length := by rw [h1]; exact (List.getElem?_eq_some_iff.1 hx).1
  obtain ⟨p, hp⟩ : ∃ p, ps[k]? = some p := ⟨_, List.getElem?_eq_getElem hk⟩
  obtain ⟨b, off, e, hb, hc⟩ := h2.lies (fun e => by rw [e] at hp; simp at hp)
  have g := hc k p hp
  obtain ⟨p1, p2, p3, p4⟩ := p
  exact ⟨b, off, p1, p2, p3, p4, e, hb, h3 k _ x hp hx, g 0 (by omega), g 1 (by omega)⟩

/-- A die on the press, in memory below B. -/
structure Mnt (B : Nat) (w : World) (oo : Option Addr) (d : Dye) : Prop where
  offs : OffsAt B w oo d.bl
  die : dieB d = true
  le : B ≤ w.heap.size
  tab : Tab w
  one : 1 < B
theorem Mnt.low {B : Nat} {w w' : World} {oo : Option Addr} {d : Dye} (h : Mnt B w oo d) (hm : Low B w w') : Mnt B w' oo d :=
  ⟨h.offs.low hm, h.die, Nat.le_trans h.le hm.1, h.tab.low h.one hm, h.one⟩
theorem Mnt.mod {B : Nat} {w w' : World} {oo : Option Addr} {d : Dye} (h : Mnt B w oo d) (hm : Mod noB w w') : Mnt B w' oo d := h.low (Low.ofN hm h.le)

/-- How far blades have run: within so much. -/
def RunB (m : Int) (r : Nat → Int) : Prop := ∀ k, k < 5 → 0 ≤ r k ∧ r k ≤ m
theorem runB_zero : RunB 0 zeroR := fun _ _ => ⟨by simp [zeroR], by simp [zeroR]⟩
theorem RunB.bent {m : Int} {r : Nat → Int} (h : RunB m r) (hm : 0 ≤ m) (set : Nat) : RunB m (bentR r set) := fun k hk => by
  unfold bentR; split
  · exact ⟨by omega, hm⟩
  · exact h k hk
theorem RunB.run {m : Int} {r : Nat → Int} (h : RunB m r) (d : Dye) {s : Int × Int} (hs : 0 ≤ s.1 ∧ s.1 ≤ 1000) : RunB (m + 1000) (runR d r s) := fun k hk => by
  have := h k hk
  unfold runR; split <;> omega
theorem RunB.mono {m m' : Int} {r : Nat → Int} (h : RunB m r) (hm : m ≤ m') : RunB m' r := fun k hk => by have := h k hk; omega

theorem mtC_at {ao : Option Addr} {n cap : Nat} {d : Dye} {oo : Option Addr} {oc : Nat} {r : Nat → Int} {x : Nat} (hx : x < 5) : (mtC ao n cap d oo oc r)[5 + x]? = some (.int .i64 (r x)) := by
  rcases (by omega : x = 0 ∨ x = 1 ∨ x = 2 ∨ x = 3 ∨ x = 4) with rfl | rfl | rfl | rfl | rfl <;> rfl

set_option maxRecDepth 100000 in
set_option maxHeartbeats 2000000 in
theorem fails_any (B : Nat) (ao : Option Addr) (cap : Nat) (d : Dye) (oo : Option Addr) (oc : Nat) (r : Nat → Int) (k : Nat) (s : Int × Int) (w : World) (hM : Mnt B w oo d) (hk : k < d.bl.length) (hr : RunB 10000 r) (hs : stintB s = true) :
    Calls Tryd.prog 72 #[mtV ao d.bl.length cap d oo oc r, .int .i64 k, spV s] w fun e w' => e = .returned (.bool (failsB d r k s)) ∧ Mod noB w w' := by
  obtain ⟨⟨hl1, hl2⟩, hbs, ⟨db1, db2⟩, _, _⟩ := dieB_parts hM.die
  obtain ⟨x, hx⟩ : ∃ x, bladeAt d k = x := ⟨_, rfl⟩
  have hxk : d.bl[k]? = some x := by rw [← hx]; exact bladeAt_some hk
  have hxb := hbs x (List.mem_of_getElem? hxk)
  obtain ⟨b, off, p1, p2, p3, p4, rfl, hb, hO, q0, q1⟩ := hM.offs.off hxk
  obtain ⟨rk0, rk1⟩ := hr k (by omega)
  obtain ⟨s1, s2⟩ := s
  have hsb : (1 ≤ s1 ∧ s1 ≤ 1000) ∧ 0 ≤ s2 ∧ s2 ≤ 100000 := by simpa [stintB, fromB, Bool.and_eq_true] using hs
  have hle := hM.le
  obtain ⟨W1, hW1⟩ : ∃ W1, (w.alloc (.cells (mtC ao d.bl.length cap d (some ⟨b, off, none⟩) oc r) 87)).alloc (.cells (spC (s1, s2)) 58) = W1 := ⟨_, rfl⟩
  have hm1 : Mod noB w W1 := by rw [← hW1]; exact ((Mod.refl _ _).alloc _).alloc _
  have hb0 : W1.heap[w.heap.size]? = some (.cells (mtC ao d.bl.length cap d (some ⟨b, off, none⟩) oc r) 87) := by rw [← hW1]; exact allocL_at [_, _] w 0 _ rfl
  have hb1 : W1.heap[w.heap.size + 1]? = some (.cells (spC (s1, s2)) 58) := by rw [← hW1]; exact allocL_at [_, _] w 1 _ rfl
  have FIN : Hold (∀ W', Mod noB W1 W' → W'.cell? ⟨w.heap.size, 1, none⟩ = some (.int .i64 d.bound) ∧ W'.cell? ⟨w.heap.size, 4, none⟩ = some (.slice (some ⟨b, off, none⟩) d.bl.length oc) ∧ W'.cell? ⟨w.heap.size, 5 + k, none⟩ = some (.int .i64 (r k)) ∧
      W'.cell? ⟨w.heap.size + 1, 0, none⟩ = some (.int .i64 s1) ∧ W'.cell? ⟨w.heap.size + 1, 1, none⟩ = some (.int .i64 s2) ∧ W'.cell? ⟨b, off + k * 2 + 1, none⟩ = some (.func (.func 64) #[] #[.pointer (some ⟨p3, 0, none⟩), .pointer (some ⟨p4, 0, none⟩)])) := ⟨fun W' h => by
    have e0 := h.at hb0 id
    have e1 := h.at hb1 id
    exact ⟨cellsAt e0 1, cellsAt e0 4, (cellsAt e0 _).trans (mtC_at (by omega)), cellsAt e1 0, cellsAt e1 1, (cell_same ((hm1.trans h).block b (by omega) id) _).trans q1⟩⟩
  have HC : Hold (∀ W', Mod noB W1 W' → Calls Tryd.prog 64 #[.int .i64 (r k + s1), .pointer (some ⟨p3, 0, none⟩), .pointer (some ⟨p4, 0, none⟩)] W' fun e w'' => e = .returned (.int .i64 (mostV x (r k + s1))) ∧ W' = w'') :=
    ⟨fun W' h => clo_any p3 p4 x.f.2 x.w.2 (r k + s1) W' ((hm1.trans h).at hO.c3 id) ((hm1.trans h).at hO.c4 id) (by omega) (by omega) (by omega)⟩
  have hF : Hold (failsB d r k (s1, s2) = decide (d.bound + s2 < mostV x (r k + s1))) := ⟨by simp only [failsB, hx]⟩
  generalize failsB d r k (s1, s2) = fb at *
  generalize mostV x (r k + s1) = mv at *
  have v1 : IntKind.i64.wrap (r k + s1) = r k + s1 := IntWalk.i64_in _ (by omega)
  have v2 : IntKind.i64.wrap (d.bound + s2) = d.bound + s2 := IntWalk.i64_in _ (by omega)
  have hki : (k : Int) < (d.bl.length : Int) := by omega
  have hki0 : (0 : Int) ≤ (k : Int) := by omega
  have hk5 : (k : Int) < 5 := by omega
  have HM1 := Hold.mk hm1
  clear hM hr hs hbs hxb hO q0 q1 hb0 hb1 hm1 hx hxk hsb rk0 rk1
  go_enter Tryd.func72, Tryd.ntmps72
  go_wp2
  clear hW1
  refine region_quietP (by kernel_rfl) (by kernel_rfl) (fun W' => Mod noB W1 W') ((Mod.refl _ _).drew) ?_
  repeat
    (first
      | go_big_quiet_skip
      | (go_big_quiet_want
         go_simp
         first
           | go_big_quiet_on
           | (apply Exists.intro
              refine ⟨fun W' hC => ?_, ?_⟩
              · obtain ⟨q0, q1, q2, q3, q4, q5⟩ := FIN.out W' hC
                first
                  | (go_at_call 64; refine (HC.out _ hC).mono fun e w'' he => ⟨he.1, he.2 ▸ hC⟩)
                  | with_reducible rfl
                  | (go_simp; first | rfl | exact ⟨rfl, rfl⟩)
              go_big_quiet_on)
           | (refine ⟨⟨_, fun _ _ => rfl⟩, ?_⟩; go_big_quiet_on)))
  refine wpQuiet_nil ?_
  intro Wq hq
  have HQ := Hold.mk hq
  clear hq
  go_wp2
  go_ret
  exact ⟨by rw [hF.out]; rfl, HM1.out.trans HQ.out⟩
end Go.Proofs.YtdncppempgpooaaDoor

/- A die on the press: failing, run, allBlades. -/
namespace Go.Proofs.YtdncppempgpooaaDoor
open Go.RowKit Go.Shelf

theorem find_at {p : Nat → Bool} {n k : Nat} (hk : k < n) (h1 : p k = true) (h0 : ∀ j, j < k → p j = false) : (List.range n).find? p = some k := by
  rw [List.find?_range_eq_some]
  exact ⟨h1, by simpa using hk, fun j hj => by simp [h0 j hj]⟩
theorem find_none {p : Nat → Bool} {n : Nat} (h0 : ∀ j, j < n → p j = false) : (List.range n).find? p = none := by
  rw [List.find?_eq_none]
  intro x hx
  simp [h0 x (List.mem_range.1 hx)]

/-- What failing returns. -/
def failV (o : Option Nat) : Value := match o with | some b => .tuple #[.int .i64 b, .bool true] | none => .tuple #[.int .i64 0, .bool false]
theorem failing_some {d : Dye} {r : Nat → Int} {s : Int × Int} {k : Nat} (h : failing d r s = some k) : k < d.bl.length ∧ failsB d r k s = true ∧ ∀ j, j < k → failsB d r j s = false := by
  unfold failing at h
  rw [List.find?_range_eq_some] at h
  exact ⟨by simpa using h.2.1, h.1, fun j hj => by simpa using h.2.2 j hj⟩
theorem failing_none {d : Dye} {r : Nat → Int} {s : Int × Int} (h : failing d r s = none) : ∀ j, j < d.bl.length → failsB d r j s = false := by
  unfold failing at h
  rw [List.find?_eq_none] at h
  intro j hj
  simpa using h j (List.mem_range.2 hj)

/-- What failing's walk holds on to: the boxed arguments. -/
def Box2 (w : World) (cs ss : Array Value) (W : World) : Prop := W.heap[w.heap.size]? = some (.cells cs 87) ∧ W.heap[w.heap.size + 1]? = some (.cells ss 58) ∧ Mod noB w W
theorem box2 (w : World) (cs ss : Array Value) : Kept ((w.alloc (.cells cs 87)).alloc (.cells ss 58)) (Box2 w cs ss) :=
  fun W' h => ⟨at_allocL [_, _] h 0 _ rfl, at_allocL [_, _] h 1 _ rfl, (allocL_mod noB [_, _] w).trans h⟩

set_option maxRecDepth 100000 in
set_option maxHeartbeats 2000000 in
theorem failing_any (B : Nat) (ao : Option Addr) (cap : Nat) (d : Dye) (oo : Option Addr) (oc : Nat) (r : Nat → Int) (s : Int × Int) (w : World) (hM : Mnt B w oo d) (hr : RunB 10000 r) (hs : stintB s = true) :
    Calls Tryd.prog 51 #[mtV ao d.bl.length cap d oo oc r, spV s] w fun e w' => e = .returned (failV (failing d r s)) ∧ Mod noB w w' := by
  have hl := (dieB_parts hM.die).1
  have hn5 : d.bl.length ≤ 5 := hl.2
  have HF := Hold.mk (box2 w (mtC ao d.bl.length cap d oo oc r) (spC s))
  have HC : Hold (∀ (k : Nat) (v : Bool) (W : World), k < d.bl.length → failsB d r k s = v → Mod noB w W → Calls Tryd.prog 72 #[mtV ao d.bl.length cap d oo oc r, .int .i64 k, spV s] W fun e w' => e = .returned (.bool v) ∧ Mod noB W w') :=
    ⟨fun k v W hk hv hm => by rw [← hv]; exact fails_any B ao cap d oo oc r k s W (hM.mod hm) hk hr hs⟩
  clear hM hr hs hl
  obtain ⟨s1, s2⟩ := s
  go_enter Tryd.func51, Tryd.ntmps51
  go_wp2
  go_loopw [11] (fun i wr => ∃ k : Nat, k ≤ d.bl.length ∧ i = .int .i64 k ∧ (∀ j, j < k → failsB d r j (s1, s2) = false) ∧ Kept wr (Box2 w (mtC ao d.bl.length cap d oo oc r) (spC (s1, s2)))) (fun i _ => d.bl.length - (intOf i).toNat)
  case atStart => exact ⟨0, Nat.zero_le _, rfl, fun j hj => absurd hj (Nat.not_lt_zero _), HF.out⟩
  case round =>
    obtain ⟨k, hk, rfl, h0, hF⟩ := hrel
    have H0 := Hold.mk h0
    have HF := Hold.mk hF
    clear h0 hF
    by_cases hlt : k < d.bl.length
    · obtain ⟨ha, hb, hm⟩ := HF.out.now
      have c0 := cellsAt ha 0; have c1 := cellsAt ha 1; have c2 := cellsAt ha 2; have c3 := cellsAt ha 3; have c4 := cellsAt ha 4
      have c5 := cellsAt ha 5; have c6 := cellsAt ha 6; have c7 := cellsAt ha 7; have c8 := cellsAt ha 8; have c9 := cellsAt ha 9
      have d0 := cellsAt hb 0; have d1 := cellsAt hb 1
      cases hf : failsB d r k (s1, s2) with
      | true =>
        have HC' := Hold.mk (HC.out k true wr hlt hf hm)
        have HX : Hold (failing d r (s1, s2) = some k) := ⟨find_at hlt hf H0.out⟩
        clear ha hb hm hf
        go_wp2_with (go_at_call 72; refine HC'.out.mono ?_; rintro e w1 ⟨rfl, hM⟩; have HF := Hold.mk (HF.out.later hM); clear hM)
        go_ret2
        exact ⟨by rw [HX.out]; rfl, HF.out.now.2.2⟩
      | false =>
        have HC' := Hold.mk (HC.out k false wr hlt hf hm)
        have HX := Hold.mk hf
        clear ha hb hm hf
        go_wp2_with (go_at_call 72; refine HC'.out.mono ?_; rintro e w1 ⟨rfl, hM⟩; have HF := Hold.mk (HF.out.later hM); clear hM)
        go_roundw
        case rel => exact ⟨k + 1, by omega, by go_num, fun j hj => by
          rcases Nat.lt_succ_iff_lt_or_eq.1 hj with h | rfl
          · exact H0.out j h
          · exact HX.out, HF.out⟩
        case measure => simp [intOf]; omega
    · obtain rfl : k = d.bl.length := by omega
      have HX : Hold (failing d r (s1, s2) = none) := ⟨find_none H0.out⟩
      go_wp2
      go_ret2
      exact ⟨by rw [HX.out]; rfl, HF.out.now.2.2⟩

set_option maxHeartbeats 400000 in
theorem allBlades_any (ao : Option Addr) (cap : Nat) (d : Dye) (w : World) (hn : d.bl.length ≤ 5) :
    Calls Tryd.prog 69 #[dyV ao d.bl.length cap d] w fun e w' => e = .returned (.int .i64 (allS d)) ∧ Mod noB w w' := by
  have he : Hold (∀ n, d.bl.length = n → (allS d : Int) = 2 ^ n - 1) := ⟨fun n hn2 => by
    have : (1 : Nat) ≤ 2 ^ d.bl.length := Nat.one_le_two_pow
    unfold allS
    rw [Int.natCast_sub this, ← hn2]; simp⟩
  obtain ⟨n, hnn⟩ : ∃ n, d.bl.length = n := ⟨_, rfl⟩
  have HE := Hold.mk (he.out n hnn)
  rw [hnn] at hn ⊢
  clear he hnn
  rcases (by omega : n = 0 ∨ n = 1 ∨ n = 2 ∨ n = 3 ∨ n = 4 ∨ n = 5) with rfl | rfl | rfl | rfl | rfl | rfl
  all_goals
    go_enter Tryd.func69, Tryd.ntmps69
    go_wp2
    go_ret
    exact ⟨by rw [HE.out]; rfl, (Mod.refl _ _).alloc _⟩
end Go.Proofs.YtdncppempgpooaaDoor

/- A die on the press: run. -/
namespace Go.Proofs.YtdncppempgpooaaDoor
open Go.RowKit Go.Shelf

/-- How far blades have run when the first of them have been told. -/
def runTo (r : Nat → Int) (s1 : Int) (k : Nat) : Nat → Int := fun j => if j < k then r j + s1 else r j
theorem runTo_step (r : Nat → Int) (s1 : Int) (k : Nat) : (fun j => if j = k then r k + s1 else runTo r s1 k j) = runTo r s1 (k + 1) := by
  funext j
  unfold runTo
  by_cases e : j = k
  · subst e; simp
  · by_cases h : j < k
    · have : j < k + 1 := by omega
      simp [e, h, this]
    · have : ¬ j < k + 1 := by omega
      simp [e, h, this]

/-- Between two rounds of run. -/
structure RunI (ao : Option Addr) (n cap : Nat) (d : Dye) (oo : Option Addr) (oc : Nat) (r : Nat → Int) (s : Int × Int) (w : World) (k : Nat) (wr : World) : Prop where
  a : wr.heap[w.heap.size]? = some (.cells (mtC ao n cap d oo oc (runTo r s.1 k)) 87)
  b : wr.heap[w.heap.size + 1]? = some (.cells (spC s) 58)
  c : wr.heap[w.heap.size + 1 + 1]? = some (.cells zeroM 87)
  m : Mod noB w wr

set_option maxRecDepth 100000 in
set_option maxHeartbeats 2000000 in
theorem run_any (ao : Option Addr) (cap : Nat) (d : Dye) (oo : Option Addr) (oc : Nat) (r : Nat → Int) (s : Int × Int) (w : World) (hn5 : d.bl.length ≤ 5) (hr : RunB 10000 r) (hs : stintB s = true) :
    Calls Tryd.prog 52 #[mtV ao d.bl.length cap d oo oc r, spV s] w fun e w' => e = .returned (mtV ao d.bl.length cap d oo oc (runR d r s)) ∧ Mod noB w w' := by
  obtain ⟨s1, s2⟩ := s
  have hsb : 1 ≤ s1 ∧ s1 ≤ 1000 := by
    have : (1 ≤ s1 ∧ s1 ≤ 1000) ∧ 0 ≤ s2 ∧ s2 ≤ 100000 := by simpa [stintB, fromB, Bool.and_eq_true] using hs
    exact this.1
  have HI : Hold (RunI ao d.bl.length cap d oo oc r (s1, s2) w 0 (((w.alloc (.cells (mtC ao d.bl.length cap d oo oc r) 87)).alloc (.cells (spC (s1, s2)) 58)).alloc (.cells zeroM 87))) := ⟨by
    have hL := allocL_at [.cells (mtC ao d.bl.length cap d oo oc r) 87, .cells (spC (s1, s2)) 58, .cells zeroM 87] w
    exact ⟨hL 0 _ rfl, hL 1 _ rfl, hL 2 _ rfl, ((((Mod.refl _ _).alloc _).alloc _).alloc _)⟩⟩
  have HR := Hold.mk hr
  have HE : Hold (runTo r s1 d.bl.length = runR d r (s1, s2)) := ⟨rfl⟩
  clear hs hr
  go_enter Tryd.func52, Tryd.ntmps52
  go_wp2
  go_loopw [10] (fun i wr => ∃ k : Nat, k ≤ d.bl.length ∧ i = .int .i64 k ∧ RunI ao d.bl.length cap d oo oc r (s1, s2) w k wr) (fun i _ => d.bl.length - (intOf i).toNat)
  case atStart => exact ⟨0, Nat.zero_le _, rfl, HI.out⟩
  case round =>
    obtain ⟨k, hk, rfl, hI⟩ := hrel
    by_cases hlt : k < d.bl.length
    · obtain ⟨h0, h1⟩ := HR.out k (by omega)
      have ha := hI.a
      have hb := hI.b
      have hkk : runTo r s1 k k = r k := by simp [runTo]
      have c5 : wr.cell? ⟨w.heap.size, 5 + k, none⟩ = some (.int .i64 (r k)) := by rw [cellsAt ha, mtC_at (by omega), hkk]
      have d0 := cellsAt hb 0
      have kf := cells_frozen ha (5 + k)
      have v1 : IntKind.i64.wrap (r k + s1) = r k + s1 := IntWalk.i64_in _ (by omega)
      have hki0 : (0 : Int) ≤ (k : Int) := by omega
      have hk5 : (k : Int) < 5 := by omega
      have HS : Hold (∀ W, Mod noB wr W → RunI ao d.bl.length cap d oo oc r (s1, s2) w (k + 1) (W.setCell ⟨w.heap.size, 5 + k, none⟩ (.int .i64 (r k + s1)))) := ⟨fun W h => by
        have hm : Mod (fun j => j = w.heap.size) W (W.setCell ⟨w.heap.size, 5 + k, none⟩ (.int .i64 (r k + s1))) := (Mod.refl (fun j => j = w.heap.size) W).setCell (p := ⟨w.heap.size, 5 + k, none⟩) (fun _ => rfl) _
        refine ⟨?_, hm.at (h.at hI.b id) (by omega), hm.at (h.at hI.c id) (by omega), (hI.m.trans h).then hm (fun i h1 h2 => by omega)⟩
        rw [setCell_at (h.at hI.a id), mtC_set _ (by omega)]
        simp only
        rw [runTo_step]⟩
      have FIN : Hold (∀ W', Mod noB wr W' → W'.cell? ⟨w.heap.size, 5 + k, none⟩ = some (.int .i64 (r k)) ∧ W'.cell? ⟨w.heap.size + 1, 0, none⟩ = some (.int .i64 s1) ∧ W'.frozen? ⟨w.heap.size, 5 + k, none⟩ = false) := ⟨fun W' h =>
        ⟨(cell_same (h.block _ (at_ltS ha) id) _).trans c5, cellsAt (h.at hb id) 0, cells_frozen (h.at ha id) _⟩⟩
      clear hI ha hb hkk c5 d0 kf
      go_wp2
      refine region_tailP 9 ⟨by decide, by kernel_rfl, by kernel_rfl, by kernel_rfl, by kernel_rfl, by kernel_rfl⟩ (by kernel_rfl) (fun W' => Mod noB wr W') ((Mod.refl _ _).drew) ?_
      simp only [strikeL, List.take_succ_cons, List.take_zero, List.drop_succ_cons, List.drop_zero, List.map_cons, List.map_nil, List.cons_append, List.nil_append, bareO]
      repeat
        (first
          | go_big_quiet_skip
          | (go_big_quiet_want
             go_simp
             first
               | go_big_quiet_on
               | (apply Exists.intro
                  refine ⟨fun W' hC => ?_, ?_⟩
                  · obtain ⟨q0, q1, q2⟩ := FIN.out W' hC
                    first
                      | with_reducible rfl
                      | (go_simp; first | rfl | exact ⟨rfl, rfl⟩)
                  go_big_quiet_on)
               | (refine ⟨⟨_, fun _ _ => rfl⟩, ?_⟩; go_big_quiet_on)))
      refine wpQuiet_nil ?_
      intro Wq hq
      obtain ⟨q0, q1, q2⟩ := FIN.out Wq hq
      have HQ := Hold.mk (HS.out Wq hq)
      clear hq
      gi_wp2
      go_wp2
      go_roundw
      case rel => exact ⟨k + 1, by omega, by go_num, HQ.out⟩
      case measure => simp [intOf]; omega
    · obtain rfl : k = d.bl.length := by omega
      have ha := hI.a
      have hc := hI.c
      have hm := hI.m
      simp only [HE.out] at ha
      have HV : Hold (mtV ao d.bl.length cap d oo oc (runR d r (s1, s2)) = .agg (mtC ao d.bl.length cap d oo oc (runR d r (s1, s2)))) := ⟨rfl⟩
      have HN := @mtC_info ao d.bl.length cap d oo oc (runR d r (s1, s2))
      generalize mtC ao d.bl.length cap d oo oc (runR d r (s1, s2)) = cs at *
      have HA := Hold.mk (And.intro ha (And.intro hc HN))
      have HM := Hold.mk hm
      clear ha hc hm hI HN
      go_wp2_with (first
        | (refine wpList_load_row rfl 87 (.tmp 2) rfl w.heap.size rfl 87 _ (0, 0) _ HA.out.1 Tryd.underlying87 rfl HA.out.2.2.1 ?_)
        | (refine wpList_store_row rfl 87 (.tmp 4) (.tmp 23) rfl (w.heap.size + 1 + 1) _ rfl rfl 87 _ HA.out.2.1 HA.out.2.2.1 HA.out.2.2.2.1 HA.out.2.2.2.2 ?_; rw [setRow_put HA.out.2.1]))
      have hg : (wr.putObj (w.heap.size + 1 + 1) (.cells cs 87)).heap[w.heap.size + 1 + 1]? = some (.cells cs 87) := World.putObj_heap_same (at_ltS HA.out.2.1)
      exact bodyPost_ret (results_cell_row (fn := Tryd.f52) rfl _ _ (w.heap.size + 1 + 1) 87 _ (0, 0) _ rfl hg Tryd.underlying87 rfl HA.out.2.2.1) rfl ⟨by rw [HV.out], HM.out.putObj (fun h => by omega) _⟩
end Go.Proofs.YtdncppempgpooaaDoor

/- isPlan; mount: a die on the press. -/
namespace Go.Proofs.YtdncppempgpooaaDoor
open Go.RowKit Go.Shelf

set_option maxHeartbeats 1000000 in
theorem isPlan1_any (b : Nat) (ao : Option Addr) (cap : Nat) (d : Dye) (x : Int) (w : World) (hn : d.bl.length ≤ 5) (hb : w.heap[b]? = some (.cells (dyC ao d.bl.length cap d) 24)) :
    Calls Tryd.prog 68 #[.int .i64 x, .pointer (some ⟨b, 0, none⟩)] w fun r w' => r = .returned (.bool (!fromB 0 (allS d) x)) ∧ Mod noB w w' := by
  have H1 := Hold.mk (fun w => allBlades_any ao cap d w hn)
  have H2 : Hold (∀ w, Calls Tryd.prog 41 #[.int .i64 0, .int .i64 (allS d), .int .i64 x] w fun e w' => e = .returned (.bool (fromB 0 (allS d) x)) ∧ Mod noB w w') := ⟨fun w => isFrom_any _ _ _ _⟩
  have c0 := cellsAt hb 0; have c1 := cellsAt hb 1; have c2 := cellsAt hb 2; have c3 := cellsAt hb 3
  generalize fromB 0 (allS d) x = s at *
  clear hb
  go_enter Tryd.func68, Tryd.ntmps68
  go_wp2_with (first
    | (go_at_call 69; refine (H1.out _).mono ?_; rintro e w1 ⟨rfl, hM⟩; have HM := Hold.mk hM; clear hM)
    | (go_at_call 41; refine (H2.out _).mono ?_; rintro e w1 ⟨rfl, hM⟩; have HM := Hold.mk (HM.out.trans hM); clear hM))
  go_ret
  exact ⟨rfl, HM.out⟩

set_option maxHeartbeats 1000000 in
theorem isPlan_any (ao : Option Addr) (cap : Nat) (d : Dye) (lo : Option Addr) (n lcap : Nat) (l : List (Int × Int)) (po : Option Addr) (pcap : Nat) (p : List Int) (w : World) (hn : d.bl.length ≤ 5) (hl : n = l.length) (hls : n ≤ 1000000) (hp : IntsAt w po p) :
    Calls Tryd.prog 48 #[dyV ao d.bl.length cap d, .slice lo n lcap, .slice po p.length pcap] w fun r w' => r = .returned (.bool (planB d l p)) ∧ Mod noB w w' := by
  have hsm := hp.small
  have hb := World.alloc_heap_new w (.cells (dyC ao d.bl.length cap d) 24)
  have HM0 := Hold.mk ((Mod.refl noB w).alloc (.cells (dyC ao d.bl.length cap d) 24))
  have H := Hold.mk (containsFuncN 0 po p pcap 68 #[.pointer (some ⟨w.heap.size, 0, none⟩)] (fun x => !fromB 0 (allS d) x) (w.alloc (.cells (dyC ao d.bl.length cap d) 24)) (by omega) (hp.mod ((Mod.refl _ _).alloc _)) enter68
    (fun e w1 h => isPlan1_any w.heap.size ao cap d e w1 hn (h.at hb id)))
  have hy : (p.length : Int) = max 0 ((l.length : Int) - 1) → Hold (planB d l p = !(p.any fun x => !fromB 0 (allS d) x)) := fun h => ⟨by rw [planB, decide_eq_true (by omega), Bool.true_and]; exact all_not _ _⟩
  have hno : ¬ (p.length : Int) = max 0 ((l.length : Int) - 1) → Hold (planB d l p = false) := fun h => ⟨by rw [planB, decide_eq_false (by omega), Bool.false_and]⟩
  rw [← hl] at hy hno
  clear hp hb hl
  generalize planB d l p = P at *
  by_cases h : (p.length : Int) = max 0 ((n : Int) - 1)
  · have he := hy h
    generalize (p.any fun x => !fromB 0 (allS d) x) = s at *
    clear hy hno
    by_cases h1 : 1 < n
    · have h1i : (1 : Int) < (n : Int) := by omega
      have ht : ((p.length : Int) == (n : Int) - 1) = true := by simp; omega
      clear h
      go_enter Tryd.func48, Tryd.ntmps48
      go_wp2_with (go_at_call 70; refine H.out.mono ?_; rintro e w1 ⟨rfl, hM⟩; have HM := Hold.mk hM; clear hM)
      go_ret
      exact ⟨by rw [he.out]; rfl, HM0.out.trans HM.out⟩
    · have h1i : ¬ (1 : Int) < (n : Int) := by omega
      have hp0 : p.length = 0 := by omega
      have hp1 := List.length_eq_zero_iff.1 hp0
      clear h hp0
      subst hp1
      go_enter Tryd.func48, Tryd.ntmps48
      go_wp2_with (go_at_call 70; refine H.out.mono ?_; rintro e w1 ⟨rfl, hM⟩; have HM := Hold.mk hM; clear hM)
      go_ret
      exact ⟨by rw [he.out]; rfl, HM0.out.trans HM.out⟩
  · have he := hno h
    clear hy hno H
    by_cases h1 : 1 < n
    · have h1i : (1 : Int) < (n : Int) := by omega
      have ht : ((p.length : Int) == (n : Int) - 1) = false := by simp; omega
      clear h
      go_enter Tryd.func48, Tryd.ntmps48
      go_wp2
      go_ret
      exact ⟨by rw [he.out] <;> rfl, HM0.out⟩
    · have h1i : ¬ (1 : Int) < (n : Int) := by omega
      have hp0 : p ≠ [] := fun e => by subst e; simp at h; omega
      have hp1 : ((p.length : Int) == 0) = false := by simp [hp0]
      clear h
      go_enter Tryd.func48, Tryd.ntmps48
      go_wp2
      go_ret
      exact ⟨by rw [he.out] <;> rfl, HM0.out⟩

theorem info83 : (Tryd.prog.info? 83).map (fun i => (i.zero, i.size, i.bytes)) = some (some (.slice none 0 0), 1, 24) := by kernel_rfl
theorem info78 : (Tryd.prog.info? 78).map (fun i => (i.zero, i.size, i.bytes)) = some (some (.agg #[.nilFunc, .nilFunc]), 2, 16) := by kernel_rfl
end Go.Proofs.YtdncppempgpooaaDoor

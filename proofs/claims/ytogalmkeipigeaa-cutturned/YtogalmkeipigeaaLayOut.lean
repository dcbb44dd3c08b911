/- layOut: the picture of a cut. -/
import Derived.Test.YtogalmkeipigeaaIsCut
import Derived.Test.YtogalmkeipigeaaFlood
import Derived.Test.YtogalmkeipigeaaArr
import Derived.Deep.RegionHeld3
import Derived.StillTailTactics
set_option linter.unusedSimpArgs false
set_option linter.unusedVariables false
namespace Go.Proofs.Ytogalmkeipigeaa
open Go.RowKit

theorem IntsAt.alloc {w : World} {ao : Option Addr} {zs : List Int} (h : IntsAt w ao zs) (o : Obj) : IntsAt (w.alloc o) ao zs := h.mono ((Below.refl _ w).alloc (Nat.le_refl _) o)
theorem cell_same {w w' : World} {b : Nat} (h : w'.heap[b]? = w.heap[b]?) (o : Nat) : w'.cell? ⟨b, o, none⟩ = w.cell? ⟨b, o, none⟩ := by simp only [World.cell?, h]
theorem IntsAt.drew {w : World} {ao : Option Addr} {zs : List Int} (h : IntsAt w ao zs) : IntsAt w.drew ao zs := h.mono (Below.refl _ w).drew

theorem four_blocks (w : World) (o1 o2 o3 o4 : Obj) :
    ((((w.alloc o1).alloc o2).alloc o3).alloc o4).drew.heap[w.heap.size]? = some o1 ∧ ((((w.alloc o1).alloc o2).alloc o3).alloc o4).drew.heap[w.heap.size + 1]? = some o2 ∧
    ((((w.alloc o1).alloc o2).alloc o3).alloc o4).drew.heap[w.heap.size + 1 + 1]? = some o3 ∧ ((((w.alloc o1).alloc o2).alloc o3).alloc o4).drew.heap[w.heap.size + 1 + 1 + 1]? = some o4 := by
  show (((((w.heap.push o1).push o2).push o3).push o4)[w.heap.size]? = some o1 ∧ ((((w.heap.push o1).push o2).push o3).push o4)[w.heap.size + 1]? = some o2 ∧
    ((((w.heap.push o1).push o2).push o3).push o4)[w.heap.size + 1 + 1]? = some o3 ∧ ((((w.heap.push o1).push o2).push o3).push o4)[w.heap.size + 1 + 1 + 1]? = some o4)
  refine ⟨?_, ?_, ?_, ?_⟩
  · rw [Array.getElem?_push, if_neg (by simp; try omega), Array.getElem?_push, if_neg (by simp; try omega), Array.getElem?_push, if_neg (by simp; try omega), Array.getElem?_push, if_pos rfl]
  · rw [Array.getElem?_push, if_neg (by simp; try omega), Array.getElem?_push, if_neg (by simp; try omega), Array.getElem?_push, if_pos (by simp)]
  · rw [Array.getElem?_push, if_neg (by simp), Array.getElem?_push, if_pos (by simp)]
  · rw [Array.getElem?_push, if_pos (by simp)]
/-- The cells whose numbers have been laid, when k have been. -/
def laidG (W : Nat) (zs : List Int) (k : Nat) (p : Int × Int) : Option Int :=
  if 0 ≤ p.1 ∧ p.1 < W ∧ 0 ≤ p.2 ∧ p.2.toNat * W + p.1.toNat < k then some (zs[p.2.toNat * W + p.1.toNat]?.getD 0) else none

theorem laidG_zero (W : Nat) (zs : List Int) : laidG W zs 0 = fun _ => none := by
  funext p
  unfold laidG
  rw [if_neg (by omega)]
theorem laid_empty {w : World} {mb W : Nat} {zs : List Int} (h : w.heap[mb]? = some (.map #[] 0)) : MapIs Try.prog 106 cellV w mb (laidG W zs 0) := by
  rw [laidG_zero]; exact ⟨#[], 0, h, by simp, by simp, fun a => ⟨by simp, fun _ => rfl⟩⟩

theorem laidG_succ {W : Nat} (hW : 0 < W) (zs : List Int) (k : Nat) : laidG W zs (k + 1) = fun p => if p = (((k % W : Nat) : Int), ((k / W : Nat) : Int)) then some (zs[k]?.getD 0) else laidG W zs k p := by
  funext p
  obtain ⟨x, y⟩ := p
  have hmod : k % W < W := Nat.mod_lt _ hW
  have hdm : k / W * W + k % W = k := by rw [Nat.mul_comm]; exact Nat.div_add_mod k W
  by_cases e : (x, y) = (((k % W : Nat) : Int), ((k / W : Nat) : Int))
  · rw [if_pos e]
    simp only [Prod.mk.injEq] at e
    obtain ⟨rfl, rfl⟩ := e
    unfold laidG
    simp only [Int.toNat_natCast]
    rw [hdm, if_pos ⟨Int.natCast_nonneg _, Int.ofNat_lt.2 hmod, Int.natCast_nonneg _, by omega⟩]
  · rw [if_neg e]
    unfold laidG
    by_cases h : 0 ≤ x ∧ x < W ∧ 0 ≤ y
    · obtain ⟨h1, h2, h3⟩ := h
      obtain ⟨x, rfl⟩ := Int.eq_ofNat_of_zero_le h1
      obtain ⟨y, rfl⟩ := Int.eq_ofNat_of_zero_le h3
      simp only [Int.toNat_natCast]
      have hx : x < W := by omega
      have hne : y * W + x ≠ k := fun h => by
        apply e
        have e1 : k % W = x := by rw [← h, Nat.mul_comm, Nat.mul_add_mod]; exact Nat.mod_eq_of_lt hx
        have e2 : k / W = y := by rw [← h, Nat.mul_comm, Nat.mul_add_div hW, Nat.div_eq_of_lt hx]; rfl
        rw [e1, e2]
      by_cases hlt : y * W + x < k
      · rw [if_pos ⟨by omega, by omega, by omega, by omega⟩, if_pos ⟨by omega, by omega, by omega, by omega⟩]
      · rw [if_neg (by omega), if_neg (by omega)]
    · rw [if_neg (fun h' => h ⟨h'.1, h'.2.1, h'.2.2.1⟩), if_neg (fun h' => h ⟨h'.1, h'.2.1, h'.2.2.1⟩)]

set_option maxRecDepth 100000 in
set_option maxHeartbeats 2000000 in
theorem layOut_any (W H : Nat) (hW : 1 ≤ W) (hW2 : W ≤ 12) (hH2 : H ≤ 12) (ao : Option Addr) (zs : List Int) (cap : Nat) (w : World) (hs : IntsAt w ao zs) (hne : zs ≠ []) (h0 : ∀ z ∈ zs, 0 ≤ z) (h39 : greatest zs < 40) :
    Calls Try.prog 42 #[cutV W H ao zs.length cap] w fun e w' => ∃ mb, e = .returned (.agg #[.int .i64 W, .int .i64 H, .int .i64 (greatest zs + 1), .map (some mb)]) ∧ Mod noB w w' ∧ MapIs Try.prog 106 cellV w' mb (laidG W zs zs.length) := by
  have hmm := @run_makeMap Try.prog
  have HN := Hold.mk (And.intro hne (And.intro h0 h39))
  have hg0 := greatest_nonneg zs
  have hs1 := hs.small
  have hI := (hs.alloc (.cells #[.int .i64 W, .int .i64 H, .slice ao zs.length cap] 24)).alloc (.cells #[.int .i64 0, .int .i64 0, .int .i64 0, .map none] 71)
  have hwr : IntKind.i64.wrap (greatest zs + 1) = greatest zs + 1 := IntWalk.i64_in _ (by omega)
  have HS := Hold.mk hs
  clear hne h0 hs
  go_enter Try.func42, Try.ntmps42
  go_wp2_with fail
  refine Code.wp_mono (Q := fun e a' w' => e = Exit.normal ∧ ∃ pb mb : Nat, pb ≠ mb ∧ w.heap.size + 2 ≤ pb ∧ w.heap.size + 2 ≤ mb ∧ Mod noB w w' ∧ w'.heap[w.heap.size]? = some (.cells #[.int .i64 W, .int .i64 H, .slice ao zs.length cap] 24) ∧
      w'.heap[w.heap.size + 1]? = some (.cells #[.int .i64 0, .int .i64 0, .int .i64 0, .map none] 71) ∧ w'.heap[pb]? = some (.cells #[.int .i64 W, .int .i64 H, .int .i64 (greatest zs + 1), .map (some mb)] 71) ∧ MapIs Try.prog 106 cellV w' mb (laidG W zs 0) ∧ a' = { tmps := #[cutV W H ao zs.length cap, .pointer (some ⟨w.heap.size, 0, none⟩), .pointer (some ⟨w.heap.size + 1, 0, none⟩), .pointer (some ⟨pb, 0, none⟩), undef, undef, .pointer (some ⟨w.heap.size, 0, none⟩), .int .i64 W, .pointer (some ⟨w.heap.size, 1, none⟩), .int .i64 H,
      .pointer (some ⟨w.heap.size, 2, none⟩), .slice ao zs.length cap, .int .i64 (greatest zs), .int .i64 (greatest zs + 1), .map (some mb), .agg #[.int .i64 W, .int .i64 H, .int .i64 (greatest zs + 1), .map (some mb)], undef, undef, undef, undef, undef, undef, undef, undef, undef, undef, undef, undef, undef, undef, undef, undef, undef, undef, undef, undef, undef, undef], defers := [] }) ?_ ?_
  · rintro e a' w' ⟨rfl, pb, mb, hne, hpb, hmb, hM, hcb, hrb, hpp, hmp, rfl⟩
    have k2 : w'.cell? ⟨w.heap.size, 2, none⟩ = some (.slice ao zs.length cap) := by simp [World.cell?, hcb]
    have HH := Hold.mk (And.intro hne (And.intro hM (And.intro hcb (And.intro hrb (And.intro hpp hmp)))))
    clear hmm hne hM hcb hrb hpp hmp hI
    go_wp2
    go_loopw [19] (fun i wr => ∃ k : Nat, k ≤ zs.length ∧ i = .int .i64 k ∧ MapIs Try.prog 106 cellV wr mb (laidG W zs k) ∧ Mod (fun b => b = mb) w' wr) (fun i _ => zs.length - (intOf i).toNat)
    case atStart => exact ⟨0, Nat.zero_le _, rfl, HH.out.2.2.2.2.2, Mod.refl _ _⟩
    case round =>
      obtain ⟨k, hk, rfl, hmp, hmr⟩ := hrel
      obtain ⟨hne, hM, hcb, hrb, hpp, _⟩ := HH.out
      have hcb' := hmr.at hcb (by omega)
      have hpp' := hmr.at hpp hne
      by_cases hlt : k < zs.length
      · obtain ⟨b, off, rfl, hbl, hc⟩ := HS.out.lies HN.out.1
        obtain ⟨z, hz⟩ : ∃ z, z = zs[k]?.getD 0 := ⟨_, rfl⟩
        have hcell : wr.cell? ⟨b, off + k, none⟩ = some (.int .i64 z) := by
          rw [cell_same (hmr.block b (by have := hM.size; omega) (by omega)), cell_same (hM.block b hbl id), hc k hlt, hz]
        have Hz := Hold.mk hz
        have c0 : wr.cell? ⟨w.heap.size, 0, none⟩ = some (.int .i64 W) := by simp [World.cell?, hcb']
        have c3 : wr.cell? ⟨pb, 3, none⟩ = some (.map (some mb)) := by simp [World.cell?, hpp']
        have b1 : (0 : Int) ≤ (k : Int) % (W : Int) := Int.emod_nonneg _ (by omega)
        have b2 : (k : Int) % (W : Int) < 12 := by have := Int.emod_lt_of_pos (k : Int) (b := (W : Int)) (by omega); omega
        have b3 : (0 : Int) ≤ (k : Int) / (W : Int) := Int.ediv_nonneg (by omega) (by omega)
        have b4 : (k : Int) / (W : Int) ≤ 1000000 := Int.le_trans (Int.ediv_le_self _ (by omega)) (by omega)
        obtain ⟨kl, hkl⟩ := key106 (p := ((k : Int) % (W : Int), (k : Int) / (W : Int))) (wf64_of (by simp only; omega) (by simp only; omega)) (wf64_of (by simp only; omega) (by simp only; omega))
        have hmd : MapIs Try.prog 106 cellV wr.drew mb (laidG W zs k) := hmp.same rfl
        obtain ⟨o, hst, hm2⟩ := hmd.store law106 cellV_inj hkl Try.underlying69 z
        dsimp only [cellV] at hst
        have HM2 := Hold.mk (And.intro hm2 (And.intro hmr (And.intro hcb' hpp')))
        have hWpos : (0 : Int) < (W : Int) := by omega
        have hW0 : ¬ (W = 0) := by omega
        have htm : (k : Int).tmod (W : Int) = (k : Int) % (W : Int) := Int.tmod_eq_emod_of_nonneg (by omega)
        have htd : (k : Int).tdiv (W : Int) = (k : Int) / (W : Int) := Int.tdiv_eq_ediv_of_nonneg (by omega)
        have hwq := IntWalk.i64_in ((k : Int) / (W : Int)) (by omega)
        clear hz hc hm2 hmd hmp hmr hkl hcb' hpp' hne hM hcb hrb hpp
        go_wp2
        go_still_tail 12, (by kernel_rfl)
        change wpList _ _ _ _ _ wr.drew
        generalize hwd : wr.drew = wd at *
        go_wp2
        go_roundw
        case rel =>
          obtain ⟨hm2, hmr, _, _⟩ := HM2.out
          refine ⟨k + 1, by omega, by go_num, ?_, ?_⟩
          · rw [laidG_succ (by omega)]
            rw [← Hz.out]
            exact hm2
          · rw [← hwd]
            exact (hmr.drew).putObj (fun _ => rfl) _
        case measure => simp [intOf]; omega
      · obtain rfl : k = zs.length := by omega
        have hrr := hmr.at hrb (by omega)
        have p0 : wr.cell? ⟨pb, 0, none⟩ = some (.int .i64 W) := by simp [World.cell?, hpp']
        have p1 : wr.cell? ⟨pb, 1, none⟩ = some (.int .i64 H) := by simp [World.cell?, hpp']
        have p2 : wr.cell? ⟨pb, 2, none⟩ = some (.int .i64 (greatest zs + 1)) := by simp [World.cell?, hpp']
        have p3 : wr.cell? ⟨pb, 3, none⟩ = some (.map (some mb)) := by simp [World.cell?, hpp']
        have r0 : wr.cell? ⟨w.heap.size + 1, 0, none⟩ = some (.int .i64 0) := by simp [World.cell?, hrr]
        have r1 : wr.cell? ⟨w.heap.size + 1, 1, none⟩ = some (.int .i64 0) := by simp [World.cell?, hrr]
        have r2 : wr.cell? ⟨w.heap.size + 1, 2, none⟩ = some (.int .i64 0) := by simp [World.cell?, hrr]
        have r3 : wr.cell? ⟨w.heap.size + 1, 3, none⟩ = some (.map none) := by simp [World.cell?, hrr]
        have q0 := cells_frozen hrr 0
        have q1 := cells_frozen hrr 1
        have q2 := cells_frozen hrr 2
        have q3 := cells_frozen hrr 3
        have HF := Hold.mk (And.intro hmp (And.intro hmr (And.intro hM hrr)))
        clear hmp hmr hcb' hpp' hne hM hcb hrb hpp hrr
        go_wp2
        obtain ⟨hmp, hmr, hM, hrr⟩ := HF.out
        have t3 := setCell_at (setCell_at (setCell_at (setCell_at hrr 0 (.int .i64 W)) 1 (.int .i64 H)) 2 (.int .i64 (greatest zs + 1))) 3 (.map (some mb))
        have hMs : Mod (fun b => b = w.heap.size + 1) wr ((((wr.setCell ⟨w.heap.size + 1, 0, none⟩ (.int .i64 W)).setCell ⟨w.heap.size + 1, 1, none⟩ (.int .i64 H)).setCell ⟨w.heap.size + 1, 2, none⟩ (.int .i64 (greatest zs + 1))).setCell ⟨w.heap.size + 1, 3, none⟩ (.map (some mb))) :=
          ((((Mod.refl (fun b => b = w.heap.size + 1) wr).setCell (p := ⟨w.heap.size + 1, 0, none⟩) (fun _ => rfl) _).setCell (p := ⟨w.heap.size + 1, 1, none⟩) (fun _ => rfl) _).setCell (p := ⟨w.heap.size + 1, 2, none⟩) (fun _ => rfl) _).setCell (p := ⟨w.heap.size + 1, 3, none⟩) (fun _ => rfl) _
        refine bodyPost_ret (v := .agg #[.int .i64 W, .int .i64 H, .int .i64 (greatest zs + 1), .map (some mb)]) (results_cell_row (fn := Try.f42) rfl _ _ (w.heap.size + 1) 71 _ (0, 0) _ rfl t3 Try.underlying71 rfl (by kernel_rfl)) rfl ?_
        exact ⟨mb, rfl, (hM.then hmr (fun i h1 h2 => by omega)).then hMs (fun i h1 h2 => by omega), hmp.same (hMs.block mb hmp.lt (by omega))⟩
  · go_region_held3 (fun w' => w'.cell? ⟨w.heap.size, 0, none⟩ = some (.int .i64 W) ∧ w'.cell? ⟨w.heap.size, 1, none⟩ = some (.int .i64 H) ∧ w'.cell? ⟨w.heap.size, 2, none⟩ = some (.slice ao zs.length cap) ∧ IntsAt w' ao zs)
      (first | (dsimp only; refine ⟨?_, ?_, ?_, ?_⟩ <;> first | exact hI.drew | assumption | exact IntsAt.alloc (by assumption) _ | exact IntsAt.alloc hI.drew _ | exact IntsAt.alloc (IntsAt.alloc hI.drew _) _ | exact (IntsAt.alloc hI _).drew | (go_keep; done)) | (refine ⟨?_, ?_, ?_, ?_⟩ <;> first | exact hI.drew | assumption | exact IntsAt.alloc (by assumption) _ | exact IntsAt.alloc hI.drew _ | exact IntsAt.alloc (IntsAt.alloc hI.drew _) _ | (go_keep; done)))
      (first
        | (go_at_call 63; refine (max_any _ zs _ _ (by first | exact hI.drew | exact (hI.alloc _).drew | exact ((hI.alloc _).alloc _).drew) HN.out.2.1 HN.out.1).mono ?_; rintro e w' ⟨rfl, rfl⟩))

    all_goals
      first
        | exact ⟨rfl, w.heap.size + 1 + 1, w.heap.size + 1 + 1 + 1, by omega, by omega, by omega, ((((((Mod.refl noB w).alloc _).alloc _).alloc _).alloc _).drew), (four_blocks _ _ _ _ _).1, (four_blocks _ _ _ _ _).2.1, (four_blocks _ _ _ _ _).2.2.1, laid_empty (four_blocks _ _ _ _ _).2.2.2, rfl⟩
        | exact ⟨rfl, w.heap.size + 1 + 1 + 1, w.heap.size + 1 + 1, by omega, by omega, by omega, ((((((Mod.refl noB w).alloc _).alloc _).alloc _).alloc _).drew), (four_blocks _ _ _ _ _).1, (four_blocks _ _ _ _ _).2.1, (four_blocks _ _ _ _ _).2.2.2, laid_empty (four_blocks _ _ _ _ _).2.2.1, rfl⟩
        | (rw [hwr]; exact ⟨rfl, w.heap.size + 1 + 1, w.heap.size + 1 + 1 + 1, by omega, by omega, by omega, ((((((Mod.refl noB w).alloc _).alloc _).alloc _).alloc _).drew), (four_blocks _ _ _ _ _).1, (four_blocks _ _ _ _ _).2.1, (four_blocks _ _ _ _ _).2.2.1, laid_empty (four_blocks _ _ _ _ _).2.2.2, rfl⟩)
        | (rw [hwr]; exact ⟨rfl, w.heap.size + 1 + 1 + 1, w.heap.size + 1 + 1, by omega, by omega, by omega, ((((((Mod.refl noB w).alloc _).alloc _).alloc _).alloc _).drew), (four_blocks _ _ _ _ _).1, (four_blocks _ _ _ _ _).2.1, (four_blocks _ _ _ _ _).2.2.2, laid_empty (four_blocks _ _ _ _ _).2.2.1, rfl⟩)
end Go.Proofs.Ytogalmkeipigeaa

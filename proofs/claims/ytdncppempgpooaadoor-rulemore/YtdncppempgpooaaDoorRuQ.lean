/- mount: a valid die, and valid stints. -/
import Derived.Test.YtdncppempgpooaaDoorRuP
set_option linter.unusedSimpArgs false
set_option linter.unusedVariables false
namespace Go.Proofs.YtdncppempgpooaaDoor
open Go.RowKit Go.Shelf

def MountOut (ao : Option Addr) (cap : Nat) (d : Dye) (w : World) (e : Ending) (w' : World) : Prop :=
  ∃ oo oc, e = .returned (.tuple #[mtV ao d.bl.length cap d oo oc zeroR, .int .i64 0]) ∧ OffsAt w'.heap.size w' oo d.bl ∧ Mod noB w w'

def Own3 (w : World) (ao : Option Addr) (cap : Nat) (d : Dye) (W : World) : Prop :=
  W.heap[w.heap.size]? = some (.cells (dyC ao d.bl.length cap d) 24) ∧ W.heap[w.heap.size + 1]? = some (.cells zeroM 87) ∧ Mod noB w W
theorem own3 (w : World) (ao : Option Addr) (cap : Nat) (d : Dye) : Kept ((w.alloc (.cells (dyC ao d.bl.length cap d) 24)).alloc (.cells zeroM 87)) (Own3 w ao cap d) :=
  fun W' h => ⟨at_allocL [_, _] h 0 _ rfl, at_allocL [_, _] h 1 _ rfl, (allocL_mod noB [_, _] w).trans h⟩

set_option maxRecDepth 100000 in
set_option maxHeartbeats 8000000 in
theorem mount_ok (B : Nat) (ao : Option Addr) (cap : Nat) (d : Dye) (lo : Option Addr) (lcap : Nat) (l : List (Int × Int)) (w : World) (hB : B ≤ w.heap.size) (hs : BladesAt B w ao d.bl) (hl : StintsAt B w lo l) (h1 : dieB d = true) (h2 : stintsB l = true) :
    Calls Tryd.prog 47 #[dyV ao d.bl.length cap d, .slice lo l.length lcap] w (MountOut ao cap d w) := by
  have hsm := hs.small
  have hlm := hl.small
  obtain ⟨n1, n5⟩ := (dieB_parts h1).1
  have HF := Hold.mk (own3 w ao cap d)
  have hsz : ∀ W', Mod noB ((w.alloc (.cells (dyC ao d.bl.length cap d) 24)).alloc (.cells zeroM 87)) W' → w.heap.size + 2 ≤ W'.heap.size := fun W' h => by have := h.size; simp at this; omega
  have HSZ := Hold.mk hsz
  have H1 : Hold (∀ w1, Mod noB w w1 → Calls Tryd.prog 39 #[dyV ao d.bl.length cap d] w1 fun r w' => r = .returned (.bool true) ∧ Mod noB w1 w') := ⟨fun w1 h => by rw [← h1]; exact isDie_any B ao cap d w1 (Nat.le_trans hB h.size) (hs.low (Low.ofN h hB))⟩
  have H2 : Hold (∀ w1, Mod noB w w1 → Calls Tryd.prog 67 #[.slice lo l.length lcap] w1 fun r w' => r = .returned (.bool true) ∧ Mod noB w1 w') := ⟨fun w1 h => by
    rw [← h2]; exact areStints_any B lo lcap l w1 (Nat.le_trans hB h.size) (hl.low (Low.ofN h hB))⟩
  have HM := Hold.mk (allocL_mod noB [.cells (dyC ao d.bl.length cap d) 24, .cells zeroM 87] w)
  have HBL := Hold.mk (And.intro hs hB)
  clear hsz h1 h2 hs hl hB
  go_enter Tryd.func47, Tryd.ntmps47
  go_wp2_with (first
    | (go_at_call 39; refine (H1.out _ HM.out).mono ?_; rintro e w1 ⟨rfl, hM⟩; have HG := Hold.mk hM; have HM1 := Hold.mk (HF.out _ hM).2.2; clear hM)
    | (go_at_call 67; refine (H2.out _ HM1.out).mono ?_; rintro e w2 ⟨rfl, hM⟩; have HG2 := Hold.mk (HG.out.trans hM); have ha := (HF.out _ HG2.out).1; have d0 := cellsAt ha 0; have d1 := cellsAt ha 1; have d2 := cellsAt ha 2; have d3 := cellsAt ha 3; have hne : w.heap.size ≠ w2.heap.size := (by have := HSZ.out _ HG2.out; omega); have d4 : (w2.alloc (.cells #[.slice ao d.bl.length cap, .int .i64 d.bound, .int .i64 d.stop, .int .i64 d.bend, .slice none 0 0, .int .i64 0, .int .i64 0, .int .i64 0, .int .i64 0, .int .i64 0] 87)).cell? ⟨w.heap.size, 0, none⟩ = some (.slice ao d.bl.length cap) := (cell_same (Below.heap_alloc w2 _ _ (by have := HSZ.out _ HG2.out; omega)) _).trans d0; have HNE := Hold.mk hne; clear hM ha hne))
  have HI : Hold (MtI ao d.bl.length cap d w2.heap.size w 0 (w2.alloc (.cells #[.slice ao d.bl.length cap, .int .i64 d.bound, .int .i64 d.stop, .int .i64 d.bend, .slice none 0 0, .int .i64 0, .int .i64 0, .int .i64 0, .int .i64 0, .int .i64 0] 87))) := ⟨by
    have hh := HF.out _ HG2.out
    have hz := HSZ.out _ HG2.out
    refine ⟨⟨.slice none 0 0, [], World.alloc_heap_new w2 _, ⟨rfl, .inl ⟨rfl, rfl⟩⟩, rfl, fun j p b hp => by simp at hp⟩, (Below.heap_alloc w2 _ _ (by omega)).trans hh.2.1, hh.2.2.alloc _, by simp, by omega⟩⟩
  generalize w2.heap.size = mb at *
  clear d0 d1 d2 d3 d4 HG HG2 HF HSZ H1 H2 HM HM1 HNE
  go_loopw [22] (fun i wr => ∃ k : Nat, k ≤ d.bl.length ∧ i = .int .i64 k ∧ MtI ao d.bl.length cap d mb w k wr) (fun i _ => d.bl.length - (intOf i).toNat)
  case atStart => exact ⟨0, Nat.zero_le _, rfl, HI.out⟩
  case round =>
    obtain ⟨k, hk, rfl, hI⟩ := hrel
    by_cases hlt : k < d.bl.length
    · obtain ⟨x, hx⟩ : ∃ x, d.bl[k]? = some x := ⟨_, List.getElem?_eq_getElem hlt⟩
      obtain ⟨b, off, rfl, hb, q0, q1, q2, q3⟩ := (HBL.out.1.low (Low.ofN hI.m HBL.out.2)).blade hx
      have HX := Hold.mk hx
      have HI := Hold.mk hI
      have hbw : b < wr.heap.size := by have := hI.m.size; have := HBL.out.2; omega
      clear hI hx
      go_wp2_with fail
      obtain ⟨W1, hW1⟩ : ∃ W1, wr.alloc (.cells (blC x) 53) = W1 := ⟨_, rfl⟩
      rw [hW1]
      have hm1 : Mod noB wr W1 := by rw [← hW1]; exact (Mod.refl _ _).alloc _
      have hbb : W1.heap[wr.heap.size]? = some (.cells (blC x) 53) := by rw [← hW1]; exact World.alloc_heap_new _ _
      clear q0 q1 q2 q3 hW1
      obtain ⟨⟨v, ps, i1, i2, i3, i4⟩, ir, im, il1, il2⟩ := HI.out
      have j2 : W1.ownsRow (mb + 1) 78 2 v k (offL ps) := own2_same i2 (fun r hr => by
        obtain ⟨_, cur, h2⟩ := own2_block i2 hr
        exact hm1.block r (at_ltS h2) id)
      have hsz := hm1.size
      refine region_mount (ao := some ⟨b, off, none⟩) (n := d.bl.length) (cap := cap) (d := d) (base := mb + 1) (k := k) (mb := mb) (bb := wr.heap.size) (v := v) (xs := offL ps) (b := x) rfl rfl rfl (hm1.at i1 id) hbb j2 (by omega) (by omega) ?_
      intro vs w3 hR
      have HS := Hold.mk (MtI.step (hm1.at i1 id) j2 i3 (fun j p c hp hc => off_noB (i4 j p c hp hc) (Nat.le_refl _) hm1) (hm1.at ir id) (im.trans hm1) il2 (by omega) HX.out hR)
      clear hR i1 i2 i3 i4 ir im il1 il2 j2 hbb hm1 hsz
      simp only [List.foldl_cons, List.foldl_nil]
      go_wp2_with fail
      go_roundw
      case rel => exact ⟨k + 1, by omega, by go_num, HS.out⟩
      case measure => simp [intOf]; omega
    · obtain rfl : k = d.bl.length := by omega
      obtain ⟨oo, oc, hm, hO⟩ := hI.offs n1 n5
      have hr := hI.r
      have hM := hI.m
      have hl2 := hI.lt.2
      have hv : Hold (mtV ao d.bl.length cap d oo oc zeroR = .agg (mtD ao d.bl.length cap d (.slice oo d.bl.length oc))) := ⟨rfl⟩
      have hi : (Tryd.prog.info? 87).map (·.size) = some (mtD ao d.bl.length cap d (.slice oo d.bl.length oc)).size := (by show _ = some 10; kernel_rfl)
      have h10 : zeroM.size = (mtD ao d.bl.length cap d (.slice oo d.bl.length oc)).size := rfl
      have hone : (mtD ao d.bl.length cap d (.slice oo d.bl.length oc)).all (·.oneCell') = true := by simp [Value.oneCell']
      generalize mtD ao d.bl.length cap d (.slice oo d.bl.length oc) = cs at *
      have HA := Hold.mk (And.intro hm (And.intro hr (And.intro hi (And.intro h10 hone))))
      have HO := Hold.mk (And.intro hO (And.intro hM hl2))
      clear hm hr hi h10 hone hO hM hI hl2
      go_wp2_with (first
        | (refine wpList_load_row rfl 87 (.tmp 6) rfl mb rfl 87 _ (0, 0) _ HA.out.1 Tryd.underlying87 rfl HA.out.2.2.1 ?_)
        | (refine wpList_store_row rfl 87 (.tmp 4) (.tmp 34) rfl (w.heap.size + 1) _ rfl rfl 87 _ HA.out.2.1 HA.out.2.2.1 HA.out.2.2.2.1 HA.out.2.2.2.2 ?_; rw [setRow_put HA.out.2.1]))
      have hg : (wr.putObj (w.heap.size + 1) (.cells cs 87)).heap[w.heap.size + 1]? = some (.cells cs 87) := World.putObj_heap_same (at_ltS HA.out.2.1)
      refine bodyPost_ret (results_mount rfl rfl hg HA.out.2.2.1) rfl ⟨oo, oc, by rw [hv.out]; rfl, ?_, HO.out.2.1.putObj (fun h => by omega) _⟩
      exact HO.out.1 _ ((Mod.refl (fun j => j = w.heap.size + 1) wr).putObj (fun _ => rfl) _)
end Go.Proofs.YtdncppempgpooaaDoor

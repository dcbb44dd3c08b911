/- Proof. -/
import Derived.Test.YtdncppempgpooaaDoorRuT
set_option linter.unusedSimpArgs false
set_option linter.unusedVariables false
namespace Go.Proofs.YtdncppempgpooaaDoor
open Go.RowKit Go.Shelf

def spanL (L : List (Int × Int)) : List Value := L.flatMap fun x => [Value.int .i64 x.1, Value.int .i64 x.2]
def ProofOut (v : List (Int × Int) × List Int × Int) (w : World) (e : Ending) (w' : World) : Prop :=
  ∃ vR vB, e = .returned (.tuple #[vR, vB, .int .i64 v.2.2]) ∧ w'.ownsRow w.heap.size 28 2 vR v.1.length (spanL v.1) ∧ w'.ownsRow w.heap.size 3 1 vB v.2.1.length (v.2.1.map (Value.int .i64)) ∧ Mod noB w w'
theorem proof_nil {m : Int} {w w' : World} (h : Mod noB w w') : ProofOut ([], [], m) w (.returned (.tuple #[.slice none 0 0, .slice none 0 0, .int .i64 m])) w' :=
  ⟨_, _, rfl, ⟨rfl, .inl ⟨rfl, rfl⟩⟩, ⟨rfl, .inl ⟨rfl, rfl⟩⟩, h⟩

theorem go_ret456 {fn : Func} {Q : Ending → World → Prop} {tmps : Array Value} {w : World} (hr : fn.results = #[.tmp 4, .tmp 5, .tmp 6]) (h : Q (.returned (.tuple #[tmps.getD 4 undef, tmps.getD 5 undef, tmps.getD 6 undef])) w) : bodyPost Tryd.prog fn Q .ret { tmps := tmps, defers := [] } w :=
  bodyPost_ret (v := .tuple #[tmps.getD 4 undef, tmps.getD 5 undef, tmps.getD 6 undef]) (by simp [results, hr, go_sem]) rfl h

set_option maxRecDepth 100000 in
set_option maxHeartbeats 4000000 in
theorem proof_any (B : Nat) (ao : Option Addr) (cap : Nat) (d : Dye) (lo : Option Addr) (lcap : Nat) (l : List (Int × Int)) (w : World) (hI : InB B w ao d lo l) :
    Calls Tryd.prog 20 #[dyV ao d.bl.length cap d, .slice lo l.length lcap] w (ProofOut (proofE d l) w) := by
  have hsm := hI.st.small
  have HM0 := Hold.mk ((Mod.refl noB w).alloc (.cells (dyC ao d.bl.length cap d) 24))
  have HI := Hold.mk hI
  cases h : (dieB d && stintsB l) with
  | false =>
    have HC := Hold.mk (mount_bad B ao cap d lo lcap l (w.alloc (.cells (dyC ao d.bl.length cap d) 24)) (by have := hI.le; simp; omega) (hI.mod ((Mod.refl _ _).alloc _)).bl (hI.mod ((Mod.refl _ _).alloc _)).st h)
    have hb : mountBad d l = 1 ∨ mountBad d l = 2 := by unfold mountBad; split <;> simp
    have he : Hold (proofE d l = ([], [], mountBad d l)) := ⟨by
      unfold proofE mountBad
      cases h1 : dieB d with
      | false => simp
      | true => rw [h1, Bool.true_and] at h; simp [h]⟩
    generalize mountBad d l = m at *
    generalize proofE d l = FE at *
    have hn : (m != 0) = true := by rcases hb with rfl | rfl <;> rfl
    clear hI h hb
    go_enter Tryd.func20, Tryd.ntmps20
    go_wp2_with (go_at_call 47; refine HC.out.mono ?_; rintro e w1 ⟨rfl, hM⟩; have HM := Hold.mk hM; clear hM)
    refine go_ret456 rfl ?_
    rw [he.out]
    exact proof_nil ((HM0.out.trans HM.out).alloc _)
  | true =>
    simp only [Bool.and_eq_true] at h
    obtain ⟨h1, h2⟩ := h
    have HC := Hold.mk (mount_ok B ao cap d lo lcap l (w.alloc (.cells (dyC ao d.bl.length cap d) 24)) (by have := hI.le; simp; omega) (hI.mod ((Mod.refl _ _).alloc _)).bl (hI.mod ((Mod.refl _ _).alloc _)).st h1 h2)
    have HMN : Hold (∀ (w1 : World) (oo : Option Addr), Mod noB (w.alloc (.cells (dyC ao d.bl.length cap d) 24)) w1 → OffsAt w1.heap.size w1 oo d.bl → ∀ W, Mod noB w1 W → Mnt w1.heap.size W oo d ∧ StintsAt w1.heap.size W lo l) := ⟨fun w1 oo h hO W hW => by
      have hI1 := (hI.mod (HM0.out.trans h))
      have hz := (HM0.out.trans h).size
      have hle := hI.le
      exact ⟨⟨hO.low (Low.ofN hW (Nat.le_refl _)), h1, hW.size, (hI1.mod hW).tab, by have := hI.one; omega⟩, (hI1.mod hW).st.mono (by omega)⟩⟩
    have H2 := Hold.mk h2
    cases hbe : bearsB d l with
    | false =>
      have he : Hold (proofE d l = ([], [], 4)) := ⟨by simp [proofE, h1, h2, hbe]⟩
      have HB : Hold (∀ (w1 : World) (oo : Option Addr) (oc : Nat), Mod noB (w.alloc (.cells (dyC ao d.bl.length cap d) 24)) w1 → OffsAt w1.heap.size w1 oo d.bl → ∀ W, Mod noB w1 W → Calls Tryd.prog 54 #[mtV ao d.bl.length cap d oo oc zeroR, .slice lo l.length lcap] W fun e w' => e = .returned (.bool false) ∧ Mod noB W w') := ⟨fun w1 oo oc h hO W hW => by
        have := HMN.out w1 oo h hO W hW
        rw [← hbe]; exact bears_any w1.heap.size ao cap d oo oc lo lcap l W this.1 this.2 h2⟩
      generalize proofE d l = FE at *
      clear hI h1 h2 hbe
      go_enter Tryd.func20, Tryd.ntmps20
      go_wp2_with (first
        | (go_at_call 47; refine HC.out.mono ?_; rintro e w1 ⟨oo, oc, rfl, hO, hM⟩; have HO := Hold.mk (And.intro hM hO); clear hM hO)
        | (go_at_call 54; refine (HB.out w1 oo oc HO.out.1 HO.out.2 _ ((Mod.refl _ _).alloc _)).mono ?_; rintro e w2 ⟨rfl, hM⟩; have HM := Hold.mk (HM0.out.trans (HO.out.1.trans (((Mod.refl noB w1).alloc _).trans hM))); clear hM))
      refine go_ret456 rfl ?_
      rw [he.out]
      exact proof_nil HM.out
    | true =>
      have he : Hold (proofE d l = ((rowsR d 0 0 zeroR l).map fun x => (Int.ofNat x.1.1, Int.ofNat x.1.2), (rowsR d 0 0 zeroR l).map fun x => Int.ofNat x.2, 0)) := ⟨by simp [proofE, h1, h2, hbe]⟩
      have HB : Hold (∀ (w1 : World) (oo : Option Addr) (oc : Nat), Mod noB (w.alloc (.cells (dyC ao d.bl.length cap d) 24)) w1 → OffsAt w1.heap.size w1 oo d.bl → ∀ W, Mod noB w1 W → Calls Tryd.prog 54 #[mtV ao d.bl.length cap d oo oc zeroR, .slice lo l.length lcap] W fun e w' => e = .returned (.bool true) ∧ Mod noB W w') := ⟨fun w1 oo oc h hO W hW => by
        have := HMN.out w1 oo h hO W hW
        rw [← hbe]; exact bears_any w1.heap.size ao cap d oo oc lo lcap l W this.1 this.2 h2⟩
      have HR : Hold (∀ (w1 : World) (oo : Option Addr) (oc : Nat), Mod noB (w.alloc (.cells (dyC ao d.bl.length cap d) 24)) w1 → OffsAt w1.heap.size w1 oo d.bl → ∀ W, Mod noB w1 W → Calls Tryd.prog 55 #[mtV ao d.bl.length cap d oo oc zeroR, .slice lo l.length lcap] W (RowsOut d l W)) := ⟨fun w1 oo oc h hO W hW => by
        have := HMN.out w1 oo h hO W hW
        exact rows_any w1.heap.size ao cap d oo oc lo lcap l W this.1 this.2 h2⟩
      generalize proofE d l = FE at *
      clear hI h1 h2 hbe
      go_enter Tryd.func20, Tryd.ntmps20
      go_wp2_with (first
        | (go_at_call 47; refine HC.out.mono ?_; rintro e w1 ⟨oo, oc, rfl, hO, hM⟩; have HO := Hold.mk (And.intro hM hO); have hbx := World.alloc_heap_new w1 (.cells (mtC ao d.bl.length cap d oo oc zeroR) 87); have HX := Hold.mk hbx; clear hM hO hbx)
        | (go_at_call 54; refine (HB.out w1 oo oc HO.out.1 HO.out.2 _ ((Mod.refl _ _).alloc _)).mono ?_; rintro e w2 ⟨rfl, hM⟩; have HM := Hold.mk (((Mod.refl noB w1).alloc (.cells (mtC ao d.bl.length cap d oo oc zeroR) 87)).trans hM); obtain ⟨c0, c1, c2, c3, c4, c5, c6, c7, c8, c9⟩ := mt_cells (hM.at HX.out id); clear hM)
        | (go_at_call 55; refine (HR.out w1 oo oc HO.out.1 HO.out.2 _ HM.out).mono ?_; rintro e w3 ⟨vR, vB, rfl, o1, o2, hM⟩
           have HW := Hold.mk (And.intro o1 (And.intro o2 (HM0.out.trans (HO.out.1.trans (HM.out.trans hM)))))
           have HZ := Hold.mk (HM0.out.trans (HO.out.1.trans HM.out)).size
           obtain ⟨ao1, cap1, rfl⟩ := own_form o1
           obtain ⟨ao2, cap2, rfl⟩ := own_form o2
           clear hM o1 o2 c0 c1 c2 c3 c4 c5 c6 c7 c8 c9))
      refine go_ret456 rfl ?_
      rw [he.out]
      obtain ⟨o1, o2, hm⟩ := HW.out
      refine ⟨_, _, rfl, ?_, ?_, hm⟩
      · have e1 : spanL ((rowsR d 0 0 zeroR l).map fun x => (Int.ofNat x.1.1, Int.ofNat x.1.2)) = rowCells (rowsR d 0 0 zeroR l) := by
          simp only [spanL, rowCells, List.flatMap_map]; rfl
        rw [e1, List.length_map]
        exact own_mono o1 HZ.out
      · have e2 : ((rowsR d 0 0 zeroR l).map fun x => Int.ofNat x.2).map (Value.int .i64) = rowInts (rowsR d 0 0 zeroR l) := by
          simp only [rowInts, List.map_map]; rfl
        rw [e2, List.length_map]
        exact own_mono o2 HZ.out
end Go.Proofs.YtdncppempgpooaaDoor

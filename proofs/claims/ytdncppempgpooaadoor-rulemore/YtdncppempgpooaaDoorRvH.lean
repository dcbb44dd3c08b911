/- Plan. -/
import Derived.Test.YtdncppempgpooaaDoorRuV
import Derived.Test.YtdncppempgpooaaDoorRvG
set_option linter.unusedSimpArgs false
set_option linter.unusedVariables false
namespace Go.Proofs.YtdncppempgpooaaDoor
open Go.RowKit Go.Shelf

def PlanOut (v : List Int × Int × Int) (w : World) (e : Ending) (w' : World) : Prop :=
  ∃ a1 k1, e = .returned (.tuple #[.slice a1 v.1.length k1, .int .i64 v.2.1, .int .i64 v.2.2]) ∧ IntsAt w' a1 v.1 ∧ On3 w' a1 ∧ (a1 = none → k1 = 0) ∧ Mod noB w w'
theorem plan_nil {m : Int} {w w' : World} (h : Mod noB w w') : PlanOut ([], 0, m) w (.returned (.tuple #[.slice none 0 0, .int .i64 0, .int .i64 m])) w' :=
  ⟨none, 0, rfl, ⟨fun h => absurd rfl h, by simp⟩, fun b off x e => (by cases e), fun _ => rfl, h⟩

set_option maxRecDepth 100000 in
set_option maxHeartbeats 4000000 in
theorem plan_any (B : Nat) (ao : Option Addr) (cap : Nat) (d : Dye) (lo : Option Addr) (lcap : Nat) (l : List (Int × Int)) (w : World) (hI : InB B w ao d lo l) :
    Calls Tryd.prog 25 #[dyV ao d.bl.length cap d, .slice lo l.length lcap] w (PlanOut (planE d l) w) := by
  have hsm := hI.st.small
  have HM0 := Hold.mk ((Mod.refl noB w).alloc (.cells (dyC ao d.bl.length cap d) 24))
  have HI := Hold.mk hI
  cases h : (dieB d && stintsB l) with
  | false =>
    have HC := Hold.mk (mount_bad B ao cap d lo lcap l (w.alloc (.cells (dyC ao d.bl.length cap d) 24)) (by have := hI.le; simp; omega) (hI.mod ((Mod.refl _ _).alloc _)).bl (hI.mod ((Mod.refl _ _).alloc _)).st h)
    have hb : mountBad d l = 1 ∨ mountBad d l = 2 := by unfold mountBad; split <;> simp
    have he : Hold (planE d l = ([], 0, mountBad d l)) := ⟨by
      unfold planE mountBad
      cases h1 : dieB d with
      | false => simp
      | true => rw [h1, Bool.true_and] at h; simp [h]⟩
    generalize mountBad d l = m at *
    generalize planE d l = FE at *
    have hn : (m != 0) = true := by rcases hb with rfl | rfl <;> rfl
    clear hI h hb
    go_enter Tryd.func25, Tryd.ntmps25
    go_wp2_with (go_at_call 47; refine HC.out.mono ?_; rintro e w1 ⟨rfl, hM⟩; have HM := Hold.mk hM; clear hM)
    refine go_ret456 rfl ?_
    rw [he.out]
    exact plan_nil ((HM0.out.trans HM.out).alloc _)
  | true =>
    simp only [Bool.and_eq_true] at h
    obtain ⟨h1, h2⟩ := h
    have HC := Hold.mk (mount_ok B ao cap d lo lcap l (w.alloc (.cells (dyC ao d.bl.length cap d) 24)) (by have := hI.le; simp; omega) (hI.mod ((Mod.refl _ _).alloc _)).bl (hI.mod ((Mod.refl _ _).alloc _)).st h1 h2)
    have HMN : Hold (∀ (w1 : World) (oo : Option Addr), Mod noB (w.alloc (.cells (dyC ao d.bl.length cap d) 24)) w1 → OffsAt w1.heap.size w1 oo d.bl → ∀ W, Mod noB w1 W → Mnt w1.heap.size W oo d ∧ StintsAt w1.heap.size W lo l) := ⟨fun w1 oo h hO W hW => by
      have hI1 := (hI.mod (HM0.out.trans h))
      have hz := (HM0.out.trans h).size
      have hle := hI.le
      exact ⟨⟨hO.low (Low.ofN hW (Nat.le_refl _)), h1, hW.size, (hI1.mod hW).tab, by have := hI.one; omega⟩, (hI1.mod hW).st.mono (by omega)⟩⟩
    have H2 := Hold.mk h2
    cases hbe : bearsB d l with
    | false =>
      have he : Hold (planE d l = ([], 0, 4)) := ⟨by simp [planE, h1, h2, hbe]⟩
      have HB : Hold (∀ (w1 : World) (oo : Option Addr) (oc : Nat), Mod noB (w.alloc (.cells (dyC ao d.bl.length cap d) 24)) w1 → OffsAt w1.heap.size w1 oo d.bl → ∀ W, Mod noB w1 W → Calls Tryd.prog 54 #[mtV ao d.bl.length cap d oo oc zeroR, .slice lo l.length lcap] W fun e w' => e = .returned (.bool false) ∧ Mod noB W w') := ⟨fun w1 oo oc h hO W hW => by
        have := HMN.out w1 oo h hO W hW
        rw [← hbe]; exact bears_any w1.heap.size ao cap d oo oc lo lcap l W this.1 this.2 h2⟩
      generalize planE d l = FE at *
      clear hI h1 h2 hbe
      go_enter Tryd.func25, Tryd.ntmps25
      go_wp2_with (first
        | (go_at_call 47; refine HC.out.mono ?_; rintro e w1 ⟨oo, oc, rfl, hO, hM⟩; have HO := Hold.mk (And.intro hM hO); clear hM hO)
        | (go_at_call 54; refine (HB.out w1 oo oc HO.out.1 HO.out.2 _ ((Mod.refl _ _).alloc _)).mono ?_; rintro e w2 ⟨rfl, hM⟩; have HM := Hold.mk (HM0.out.trans (HO.out.1.trans (((Mod.refl noB w1).alloc _).trans hM))); clear hM))
      refine go_ret456 rfl ?_
      rw [he.out]
      exact plan_nil HM.out
    | true =>
      have he : Hold (planE d l = ((startR d l).2.map Int.ofNat, (startR d l).1, 0)) := ⟨planE_start h1 h2 hbe⟩
      have HB : Hold (∀ (w1 : World) (oo : Option Addr) (oc : Nat), Mod noB (w.alloc (.cells (dyC ao d.bl.length cap d) 24)) w1 → OffsAt w1.heap.size w1 oo d.bl → ∀ W, Mod noB w1 W → Calls Tryd.prog 54 #[mtV ao d.bl.length cap d oo oc zeroR, .slice lo l.length lcap] W fun e w' => e = .returned (.bool true) ∧ Mod noB W w') := ⟨fun w1 oo oc h hO W hW => by
        have := HMN.out w1 oo h hO W hW
        rw [← hbe]; exact bears_any w1.heap.size ao cap d oo oc lo lcap l W this.1 this.2 h2⟩
      have HR : Hold (∀ (w1 : World) (oo : Option Addr) (oc : Nat), Mod noB (w.alloc (.cells (dyC ao d.bl.length cap d) 24)) w1 → OffsAt w1.heap.size w1 oo d.bl → ∀ W, Mod noB w1 W → Calls Tryd.prog 56 #[mtV ao d.bl.length cap d oo oc zeroR, .slice lo l.length lcap] W fun e w' => ∃ x : Crs, e = .returned (crV x) ∧ CrV (startR d l) (crV x) w' ∧ Mod noB W w') := ⟨fun w1 oo oc h hO W hW => by
        have := HMN.out w1 oo h hO W hW
        exact cheapest_any w1.heap.size ao cap d oo oc lo lcap l W this.1 this.2 h2 hbe⟩
      generalize planE d l = FE at *
      clear hI h1 h2 hbe
      go_enter Tryd.func25, Tryd.ntmps25
      go_wp2_with (first
        | (go_at_call 47; refine HC.out.mono ?_; rintro e w1 ⟨oo, oc, rfl, hO, hM⟩; have HO := Hold.mk (And.intro hM hO); have hbx := World.alloc_heap_new w1 (.cells (mtC ao d.bl.length cap d oo oc zeroR) 87); have HX := Hold.mk hbx; clear hM hO hbx)
        | (go_at_call 54; refine (HB.out w1 oo oc HO.out.1 HO.out.2 _ ((Mod.refl _ _).alloc _)).mono ?_; rintro e w2 ⟨rfl, hM⟩; have HM := Hold.mk (((Mod.refl noB w1).alloc (.cells (mtC ao d.bl.length cap d oo oc zeroR) 87)).trans hM); obtain ⟨c0, c1, c2, c3, c4, c5, c6, c7, c8, c9⟩ := mt_cells (hM.at HX.out id); clear hM)
        | (go_at_call 56; refine (HR.out w1 oo oc HO.out.1 HO.out.2 _ HM.out).mono ?_; rintro e w3 ⟨⟨xc, xa, xn, xk⟩, rfl, hC, hM⟩
           have HW := Hold.mk (And.intro hC (HM0.out.trans (HO.out.1.trans (HM.out.trans hM))))
           clear hM hC c0 c1 c2 c3 c4 c5 c6 c7 c8 c9))
      have hb4 := World.alloc_heap_new w3 (.cells #[.int .i64 xc, .slice xa xn xk] 97)
      have hm4 : Mod noB w3 (w3.alloc (.cells #[.int .i64 xc, .slice xa xn xk] 97)) := (Mod.refl _ _).alloc _
      generalize w3.alloc (.cells #[.int .i64 xc, .slice xa xn xk] 97) = W4 at *
      have FIN := Hold.mk (fun (W' : World) (h : Mod noB W4 W') => h.at hb4 id)
      refine region_quietP (by kernel_rfl) (by kernel_rfl) (fun W' => Mod noB W4 W') ((Mod.refl _ _).drew) ?_
      repeat
        (first
          | go_big_quiet_skip
          | (go_big_quiet_want
             go_simp
             first
               | go_big_quiet_on
               | (apply Exists.intro
                  refine ⟨fun W' hC => ?_, ?_⟩
                  · have ga := FIN.out W' hC
                    have e0 := cellsAt ga 0; have e1 := cellsAt ga 1
                    clear ga
                    first
                      | with_reducible rfl
                      | (go_simp; first | rfl | exact ⟨rfl, rfl⟩)
                  go_big_quiet_on)
               | (refine ⟨⟨_, fun _ _ => rfl⟩, ?_⟩; go_big_quiet_on)))
      refine wpQuiet_nil ?_
      intro Wq hq
      have HQ := Hold.mk (hm4.trans hq)
      clear hq hb4 hm4
      go_wp2_with fail
      refine go_ret456 rfl ?_
      rw [he.out]
      obtain ⟨hC, hm⟩ := HW.out
      obtain ⟨a1, k1, hv, h3⟩ := hC.mod HQ.out
      simp only [Value.agg.injEq, Array.mk.injEq, List.cons.injEq, Value.slice.injEq, Value.int.injEq, true_and, and_true] at hv
      obtain ⟨rfl, rfl, rfl, rfl⟩ := hv
      exact ⟨_, _, by simp, h3.1, h3.2.1, h3.2.2, hm.trans HQ.out⟩
end Go.Proofs.YtdncppempgpooaaDoor

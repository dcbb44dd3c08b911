/- CutChecks: how many pieces a cut has, what a piece has in common with others, and what is within it, are the document's, or why they are not known. -/
import Derived.Test.YtogalmkeipigeaaRefN
import Derived.Test.YtogalmkeipigeaaAwake
set_option linter.unusedSimpArgs false
set_option linter.unusedVariables false
namespace Go.Proofs.Ytogalmkeipigeaa
open Go.RowKit

def SidesOut (e : Ending) (w w' : World) (L : List (Int × Int)) (er : Int) : Prop := ∃ ao cap, e = .returned (.tuple #[.slice ao L.length cap, .int .i64 er]) ∧ RowAt w' ao (sideCells L) ∧ Mod noB w w'
def InsOut (e : Ending) (w w' : World) (L : List Int) (er : Int) : Prop := ∃ ao cap, e = .returned (.tuple #[.slice ao L.length cap, .int .i64 er]) ∧ IntsAt w' ao L ∧ Mod noB w w'

theorem sides_both (W H : Int) (ao : Option Addr) (zs : List Int) (cap : Nat) (p : Int) : ∃ (L : List (Int × Int)) (er : Int), L.length ≤ 1000 ∧
    (∀ w, IntsAt w ao zs → Calls Try.prog 16 #[cutV W H ao zs.length cap, .int .i64 p] w fun e w' => SidesOut e w w' L er) ∧
    (∀ w, IntsAt w ao zs → Calls Try.prog 17 #[cutV W H ao zs.length cap, .int .i64 p] w fun e w' => SidesOut e w w' L er) := by
  by_cases h : (checkR W H zs).2 = 0
  · obtain ⟨W, H, rfl, rfl, C⟩ := isCutB_true (checkR_ok h).1
    by_cases hp : 0 ≤ p ∧ p < many zs
    · refine ⟨sidesR W H zs p, 0, ?_, fun w hs => ?_, fun w hs => ?_⟩
      · have h1 := sidesTo_len (facedL (laidG W zs zs.length) W H p) (many zs + 1)
        have h2 := C.many_le.2
        unfold sidesR
        omega
      · refine (sides_yes C ao cap p w hs h hp.1 hp.2).mono ?_
        rintro e w' ⟨v, rfl, hown, hM⟩
        obtain ⟨ao', cap', rfl, hr⟩ := rowAt_of_owns hown
        exact ⟨ao', cap', rfl, hr, hM⟩
      · refine (refSides_yes C ao cap p w hs h hp.1 hp.2).mono ?_
        rintro e w' ⟨v, rfl, hown, hM⟩
        obtain ⟨ao', cap', rfl, hr⟩ := rowAt_of_owns hown
        exact ⟨ao', cap', rfl, hr, hM⟩
    · refine ⟨[], 2, by simp, fun w hs => ?_, fun w hs => ?_⟩
      · refine (sides_out C ao cap p w hs h hp).mono ?_
        rintro e w' ⟨rfl, hM⟩
        exact ⟨none, 0, rfl, fun hne => absurd rfl hne, hM⟩
      · refine (refSides_err W H ao zs cap p w hs 2 (by decide) (fun w1 h1 => ?_)).mono ?_
        · have := piece_at C ao cap p w1 h1 h false (by simp; omega)
          simpa using this
        · rintro e w' ⟨rfl, hM⟩
          exact ⟨none, 0, rfl, fun hne => absurd rfl hne, hM⟩
  · refine ⟨[], (checkR W H zs).2, by simp, fun w hs => ?_, fun w hs => ?_⟩
    · refine (sides_no W H ao zs cap p w hs h).mono ?_
      rintro e w' ⟨rfl, hM⟩
      exact ⟨none, 0, rfl, fun hne => absurd rfl hne, hM⟩
    · refine (refSides_err W H ao zs cap p w hs _ h (fun w1 h1 => piece_no W H ao zs cap p w1 h1 h)).mono ?_
      rintro e w' ⟨rfl, hM⟩
      exact ⟨none, 0, rfl, fun hne => absurd rfl hne, hM⟩

theorem inside_both (W H : Int) (ao : Option Addr) (zs : List Int) (cap : Nat) (p : Int) : ∃ (L : List Int) (er : Int),
    (∀ w, IntsAt w ao zs → Calls Try.prog 18 #[cutV W H ao zs.length cap, .int .i64 p] w fun e w' => InsOut e w w' L er) ∧
    (∀ w, IntsAt w ao zs → Calls Try.prog 19 #[cutV W H ao zs.length cap, .int .i64 p] w fun e w' => InsOut e w w' L er) := by
  have none_is : ∀ w, IntsAt w none [] := fun w => ⟨fun h => absurd rfl h, Nat.zero_le _⟩
  by_cases h : (checkR W H zs).2 = 0
  · obtain ⟨W, H, rfl, rfl, C⟩ := isCutB_true (checkR_ok h).1
    by_cases hp : 0 ≤ p ∧ p < many zs
    · let R0 : Nat → Bool := fun j => @decide (OutsP (laidG W zs zs.length) W H p (many zs) j) (Classical.propDecidable _)
      have hR0 : ∀ j, R0 j = true ↔ OutsP (laidG W zs zs.length) W H p (many zs) j := fun j => by simp [R0]
      have h2 := C.many_le.2
      have hl : (insideTo R0 p (many zs)).length ≤ 1000000 := by have := insideTo_len R0 p (many zs); omega
      refine ⟨insideTo R0 p (many zs), 0, fun w hs => ?_, fun w hs => ?_⟩
      · refine (inside_yes C ao cap p w hs h hp.1 hp.2).mono ?_
        rintro e w' ⟨v, R, rfl, hR, hown, hM⟩
        rw [inside_same (R' := R0) (fun j hj => (hR.is C.grid h2 j (by omega)).trans (hR0 j).symm)] at hown
        obtain ⟨ao', cap', rfl, hr, _⟩ := ints_of_owns hown rfl hl
        exact ⟨ao', cap', rfl, hr, hM⟩
      · refine (refInside_yes C ao cap p w hs h hp.1 hp.2).mono ?_
        rintro e w' ⟨v, R, rfl, hR, hown, hM⟩
        rw [inside_same (R' := R0) (fun j hj => (hR j hj).trans (hR0 j).symm)] at hown
        obtain ⟨ao', cap', rfl, hr, _⟩ := ints_of_owns hown rfl hl
        exact ⟨ao', cap', rfl, hr, hM⟩
    · refine ⟨[], 2, fun w hs => ?_, fun w hs => ?_⟩
      · refine (inside_out C ao cap p w hs h hp).mono ?_
        rintro e w' ⟨rfl, hM⟩
        exact ⟨none, 0, rfl, none_is _, hM⟩
      · refine (refInside_err W H ao zs cap p w hs 2 (by decide) (fun w1 h1 => ?_)).mono ?_
        · have := piece_at C ao cap p w1 h1 h false (by simp; omega)
          simpa using this
        · rintro e w' ⟨rfl, hM⟩
          exact ⟨none, 0, rfl, none_is _, hM⟩
  · refine ⟨[], (checkR W H zs).2, fun w hs => ?_, fun w hs => ?_⟩
    · refine (inside_no W H ao zs cap p w hs h).mono ?_
      rintro e w' ⟨rfl, hM⟩
      exact ⟨none, 0, rfl, none_is _, hM⟩
    · refine (refInside_err W H ao zs cap p w hs _ h (fun w1 h1 => piece_no W H ao zs cap p w1 h1 h)).mono ?_
      rintro e w' ⟨rfl, hM⟩
      exact ⟨none, 0, rfl, none_is _, hM⟩

set_option maxRecDepth 100000 in
set_option maxHeartbeats 2000000 in
theorem cutChecks_large (W H : Int) (ao : Option Addr) (n cap : Nat) (p : Int) (w : World) (hn : 288 < n) :
    Calls Try.prog 3 #[cutV W H ao n cap, .int .i64 p] w fun e w' => e = .returned (.bool true) ∧ Mod noB w w' := by
  have hd : decide (288 < (n : Int)) = true := by simp; omega
  have HL : Hold (∀ w1, Calls Try.prog 12 #[cutV W H ao n cap] w1 fun e w' => e = .returned (.bool true) ∧ Mod noB w1 w') := ⟨fun w1 => by rw [← hd]; exact large_any W H ao n cap w1⟩
  have HM0 := Hold.mk ((Mod.refl noB w).alloc (.cells #[.int .i64 W, .int .i64 H, .slice ao n cap] 24))
  clear hd hn
  go_enter Try.func3, Try.ntmps3
  go_wp2_with (first
    | (go_at_call 12; refine (HL.out _).mono ?_; rintro e w1 ⟨rfl, hM1⟩; have HM1 := Hold.mk hM1; clear hM1)
    | (go_at_call 13; refine (awake_any w1).mono ?_; rintro e w2 ⟨rfl, hM2⟩; have HM2 := Hold.mk hM2; clear hM2))
  go_ret
  exact ⟨rfl, (HM0.out.trans HM1.out).trans HM2.out⟩

set_option maxRecDepth 100000 in
set_option maxHeartbeats 4000000 in
theorem cutChecks_small (W H : Int) (ao : Option Addr) (zs : List Int) (cap : Nat) (p : Int) (w : World) (hs : IntsAt w ao zs) (hn : zs.length ≤ 288) :
    Calls Try.prog 3 #[cutV W H ao zs.length cap, .int .i64 p] w fun e w' => e = .returned (.bool true) ∧ Mod noB w w' := by
  have hd : decide (288 < (zs.length : Int)) = false := by simp; omega
  have HL : Hold (∀ w1, Calls Try.prog 12 #[cutV W H ao zs.length cap] w1 fun e w' => e = .returned (.bool false) ∧ Mod noB w1 w') := ⟨fun w1 => by rw [← hd]; exact large_any W H ao zs.length cap w1⟩
  have HB := Hold.mk (box_facts (W := W) (H := H) (cap := cap) hs)
  have HM0 := Hold.mk ((Mod.refl noB w).alloc (.cells #[.int .i64 W, .int .i64 H, .slice ao zs.length cap] 24))
  obtain ⟨Ls, es, hLs, hS1, hS2⟩ := sides_both W H ao zs cap p
  obtain ⟨Li, ei, hI1, hI2⟩ := inside_both W H ao zs cap p
  have HK1 := Hold.mk (fun w1 h => check_any W H ao zs cap w1 h)
  have HK2 := Hold.mk (fun w1 h => refCheck_any W H ao zs cap w1 h)
  have HS1 := Hold.mk hS1
  have HS2 := Hold.mk hS2
  have HI1 := Hold.mk hI1
  have HI2 := Hold.mk hI2
  generalize (checkR W H zs).1 = k1 at *
  generalize (checkR W H zs).2 = k2 at *
  clear hd hn hs hS1 hS2 hI1 hI2
  go_enter Try.func3, Try.ntmps3
  go_wp2_with (first
    | (go_at_call 12; refine (HL.out _).mono ?_; rintro e w1 ⟨rfl, hM⟩; obtain ⟨c0, c1, c2, hI⟩ := HB.out _ hM; have HW1 := Hold.mk (And.intro hM hI); clear hM hI HL)
    | (go_at_call 14; refine (HK1.out w1 HW1.out.2).mono ?_; rintro e w2 ⟨rfl, hM⟩; clear c0 c1 c2; obtain ⟨c0, c1, c2, hI⟩ := HB.out _ (HW1.out.1.trans hM); have HW2 := Hold.mk (And.intro (HW1.out.1.trans hM) hI); clear hM hI HK1)
    | (go_at_call 15; refine (HK2.out w2 HW2.out.2).mono ?_; rintro e w3 ⟨rfl, hM⟩; clear c0 c1 c2; obtain ⟨c0, c1, c2, hI⟩ := HB.out _ (HW2.out.1.trans hM); have HW3 := Hold.mk (And.intro (HW2.out.1.trans hM) hI); clear hM hI HK2)
    | (go_at_call 16; refine (HS1.out w3 HW3.out.2).mono ?_; rintro e w4 ⟨ao4, cap4, rfl, hR4, hM⟩; clear c0 c1 c2; obtain ⟨c0, c1, c2, hI⟩ := HB.out _ (HW3.out.1.trans hM); have HW4 := Hold.mk (And.intro (HW3.out.1.trans hM) (And.intro hI hR4)); clear hM hI hR4 HS1)
    | (go_at_call 17; refine (HS2.out w4 HW4.out.2.1).mono ?_; rintro e w5 ⟨ao5, cap5, rfl, hR5, hM⟩; clear c0 c1 c2; obtain ⟨c0, c1, c2, hI⟩ := HB.out _ (HW4.out.1.trans hM); have HW5 := Hold.mk (And.intro (HW4.out.1.trans hM) (And.intro hI (And.intro (HW4.out.2.2.mod hM) hR5))); clear hM hI hR5 HS2)
    | (go_at_call 18; refine (HI1.out w5 HW5.out.2.1).mono ?_; rintro e w6 ⟨ao6, cap6, rfl, hR6, hM⟩; clear c0 c1 c2; obtain ⟨c0, c1, c2, hI⟩ := HB.out _ (HW5.out.1.trans hM); have HW6 := Hold.mk (And.intro (HW5.out.1.trans hM) (And.intro hI (And.intro (HW5.out.2.2.1.mod hM) (And.intro (HW5.out.2.2.2.mod hM) hR6)))); clear hM hI hR6 HI1)
    | (go_at_call 19; refine (HI2.out w6 HW6.out.2.1).mono ?_; rintro e w7 ⟨ao7, cap7, rfl, hR7, hM⟩; clear c0 c1 c2; have HW7 := Hold.mk (And.intro (HW6.out.1.trans hM) (And.intro (HW6.out.2.2.1.mod hM) (And.intro (HW6.out.2.2.2.1.mod hM) (And.intro (HW6.out.2.2.2.2.mod hM (fun _ _ _ _ h => h)) hR7)))); clear hM hR7 HI2)
    | (go_at_call 20; refine (sides_same ao4 ao5 Ls hLs cap4 cap5 w7 HW7.out.2.1 HW7.out.2.2.1).mono ?_; rintro e w8 ⟨rfl, hM⟩; have HW8 := Hold.mk (And.intro (HW7.out.1.trans hM) (And.intro (HW7.out.2.2.2.1.mod hM (fun _ _ _ _ h => h)) (HW7.out.2.2.2.2.mod hM (fun _ _ _ _ h => h)))); clear hM)
    | (go_at_call 21; refine (ints_same ao6 ao7 Li cap6 cap7 w8 HW8.out.2.1 HW8.out.2.2).mono ?_; rintro e w9 ⟨rfl, hM⟩; have HW9 := Hold.mk (HW8.out.1.trans hM); clear hM)
    | (go_at_call 13; refine (awake_any w9).mono ?_; rintro e w10 ⟨rfl, hM⟩; have HW10 := Hold.mk (HW9.out.trans hM); clear hM))
  go_ret
  exact ⟨rfl, HM0.out.trans HW10.out⟩
end Go.Proofs.Ytogalmkeipigeaa

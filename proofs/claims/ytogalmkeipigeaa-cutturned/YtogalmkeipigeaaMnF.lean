/- Several texts in one (a claim holds at most 60 files): each has its own words ahead of it. -/
import Derived.Test.YtogalmkeipigeaaMnS
import Derived.Test.YtogalmkeipigeaaLines
import Derived.Test.YtogalmkeipigeaaInside
import Derived.Test.YtogalmkeipigeaaRefJoin
import Derived.Test.YtogalmkeipigeaaSame
set_option linter.unusedSimpArgs false
set_option linter.unusedVariables false

/- What the document's examples come to. -/
namespace Go.Proofs.Ytogalmkeipigeaa
open Go.RowKit

def zsA : List Int := [0, 0, 1, 1, 0, 2, 2, 1, 3, 3, 3, 3]
def zsB : List Int := [0, 0, 1, 2, 3, 1]
def zsC : List Int := [0, 0, 0, 0, 1, 0, 0, 0, 0]

/-! ### Pieces that hang together, by a search -/
def growL (g : Int × Int → Option Int) (k : Int) (S : List (Int × Int)) : List (Int × Int) := S ++ (S.flatMap besideL).filter fun p => decide (atG g p = k)
def reachL (g : Int × Int → Option Int) (k : Int) (r : Int × Int) : Nat → List (Int × Int)
  | 0 => [r]
  | n + 1 => growL g k (reachL g k r n)
theorem reachL_conn {g : Int × Int → Option Int} {k : Int} {r : Int × Int} (hr : atG g r = k) : ∀ (n : Nat) (p : Int × Int), p ∈ reachL g k r n → Conn g r p ∧ atG g p = k := by
  intro n
  induction n with
  | zero => intro p hp; simp only [reachL, List.mem_singleton] at hp; subst hp; exact ⟨.refl, hr⟩
  | succ n ih =>
    intro p hp
    simp only [reachL, growL, List.mem_append, List.mem_filter, List.mem_flatMap, decide_eq_true_eq] at hp
    rcases hp with hp | ⟨⟨q, hq, hb⟩, hk⟩
    · exact ih p hp
    · obtain ⟨h1, h2⟩ := ih q hq
      exact ⟨.step h1 hb (hk.trans h2.symm), hk⟩
theorem whole_by {W H : Nat} {zs : List Int} (C : CutN W H zs) {k : Int} (r : Int × Int) (n : Nat) (hr : atG (laidG W zs zs.length) r = k)
    (h : ∀ i, i < zs.length → atG (laidG W zs zs.length) (cellOf W i) = k → cellOf W i ∈ reachL (laidG W zs zs.length) k r n) : WholeP (laidG W zs zs.length) W H k := by
  intro p q hp hq hpk hqk
  obtain ⟨i, hi, rfl⟩ := C.of_in hp
  obtain ⟨j, hj, rfl⟩ := C.of_in hq
  exact (reachL_conn hr n _ (h i hi hpk)).1.symm.trans (reachL_conn hr n _ (h j hj hqk)).1

theorem cnA : CutN 4 3 zsA := ⟨by decide, by decide, by decide, by decide, by decide, by decide⟩
theorem cnB : CutN 3 2 zsB := ⟨by decide, by decide, by decide, by decide, by decide, by decide⟩
theorem cnC : CutN 3 3 zsC := ⟨by decide, by decide, by decide, by decide, by decide, by decide⟩

theorem ckA : checkR 4 3 zsA = (4, 0) := by
  have hg : greatest zsA = 3 := by decide
  have := checkR_0 cnA (by decide) (fun j hj => by
    rcases (by omega : j = 0 ∨ j = 1 ∨ j = 2) with rfl | rfl | rfl <;> decide) (fun j hj => by
    rcases (by omega : j = 0 ∨ j = 1 ∨ j = 2 ∨ j = 3) with rfl | rfl | rfl | rfl
    · exact whole_by cnA (0, 0) 3 (by decide +kernel) (by decide +kernel)
    · exact whole_by cnA (2, 0) 3 (by decide +kernel) (by decide +kernel)
    · exact whole_by cnA (1, 1) 3 (by decide +kernel) (by decide +kernel)
    · exact whole_by cnA (0, 2) 3 (by decide +kernel) (by decide +kernel))
  exact this
theorem ckB : checkR 3 2 zsB = (4, 0) := by
  have hg : greatest zsB = 3 := by decide
  have := checkR_0 cnB (by decide) (fun j hj => by
    rcases (by omega : j = 0 ∨ j = 1 ∨ j = 2) with rfl | rfl | rfl <;> decide) (fun j hj => by
    rcases (by omega : j = 0 ∨ j = 1 ∨ j = 2 ∨ j = 3) with rfl | rfl | rfl | rfl
    · exact whole_by cnB (0, 0) 3 (by decide +kernel) (by decide +kernel)
    · exact whole_by cnB (2, 0) 3 (by decide +kernel) (by decide +kernel)
    · exact whole_by cnB (0, 1) 3 (by decide +kernel) (by decide +kernel)
    · exact whole_by cnB (1, 1) 3 (by decide +kernel) (by decide +kernel))
  exact this
theorem ckC : checkR 3 3 zsC = (2, 0) := by
  have hg : greatest zsC = 1 := by decide
  have := checkR_0 cnC (by decide) (fun j hj => by
    rcases (by omega : j = 0) with rfl; decide) (fun j hj => by
    rcases (by omega : j = 0 ∨ j = 1) with rfl | rfl
    · exact whole_by cnC (0, 0) 4 (by decide +kernel) (by decide +kernel)
    · exact whole_by cnC (1, 1) 1 (by decide +kernel) (by decide +kernel))
  exact this

theorem sidesA : sidesR 4 3 zsA 0 = [(-1, 4), (1, 1), (2, 2), (3, 1)] := by decide +kernel
theorem linesA : linesR 4 3 zsA = ((9, 2, 3, 3), 0) := by
  unfold linesR
  rw [if_neg (by rw [ckA]; decide)]
  decide +kernel
theorem joinA : joinR 4 3 zsA 3 1 = ((4, 3, [0, 0, 1, 1, 0, 2, 2, 1, 1, 1, 1, 1]), 0) := by
  have h : (checkR ((4 : Nat) : Int) ((3 : Nat) : Int) zsA).2 = 0 := by rw [show checkR ((4 : Nat) : Int) ((3 : Nat) : Int) zsA = checkR 4 3 zsA from rfl, ckA]
  have := joinR_yes (a := 3) (b := 1) h
  rw [show joinR 4 3 zsA 3 1 = joinR ((4 : Nat) : Int) ((3 : Nat) : Int) zsA 3 1 from rfl, this]
  decide +kernel
theorem sawA : sawR 4 3 zsA = ([], 11) := by
  unfold sawR
  rw [if_neg (by rw [ckA]; decide)]
  have : sawL (laidG (4 : Int).toNat zsA zsA.length) ((4 : Int).toNat * (3 : Int).toNat) 0 0 (4 : Int).toNat (3 : Int).toNat = none := by decide +kernel
  rw [this]
theorem sawB : sawR 3 2 zsB = ([(true, 2, 0, 2), (false, 1, 0, 2), (true, 1, 1, 2)], 0) := by
  unfold sawR
  rw [if_neg (by rw [ckB]; decide)]
  have : sawL (laidG (3 : Int).toNat zsB zsB.length) ((3 : Int).toNat * (2 : Int).toNat) 0 0 (3 : Int).toNat (2 : Int).toNat = some [(true, 2, 0, 2), (false, 1, 0, 2), (true, 1, 1, 2)] := by decide +kernel
  rw [this]
theorem insideC {R : Nat → Bool} (h : OutInv (laidG 3 zsC zsC.length) 3 3 0 2 2 [] R) : insideTo R 0 2 = [1] := by
  have h1 : R 1 = false := by
    cases hr : R 1 with
    | false => rfl
    | true =>
      obtain ⟨p, hp, hne, hf, _⟩ := (h.is cnC.grid (by omega) 1 (by omega)).1 hr
      obtain rfl : p = 1 := by omega
      exact absurd hf (by decide +kernel)
  simp [insideTo, h1]
end Go.Proofs.Ytogalmkeipigeaa

/- awake: the document's examples hold. -/
namespace Go.Proofs.Ytogalmkeipigeaa
open Go.RowKit

theorem callCheckA (w : World) (ao : Option Addr) (cap : Nat) (hs : IntsAt w ao zsA) : Calls Try.prog 14 #[cutV 4 3 ao 12 cap] w fun e w' => e = .returned (.tuple #[.int .i64 4, .int .i64 0]) ∧ Mod noB w w' :=
  (check_any 4 3 ao zsA cap w hs).mono fun e w' h => by rw [ckA] at h; exact h
theorem callSidesA (w : World) (ao : Option Addr) (cap : Nat) (hs : IntsAt w ao zsA) : Calls Try.prog 16 #[cutV 4 3 ao 12 cap, .int .i64 0] w fun e w' =>
    ∃ ao' cap', e = .returned (.tuple #[.slice ao' 4 cap', .int .i64 0]) ∧ RowAt w' ao' (sideCells [(-1, 4), (1, 1), (2, 2), (3, 1)]) ∧ Mod noB w w' :=
  (sides_yes cnA ao cap 0 w hs (by rw [show checkR ((4 : Nat) : Int) ((3 : Nat) : Int) zsA = checkR 4 3 zsA from rfl, ckA]) (by decide) (by decide)).mono fun e w' h => by
    obtain ⟨v, rfl, hown, hM⟩ := h
    rw [sidesA] at hown
    obtain ⟨ao', cap', rfl, hr⟩ := rowAt_of_owns hown
    exact ⟨ao', cap', rfl, hr, hM⟩
theorem callLinesA (w : World) (ao : Option Addr) (cap : Nat) (hs : IntsAt w ao zsA) : Calls Try.prog 22 #[cutV 4 3 ao 12 cap] w fun e w' =>
    e = .returned (.tuple #[.agg #[.int .i64 9, .int .i64 2, .int .i64 3, .int .i64 3], .int .i64 0]) ∧ Mod noB w w' :=
  (lines_yes cnA ao cap w hs (by rw [show checkR ((4 : Nat) : Int) ((3 : Nat) : Int) zsA = checkR 4 3 zsA from rfl, ckA])).mono fun e w' h => by
    rw [show linesR ((4 : Nat) : Int) ((3 : Nat) : Int) zsA = linesR 4 3 zsA from rfl, linesA] at h; exact h
theorem callInsideC (w : World) (ao : Option Addr) (cap : Nat) (hs : IntsAt w ao zsC) : Calls Try.prog 18 #[cutV 3 3 ao 9 cap, .int .i64 0] w fun e w' =>
    ∃ ao' cap', e = .returned (.tuple #[.slice ao' 1 cap', .int .i64 0]) ∧ IntsAt w' ao' [1] ∧ Mod noB w w' :=
  (inside_yes cnC ao cap 0 w hs (by rw [show checkR ((3 : Nat) : Int) ((3 : Nat) : Int) zsC = checkR 3 3 zsC from rfl, ckC]) (by decide) (by decide)).mono fun e w' h => by
    obtain ⟨v, R, rfl, hR, hown, hM⟩ := h
    have hi : insideTo R 0 (many zsC) = [1] := insideC hR
    rw [hi] at hown
    obtain ⟨ao', cap', rfl, hr, _⟩ := ints_of_owns (L := [1]) hown rfl (by decide)
    exact ⟨ao', cap', rfl, hr, hM⟩
theorem callJoinA (w : World) (ao : Option Addr) (cap : Nat) (hs : IntsAt w ao zsA) : Calls Try.prog 27 #[cutV 4 3 ao 12 cap, .int .i64 3, .int .i64 1] w fun e w' =>
    ∃ ao' cap', e = .returned (.tuple #[cutV 4 3 ao' 12 cap', .int .i64 0]) ∧ IntsAt w' ao' [0, 0, 1, 1, 0, 2, 2, 1, 1, 1, 1, 1] ∧ Mod noB w w' :=
  (join_yes cnA ao cap 3 1 w hs (by rw [show checkR ((4 : Nat) : Int) ((3 : Nat) : Int) zsA = checkR 4 3 zsA from rfl, ckA])).mono fun e w' h => by
    rw [show joinR ((4 : Nat) : Int) ((3 : Nat) : Int) zsA 3 1 = joinR 4 3 zsA 3 1 from rfl, joinA] at h
    obtain ⟨ao', cap', rfl, hr, _, hM⟩ := h
    exact ⟨ao', cap', rfl, hr, hM⟩
theorem callSawB (w : World) (ao : Option Addr) (cap : Nat) (hs : IntsAt w ao zsB) : Calls Try.prog 24 #[cutV 3 2 ao 6 cap] w fun e w' =>
    ∃ ao' cap', e = .returned (.tuple #[.slice ao' 3 cap', .int .i64 0]) ∧ RowAt w' ao' (lineCells [(true, 2, 0, 2), (false, 1, 0, 2), (true, 1, 1, 2)]) ∧ Mod noB w w' :=
  (saw_yes cnB ao cap w hs (by rw [show checkR ((3 : Nat) : Int) ((2 : Nat) : Int) zsB = checkR 3 2 zsB from rfl, ckB])).mono fun e w' h => by
    rw [show sawR ((3 : Nat) : Int) ((2 : Nat) : Int) zsB = sawR 3 2 zsB from rfl, sawB] at h
    obtain ⟨v, rfl, hown, hM⟩ := h
    obtain ⟨ao', cap', rfl, hr⟩ := rowAt_of_owns hown
    exact ⟨ao', cap', rfl, hr, hM⟩
theorem callSawA (w : World) (ao : Option Addr) (cap : Nat) (hs : IntsAt w ao zsA) : Calls Try.prog 24 #[cutV 4 3 ao 12 cap] w fun e w' => ∃ v, e = .returned (.tuple #[v, .int .i64 11]) ∧ Mod noB w w' :=
  (saw_yes cnA ao cap w hs (by rw [show checkR ((4 : Nat) : Int) ((3 : Nat) : Int) zsA = checkR 4 3 zsA from rfl, ckA])).mono fun e w' h => by
    rw [show sawR ((4 : Nat) : Int) ((3 : Nat) : Int) zsA = sawR 4 3 zsA from rfl, sawA] at h
    obtain ⟨v, rfl, _, hM⟩ := h
    exact ⟨v, rfl, hM⟩
theorem callCutA (w : World) : Calls Try.prog 39 #[] w fun e w' => ∃ ao cap, e = .returned (cutV 4 3 ao 12 cap) ∧ IntsAt w' ao zsA ∧ Mod noB w w' := cutA_any w
theorem callCutB (w : World) : Calls Try.prog 40 #[] w fun e w' => ∃ ao cap, e = .returned (cutV 3 2 ao 6 cap) ∧ IntsAt w' ao zsB ∧ Mod noB w w' := cutB_any w
theorem callSame4 (w : World) (ao bo : Option Addr) (c d : Nat) (ha : RowAt w ao (sideCells [(-1, 4), (1, 1), (2, 2), (3, 1)])) (hb : RowAt w bo (sideCells [(-1, 4), (1, 1), (2, 2), (3, 1)])) :
    Calls Try.prog 20 #[.slice ao 4 c, .slice bo 4 d] w fun e w' => e = .returned (.bool true) ∧ Mod noB w w' := sides_same ao bo [(-1, 4), (1, 1), (2, 2), (3, 1)] (by decide) c d w ha hb
theorem callInts1 (w : World) (ao bo : Option Addr) (c d : Nat) (ha : IntsAt w ao [1]) (hb : IntsAt w bo [1]) :
    Calls Try.prog 21 #[.slice ao 1 c, .slice bo 1 d] w fun e w' => e = .returned (.bool true) ∧ Mod noB w w' := ints_same ao bo [1] c d w ha hb
theorem callInts12 (w : World) (ao bo : Option Addr) (c d : Nat) (ha : IntsAt w ao [0, 0, 1, 1, 0, 2, 2, 1, 1, 1, 1, 1]) (hb : IntsAt w bo [0, 0, 1, 1, 0, 2, 2, 1, 1, 1, 1, 1]) :
    Calls Try.prog 21 #[.slice ao 12 c, .slice bo 12 d] w fun e w' => e = .returned (.bool true) ∧ Mod noB w w' := ints_same ao bo [0, 0, 1, 1, 0, 2, 2, 1, 1, 1, 1, 1] c d w ha hb
theorem callLines3 (w : World) (ao bo : Option Addr) (c d : Nat) (ha : RowAt w ao (lineCells [(true, 2, 0, 2), (false, 1, 0, 2), (true, 1, 1, 2)])) (hb : RowAt w bo (lineCells [(true, 2, 0, 2), (false, 1, 0, 2), (true, 1, 1, 2)])) :
    Calls Try.prog 26 #[.slice ao 3 c, .slice bo 3 d] w fun e w' => e = .returned (.bool true) ∧ Mod noB w w' := lines_same ao bo [(true, 2, 0, 2), (false, 1, 0, 2), (true, 1, 1, 2)] (by decide) c d w ha hb
/-- A block whose cells are a list. -/
theorem row_lit {w : World} {b : Nat} {cs : Array Value} {t : TypeId} (xs : List Value) (h : w.heap[b]? = some (.cells cs t)) (hc : cs.toList = xs) : RowAt w (some ⟨b, 0, none⟩) xs :=
  fun _ => ⟨b, 0, rfl, (Array.getElem?_eq_some_iff.1 h).1, fun j hj => by
    simp only [World.cell?, h, Nat.zero_add]
    rw [← hc]
    simp⟩

/-- What holds in this world and in all later ones. -/
def Kept (w : World) (F : World → Prop) : Prop := ∀ w', Mod noB w w' → F w'
theorem Kept.later {w w' : World} {F : World → Prop} (h : Kept w F) (hm : Mod noB w w') : Kept w' F := fun w2 h2 => h w2 (hm.trans h2)
theorem Kept.and {w : World} {F G : World → Prop} (h : Kept w F) (k : Kept w G) : Kept w (fun w => F w ∧ G w) := fun w2 h2 => ⟨h w2 h2, k w2 h2⟩
theorem Kept.now {w : World} {F : World → Prop} (h : Kept w F) : F w := h w (Mod.refl _ _)
theorem kept_mod (w : World) : Kept w (fun w' => Mod noB w w') := fun _ h => h
theorem kept_row {w : World} {ao : Option Addr} {xs : List Value} (h : RowAt w ao xs) : Kept w (fun w' => RowAt w' ao xs) := fun _ hm => h.mod hm
theorem kept_ints {w : World} {ao : Option Addr} {zs : List Int} (h : IntsAt w ao zs) : Kept w (fun w' => IntsAt w' ao zs) := fun _ hm => h.mod hm (fun _ _ _ _ h => h)
theorem kept_block {w : World} {b : Nat} {o : Obj} (h : w.heap[b]? = some o) : Kept w (fun w' => w'.heap[b]? = some o) := fun _ hm => hm.at h id

set_option maxRecDepth 100000 in
set_option maxHeartbeats 4000000 in
theorem awake_any (w : World) : Calls Try.prog 13 #[] w fun e w' => e = .returned (.bool true) ∧ Mod noB w w' := by
  have HF := Hold.mk (kept_mod w)
  go_enter Try.func13, Try.ntmps13
  go_wp2_with (first
    | (go_at_call 39; refine (callCutA _).mono ?_; rintro e wA ⟨aoA, capA, rfl, hIA, hMA⟩; have HF := Hold.mk (HF.out.later hMA); have HIA := Hold.mk hIA; clear hIA hMA)
    | (go_at_call 14; refine (callCheckA _ _ _ HIA.out).mono ?_; rintro e wB ⟨rfl, hMB⟩; have HF := Hold.mk (HF.out.later hMB); clear hMB)
    | (go_at_call 16; refine (callSidesA _ _ _ HIA.out).mono ?_; rintro e wD ⟨aoS, capS, rfl, hrS, hMD⟩; have HF := Hold.mk ((HF.out.later hMD).and (kept_row hrS)); clear hrS hMD)
    | (go_at_call 22; refine (callLinesA _ _ _ HIA.out).mono ?_; rintro e wF ⟨rfl, hMF⟩; have HF := Hold.mk (HF.out.later hMF); clear hMF)
    | (go_at_call 18; refine (callInsideC _ _ _ (ints_lit zsC (allocL_at [.cells #[.int .i64 9, .int .i64 2, .int .i64 3, .int .i64 3] 39, .cells #[.int .i64 0, .int .i64 0, .int .i64 0, .int .i64 0, .int .i64 1, .int .i64 0, .int .i64 0, .int .i64 0, .int .i64 0] 3] wF 1 _ rfl) rfl (by decide))).mono ?_; rintro e wG ⟨aoI, capI, rfl, hI, hMG⟩
       have hM2 : Mod noB wF wG := (((Mod.refl noB wF).alloc _).alloc _).trans hMG
       have HF := Hold.mk (((HF.out.later hM2).and (kept_block (hMG.at (allocL_at [.cells #[.int .i64 9, .int .i64 2, .int .i64 3, .int .i64 3] 39, .cells #[.int .i64 0, .int .i64 0, .int .i64 0, .int .i64 0, .int .i64 1, .int .i64 0, .int .i64 0, .int .i64 0, .int .i64 0] 3] wF 0 _ rfl) id))).and (kept_ints hI))
       clear hI hMG hM2)
    | (go_at_call 27; refine (callJoinA _ _ _ HIA.out).mono ?_; rintro e wI ⟨aoJ, capJ, rfl, hJ, hMI⟩; have HF := Hold.mk ((HF.out.later hMI).and (kept_ints hJ)); clear hJ hMI)
    | (go_at_call 40; refine (callCutB _).mono ?_; rintro e wA ⟨aoB, capB, rfl, hIB, hMB2⟩
       have HF := Hold.mk ((HF.out.later (((Mod.refl noB wI).alloc (.cells #[.int .i64 4, .int .i64 3, .slice aoJ 12 capJ] 24)).trans hMB2)).and (kept_block (hMB2.at (World.alloc_heap_new wI (.cells #[.int .i64 4, .int .i64 3, .slice aoJ 12 capJ] 24)) id)))
       have HIB := Hold.mk hIB
       clear hIB hMB2)
    | (go_at_call 24; refine (callSawB _ _ _ HIB.out).mono ?_; rintro e wK ⟨aoW, capW, rfl, hW, hMK⟩; have HF := Hold.mk ((HF.out.later hMK).and (kept_row hW)); clear hW hMK HIB)
    | (go_at_call 24; refine (callSawA _ _ _ HIA.out).mono ?_; rintro e wM ⟨vM, rfl, hMM⟩; have HF := Hold.mk (HF.out.later hMM); clear hMM)
    | (go_at_call 20; refine (callSame4 _ _ _ _ _ (HF.out _ ((Mod.refl _ _).alloc _)).1.1.1.1.1.2 (row_lit _ (World.alloc_heap_new wM _) rfl)).mono ?_; rintro e wN ⟨rfl, hMN⟩
       have HF := Hold.mk (HF.out.later (((Mod.refl noB wM).alloc _).trans hMN))
       have hl := HF.out.now.1.1.1.1.2
       simp only [Nat.add_zero] at hl
       have l0 : wN.cell? ⟨wF.heap.size, 0, none⟩ = some (.int .i64 9) := (by simp [World.cell?, hl])
       have l1 : wN.cell? ⟨wF.heap.size, 1, none⟩ = some (.int .i64 2) := (by simp [World.cell?, hl])
       have l2 : wN.cell? ⟨wF.heap.size, 2, none⟩ = some (.int .i64 3) := (by simp [World.cell?, hl])
       have l3 : wN.cell? ⟨wF.heap.size, 3, none⟩ = some (.int .i64 3) := (by simp [World.cell?, hl])
       have HN1 : Hold True := ⟨trivial⟩
       clear hl hMN)
    | (go_at_call 21; have HN2 := HN1; refine (callInts1 _ _ _ _ _ (HF.out _ ((Mod.refl _ _).alloc _)).1.1.1.2 (ints_lit _ (World.alloc_heap_new wN _) rfl (by decide))).mono ?_; rintro e wO ⟨rfl, hMO⟩
       have HF := Hold.mk (HF.out.later (((Mod.refl noB wN).alloc _).trans hMO))
       have hj := HF.out.now.1.2
       have j2 : wO.cell? ⟨wI.heap.size, 2, none⟩ = some (.slice aoJ 12 capJ) := (by simp [World.cell?, hj])
       clear hj hMO HN1 HN2 l0 l1 l2 l3)
    | (go_at_call 21; refine (callInts12 _ _ _ _ _ (HF.out _ ((Mod.refl _ _).alloc _)).1.1.2 (ints_lit _ (World.alloc_heap_new wO _) rfl (by decide))).mono ?_; rintro e wP ⟨rfl, hMP⟩
       have HF := Hold.mk (HF.out.later (((Mod.refl noB wO).alloc _).trans hMP))
       clear hMP j2)
    | (go_at_call 26; refine (callLines3 _ _ _ _ _ (HF.out _ ((Mod.refl _ _).alloc _)).2 (row_lit _ (World.alloc_heap_new wP _) rfl)).mono ?_; rintro e wQ ⟨rfl, hMQ⟩
       have HF := Hold.mk (HF.out.later (((Mod.refl noB wP).alloc _).trans hMQ))
       clear hMQ))
  go_ret
  exact ⟨rfl, HF.out.now.1.1.1.1.1.1⟩
end Go.Proofs.Ytogalmkeipigeaa

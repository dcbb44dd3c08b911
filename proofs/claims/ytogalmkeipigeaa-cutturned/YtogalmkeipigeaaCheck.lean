/- Check: how many pieces a cut has, or why it is not known; open: its picture. -/
import Derived.Test.YtogalmkeipigeaaLayOut
import Derived.Test.YtogalmkeipigeaaCount
set_option linter.unusedSimpArgs false
set_option linter.unusedVariables false
namespace Go.Proofs.Ytogalmkeipigeaa
open Go.RowKit

/-- What a good form says, in natural numbers. -/
structure CutN (W H : Nat) (zs : List Int) : Prop where
  w1 : 1 ≤ W
  w2 : W ≤ 12
  h1 : 1 ≤ H
  h2 : H ≤ 12
  len : zs.length = W * H
  num : ∀ z ∈ zs, 0 ≤ z ∧ z < 40

theorem isCutB_true {W H : Int} {zs : List Int} (h : isCutB W H zs = true) : ∃ W' H' : Nat, W = W' ∧ H = H' ∧ CutN W' H' zs := by
  unfold isCutB at h
  simp only [Bool.and_eq_true, decide_eq_true_eq, Bool.not_eq_true', List.any_eq_false, Bool.or_eq_true, not_or] at h
  obtain ⟨⟨⟨a1, a2, a3, a4⟩, a5⟩, a6⟩ := h
  obtain ⟨W, rfl⟩ := Int.eq_ofNat_of_zero_le (show 0 ≤ W by omega)
  obtain ⟨H, rfl⟩ := Int.eq_ofNat_of_zero_le (show 0 ≤ H by omega)
  refine ⟨W, H, rfl, rfl, by omega, by omega, by omega, by omega, by exact_mod_cast a5, fun z hz => ?_⟩
  have := a6 z hz
  omega

theorem CutN.pos {W H : Nat} {zs : List Int} (h : CutN W H zs) : zs ≠ [] := fun e => by
  have := h.len
  rw [e] at this
  have h1 : 1 * 1 ≤ W * H := Nat.mul_le_mul h.w1 h.h1
  simp at this h1
  omega

theorem greatest_lt {zs : List Int} (h : ∀ z ∈ zs, 0 ≤ z ∧ z < 40) : greatest zs < 40 := by
  unfold greatest
  suffices hh : ∀ (l : List Int) (a : Int), a < 40 → (∀ z ∈ l, z < 40) → l.foldl max a < 40 from hh zs 0 (by omega) (fun z hz => (h z hz).2)
  intro l
  induction l with
  | nil => exact fun a ha _ => ha
  | cons x l ih => exact fun a ha hl => ih _ (by have := hl x (by simp); omega) (fun z hz => hl z (by simp [hz]))

theorem CutN.grid {W H : Nat} {zs : List Int} (h : CutN W H zs) : Grid (laidG W zs zs.length) W H where
  w1 := h.w1
  w2 := h.w2
  h1 := h.h1
  h2 := h.h2
  ins p hp := by
    obtain ⟨x, y⟩ := p
    obtain ⟨a1, a2, a3, a4⟩ := hp
    simp only at a1 a2 a3 a4
    obtain ⟨x, rfl⟩ := Int.eq_ofNat_of_zero_le a1
    obtain ⟨y, rfl⟩ := Int.eq_ofNat_of_zero_le a3
    have hlt : y * W + x < zs.length := by
      have : (y + 1) * W ≤ H * W := Nat.mul_le_mul_right _ (by omega)
      rw [Nat.succ_mul, Nat.mul_comm H W] at this
      rw [h.len]
      omega
    have hmem : zs[y * W + x]?.getD 0 ∈ zs := by rw [List.getElem?_eq_getElem hlt]; exact List.getElem_mem hlt
    refine ⟨zs[y * W + x]?.getD 0, ?_, (h.num _ hmem).1, (h.num _ hmem).2⟩
    unfold laidG
    simp only [Int.toNat_natCast]
    rw [if_pos ⟨by omega, a2, by omega, hlt⟩]
  out p hp := by
    obtain ⟨x, y⟩ := p
    unfold laidG
    refine if_neg fun ⟨a1, a2, a3, a4⟩ => hp ⟨a1, a2, a3, ?_⟩
    simp only at a1 a2 a3 a4 ⊢
    obtain ⟨x, rfl⟩ := Int.eq_ofNat_of_zero_le a1
    obtain ⟨y, rfl⟩ := Int.eq_ofNat_of_zero_le a3
    simp only [Int.toNat_natCast] at a4
    rw [h.len] at a4
    have : y < H := by
      rcases Nat.lt_or_ge y H with h' | h'
      · exact h'
      · have := Nat.mul_le_mul_right W h'
        rw [Nat.mul_comm H W] at this
        omega
    omega

/-- How many numbers a cut has, as a natural number. -/
def many (zs : List Int) : Nat := (greatest zs + 1).toNat
theorem many_eq (zs : List Int) : greatest zs + 1 = (many zs : Int) := by
  unfold many; have := greatest_nonneg zs; omega
theorem CutN.many_le {W H : Nat} {zs : List Int} (h : CutN W H zs) : 1 ≤ many zs ∧ many zs ≤ 40 := by
  have h1 := greatest_lt h.num
  have h2 := greatest_nonneg zs
  unfold many
  omega

theorem layOut_n {W H : Nat} {zs : List Int} (C : CutN W H zs) (ao : Option Addr) (cap : Nat) (w : World) (hs : IntsAt w ao zs) :
    Calls Try.prog 42 #[.agg #[.int .i64 W, .int .i64 H, .slice ao zs.length cap]] w fun e w' => ∃ mb, e = .returned (.agg #[.int .i64 W, .int .i64 H, .int .i64 (many zs), .map (some mb)]) ∧ Mod noB w w' ∧ MapIs Try.prog 106 cellV w' mb (laidG W zs zs.length) :=
  (layOut_any W H C.w1 C.w2 C.h2 ao zs cap w hs C.pos (fun z hz => (C.num z hz).1) (greatest_lt C.num)).mono fun e w' ⟨mb, h1, h2, h3⟩ => ⟨mb, by rw [h1, many_eq], h2, h3⟩

set_option maxRecDepth 100000 in
set_option maxHeartbeats 2000000 in
theorem check_bad (W H : Int) (ao : Option Addr) (zs : List Int) (cap : Nat) (w : World) (hs : IntsAt w ao zs) (hb : isCutB W H zs = false) :
    Calls Try.prog 14 #[cutV W H ao zs.length cap] w fun e w' => e = .returned (.tuple #[.int .i64 0, .int .i64 1]) ∧ Mod noB w w' := by
  have HC : Hold (∀ w', IntsAt w' ao zs → Calls Try.prog 41 #[.agg #[.int .i64 W, .int .i64 H, .slice ao zs.length cap]] w' fun e w'' => e = .returned (.bool false) ∧ Mod noB w' w'') :=
    ⟨fun w' h => by rw [← hb]; exact isCut_any W H ao zs cap w' h⟩
  have HI := Hold.mk (hs.alloc (.cells #[.int .i64 W, .int .i64 H, .slice ao zs.length cap] 24))
  clear hs hb
  go_enter Try.func14, Try.ntmps14
  go_wp2_with (go_at_call 41; refine (HC.out _ HI.out).mono ?_; rintro e w1 ⟨rfl, hM1⟩; have HM1 := Hold.mk hM1; clear hM1)
  go_ret2
  exact ⟨rfl, ((Mod.refl noB w).alloc _).trans HM1.out⟩

set_option maxRecDepth 100000 in
set_option maxHeartbeats 2000000 in
theorem check_good {W H : Nat} {zs : List Int} (C : CutN W H zs) (ao : Option Addr) (cap : Nat) (w : World) (hs : IntsAt w ao zs) (hb : isCutB W H zs = true) :
    Calls Try.prog 14 #[cutV W H ao zs.length cap] w fun e w' => ∃ f : Nat → Int, PartsOf (laidG W zs zs.length) W H f ∧ e = .returned (.tuple #[.int .i64 (countR f (many zs)).1, .int .i64 (countR f (many zs)).2]) ∧ Mod noB w w' := by
  have HC : Hold (∀ w', IntsAt w' ao zs → Calls Try.prog 41 #[.agg #[.int .i64 W, .int .i64 H, .slice ao zs.length cap]] w' fun e w'' => e = .returned (.bool true) ∧ Mod noB w' w'') :=
    ⟨fun w' h => by rw [← hb]; exact isCut_any W H ao zs cap w' h⟩
  have HI := Hold.mk (hs.alloc (.cells #[.int .i64 W, .int .i64 H, .slice ao zs.length cap] 24))
  have HL := Hold.mk (fun (w' : World) (h : IntsAt w' ao zs) => layOut_n C ao cap w' h)
  have HP := Hold.mk C
  have HB : Hold (∀ w1 : World, Mod noB (w.alloc (.cells #[.int .i64 W, .int .i64 H, .slice ao zs.length cap] 24)) w1 → w1.cell? ⟨w.heap.size, 0, none⟩ = some (.int .i64 W) ∧ w1.cell? ⟨w.heap.size, 1, none⟩ = some (.int .i64 H) ∧ w1.cell? ⟨w.heap.size, 2, none⟩ = some (.slice ao zs.length cap)) :=
    ⟨fun w1 h => by have e1 := h.at (World.alloc_heap_new w _) id; refine ⟨?_, ?_, ?_⟩ <;> simp [World.cell?, e1]⟩
  clear hs hb C
  go_enter Try.func14, Try.ntmps14
  go_wp2_with (first
    | (go_at_call 41; refine (HC.out _ HI.out).mono ?_; rintro e w1 ⟨rfl, hM1⟩; obtain ⟨b0, b1, b2⟩ := HB.out w1 hM1; have HM1 := Hold.mk hM1; clear hM1)
    | (go_at_call 42; refine (HL.out _ (HI.out.mono (HM1.out.below))).mono ?_; rintro e w2 ⟨mb, rfl, hM2, hmp⟩; have HM2 := Hold.mk (And.intro hM2 hmp); clear hM2 hmp)
    | (go_at_call 43; refine (count_any _ W H (many zs) HP.out.grid HP.out.many_le.1 HP.out.many_le.2 mb w2 HM2.out.2).mono ?_; rintro e w3 ⟨f, hf, rfl, hM3⟩; have HM3 := Hold.mk (And.intro hf hM3); clear hf hM3))
  go_ret2
  exact ⟨f, HM3.out.1, rfl, ((((Mod.refl noB w).alloc _).trans HM1.out).trans HM2.out.1).trans HM3.out.2⟩
end Go.Proofs.Ytogalmkeipigeaa

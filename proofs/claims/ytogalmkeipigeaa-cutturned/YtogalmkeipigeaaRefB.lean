/- The document's side: Cut, Check. -/
import Derived.Test.YtogalmkeipigeaaWhole
set_option linter.unusedSimpArgs false
set_option linter.unusedVariables false
namespace Go.Proofs.Ytogalmkeipigeaa
open Go.RowKit

set_option maxRecDepth 100000 in
set_option maxHeartbeats 2000000 in
theorem refCut_any (W H : Int) (ao : Option Addr) (zs : List Int) (cap : Nat) (w : World) (hs : IntsAt w ao zs) :
    Calls Try.prog 30 #[cutV W H ao zs.length cap] w fun e w' => e = .returned (.bool (isCutB W H zs)) ∧ Mod noB w w' := by
  have hsm := hs.small
  have HI := Hold.mk (hs.alloc (.cells #[.int .i64 W, .int .i64 H, .slice ao zs.length cap] 24))
  clear hs
  by_cases h1 : 1 ≤ W ∧ W ≤ 12
  · have Hin := Hold.mk (in_is W 1 12 true (by simp; omega))
    by_cases h2 : 1 ≤ H ∧ H ≤ 12
    · have Hin2 := Hold.mk (in_is H 1 12 true (by simp; omega))
      obtain ⟨w1, w2⟩ := h1
      obtain ⟨h1, h2⟩ := h2
      have m1 : 0 ≤ W * H := Int.mul_nonneg (by omega) (by omega)
      have m2 : W * H ≤ 12 * 12 := Int.mul_le_mul (by omega) (by omega) (by omega) (by omega)
      have m3 : -9223372036854775808 ≤ W * H := by omega
      have m4 : W * H ≤ 9223372036854775807 := by omega
      by_cases h5 : (zs.length : Int) = W * H
      · have h5' : ((zs.length : Int) != W * H) = false := by simp [h5]
        have HE : Hold (isCutB W H zs = !(zs.any fun z => decide (z < 0) || decide (40 ≤ z))) := ⟨by rw [isCutB, decide_eq_true (by omega), decide_eq_true h5]; rfl⟩
        clear h5
        go_enter Try.func30, Try.ntmps30
        go_wp2_with (first
          | (go_at_call 59; refine (Hin.out _).mono ?_; rintro e w' ⟨rfl, rfl⟩; clear Hin)
          | (go_at_call 59; refine (Hin2.out _).mono ?_; rintro e w' ⟨rfl, rfl⟩))
        go_loop [3] (fun i => ∃ k : Nat, k ≤ zs.length ∧ i = .int .i64 k ∧ Hold (∀ j, j < k → 0 ≤ zs[j]?.getD 0 ∧ zs[j]?.getD 0 < 40)) (fun i => zs.length - (intOf i).toNat)
        case atStart => exact ⟨0, Nat.zero_le _, rfl, ⟨fun j h => by omega⟩⟩
        case round =>
          obtain ⟨k, hk, rfl, HJ⟩ := hrel
          by_cases hlt : k < zs.length
          · obtain ⟨b, off, rfl, _, hc⟩ := HI.out.lies (fun e => by simp [e] at hlt)
            obtain ⟨z, hz⟩ : ∃ z, z = zs[k]?.getD 0 := ⟨_, rfl⟩
            have hcell := hc k hlt
            rw [← hz] at hcell
            have HZ := Hold.mk hz
            clear hc hz
            by_cases h0 : 0 ≤ z ∧ z < 40
            · have Hi3 := Hold.mk (in_is z 0 39 true (by simp; omega))
              obtain ⟨z1, z2⟩ := h0
              go_wp2_with (go_at_call 59; refine (Hi3.out _).mono ?_; rintro e w' ⟨rfl, rfl⟩)
              go_round
              case rel => exact ⟨k + 1, by omega, by go_num, ⟨fun j hj => by
                by_cases e : j = k
                · subst e; rw [← HZ.out]; exact ⟨z1, z2⟩
                · exact HJ.out j (by omega)⟩⟩
              case measure => simp [intOf]; omega
            · have Hi3 := Hold.mk (in_is z 0 39 false (by simp; omega))
              have HB : Hold (isCutB W H zs = false) := ⟨by
                have : (zs.any fun z => decide (z < 0) || decide (40 ≤ z)) = true := by
                  rw [List.any_eq_true]
                  exact ⟨z, by rw [HZ.out, List.getElem?_eq_getElem hlt]; exact List.getElem_mem hlt, by simp; omega⟩
                rw [HE.out, this]; rfl⟩
              clear h0
              go_wp2_with (go_at_call 59; refine (Hi3.out _).mono ?_; rintro e w' ⟨rfl, rfl⟩)
              go_ret
              exact ⟨ret_bool HB.out.symm, (Mod.refl _ _).alloc _⟩
          · obtain rfl : k = zs.length := by omega
            go_wp2
            go_ret
            refine ⟨ret_bool ?_, (Mod.refl _ _).alloc _⟩
            have : (zs.any fun z => decide (z < 0) || decide (40 ≤ z)) = false := by
              rw [List.any_eq_false]
              intro z hz
              obtain ⟨j, hj, rfl⟩ := List.getElem_of_mem hz
              have := HJ.out j hj
              rw [List.getElem?_eq_getElem hj] at this
              simp at this ⊢; omega
            rw [HE.out, this]; rfl
      · have h5' : ((zs.length : Int) != W * H) = true := by simpa using h5
        have HE : Hold (isCutB W H zs = false) := ⟨by rw [isCutB, decide_eq_false h5]; simp⟩
        clear h5
        go_enter Try.func30, Try.ntmps30
        go_wp2_with (first
          | (go_at_call 59; refine (Hin.out _).mono ?_; rintro e w' ⟨rfl, rfl⟩; clear Hin)
          | (go_at_call 59; refine (Hin2.out _).mono ?_; rintro e w' ⟨rfl, rfl⟩))
        go_ret
        exact ⟨ret_bool HE.out.symm, (Mod.refl _ _).alloc _⟩
    · have Hin2 := Hold.mk (in_is H 1 12 false (by simp; omega))
      have HE : Hold (isCutB W H zs = false) := ⟨by rw [isCutB, decide_eq_false (by omega)]; rfl⟩
      obtain ⟨w1, w2⟩ := h1
      clear h2
      go_enter Try.func30, Try.ntmps30
      go_wp2_with (first
        | (go_at_call 59; refine (Hin.out _).mono ?_; rintro e w' ⟨rfl, rfl⟩; clear Hin)
        | (go_at_call 59; refine (Hin2.out _).mono ?_; rintro e w' ⟨rfl, rfl⟩))
      go_ret
      exact ⟨ret_bool HE.out.symm, (Mod.refl _ _).alloc _⟩
  · have Hin := Hold.mk (in_is W 1 12 false (by simp; omega))
    have HE : Hold (isCutB W H zs = false) := ⟨by rw [isCutB, decide_eq_false (by omega)]; rfl⟩
    clear h1
    go_enter Try.func30, Try.ntmps30
    go_wp2_with (go_at_call 59; refine (Hin.out _).mono ?_; rintro e w' ⟨rfl, rfl⟩)
    go_ret
    exact ⟨ret_bool HE.out.symm, (Mod.refl _ _).alloc _⟩

/-! ### Check, on both sides -/
open Classical in
/-- In how many parts the cells of a number are: none, one, or more. -/
noncomputable def partF (g : Int × Int → Option Int) (W H : Nat) (n : Nat) : Int := if ∀ p, inPic W H p → atG g p ≠ (n : Int) then 0 else if WholeP g W H n then 1 else 2

theorem partF_none {g : Int × Int → Option Int} {W H n : Nat} : partF g W H n = 0 ↔ ∀ p, inPic W H p → atG g p ≠ (n : Int) := by
  unfold partF
  split
  · rename_i h; exact ⟨fun _ => h, fun _ => rfl⟩
  · rename_i h; refine ⟨fun e => ?_, fun k => absurd k h⟩
    split at e <;> cases e
theorem partF_one {g : Int × Int → Option Int} {W H n : Nat} : 1 < partF g W H n ↔ ¬ WholeP g W H n := by
  unfold partF
  split
  · rename_i h
    refine ⟨fun e => (by omega), fun k => absurd (fun p q hp _ hpn _ => absurd hpn (h p hp)) k⟩
  · split
    · rename_i h; exact ⟨fun e => (by omega), fun k => absurd h k⟩
    · rename_i h; exact ⟨fun _ => h, fun _ => by omega⟩

theorem findIdx_congr {α : Type} {p q : α → Bool} : ∀ l : List α, (∀ x ∈ l, p x = q x) → l.findIdx? p = l.findIdx? q
  | [], _ => rfl
  | a :: l, h => by rw [List.findIdx?_cons, List.findIdx?_cons, h a (by simp), findIdx_congr l (fun x hx => h x (by simp [hx]))]
theorem idxOf_firsts (p : Int → Bool) (f f' : Nat → Int) (N : Nat) (h : ∀ n, n < N → p (f n) = p (f' n)) : idxOf p (firsts f N) = idxOf p (firsts f' N) := by
  unfold idxOf firsts
  rw [List.findIdx?_map, List.findIdx?_map]
  have := findIdx_congr (p := p ∘ f) (q := p ∘ f') (List.range N) (fun x hx => h x (List.mem_range.1 hx))
  rw [this]
theorem countR_part {g : Int × Int → Option Int} {W H : Nat} (G : Grid g W H) {f : Nat → Int} (hf : PartsOf g W H f) {N : Nat} (hN : N ≤ 40) : countR f N = countR (partF g W H) N := by
  have h0 : ∀ n, n < N → ((0 : Int) == f n) = ((0 : Int) == partF g W H n) := fun n hn => by
    rw [Bool.eq_iff_iff, beq_iff_eq, beq_iff_eq, eq_comm, hf.none G (by omega), eq_comm, partF_none]
  have h1 : ∀ n, n < N → decide (1 < f n) = decide (1 < partF g W H n) := fun n hn => by
    rw [Bool.eq_iff_iff, decide_eq_true_eq, decide_eq_true_eq, hf.one G (by omega), partF_one]
    constructor
    · rintro ⟨p, q, hp, hq, hpn, hqn, hc⟩ hw
      exact hc (hw p q hp hq hpn hqn)
    · intro hw
      apply Classical.byContradiction
      intro hn
      exact hw (fun p q hp hq hpn hqn => Classical.byContradiction fun hc => hn ⟨p, q, hp, hq, hpn, hqn, hc⟩)
  unfold countR
  rw [idxOf_firsts (fun z => (0 : Int) == z) f (partF g W H) N h0, idxOf_firsts (fun z => decide (1 < z)) f (partF g W H) N h1]

/-- What Check returns. -/
noncomputable def checkR (W H : Int) (zs : List Int) : Int × Int := if isCutB W H zs then countR (partF (laidG W.toNat zs zs.length) W.toNat H.toNat) (many zs) else (0, 1)
theorem checkR_good {W H : Nat} {zs : List Int} (h : isCutB W H zs = true) : checkR W H zs = countR (partF (laidG W zs zs.length) W H) (many zs) := by
  unfold checkR; rw [if_pos h]; simp
theorem checkR_bad {W H : Int} {zs : List Int} (h : isCutB W H zs = false) : checkR W H zs = (0, 1) := by
  unfold checkR; rw [h]; rfl

theorem check_any (W H : Int) (ao : Option Addr) (zs : List Int) (cap : Nat) (w : World) (hs : IntsAt w ao zs) :
    Calls Try.prog 14 #[cutV W H ao zs.length cap] w fun e w' => e = .returned (.tuple #[.int .i64 (checkR W H zs).1, .int .i64 (checkR W H zs).2]) ∧ Mod noB w w' := by
  cases hb : isCutB W H zs with
  | false => rw [checkR_bad hb]; exact check_bad W H ao zs cap w hs hb
  | true =>
    obtain ⟨W, H, rfl, rfl, C⟩ := isCutB_true hb
    rw [checkR_good hb]
    refine (check_good C ao cap w hs hb).mono ?_
    rintro e w' ⟨f, hf, rfl, hM⟩
    rw [countR_part C.grid hf C.many_le.2]
    exact ⟨rfl, hM⟩

theorem count_none {W H : Nat} {zs : List Int} (C : CutN W H zs) (k : Int) : (∀ p, inPic W H p → atG (laidG W zs zs.length) p ≠ k) ↔ zs.count k = 0 := by
  rw [List.count_eq_zero]
  constructor
  · intro h hm
    obtain ⟨i, hi, e⟩ := List.getElem_of_mem hm
    exact h _ (C.cin hi) (by rw [C.gi hi, List.getElem?_eq_getElem hi]; exact e)
  · intro h p hp e
    obtain ⟨i, hi, rfl⟩ := C.of_in hp
    rw [C.gi hi, List.getElem?_eq_getElem hi] at e
    exact h (e ▸ List.getElem_mem hi)

theorem greatest_mem {zs : List Int} (hne : zs ≠ []) (h0 : ∀ z ∈ zs, 0 ≤ z) : greatest zs ∈ zs := by
  have key : ∀ (l : List Int) (a : Int), l.foldl max a = a ∨ l.foldl max a ∈ l := by
    intro l
    induction l with
    | nil => exact fun a => .inl rfl
    | cons x l ih =>
      intro a
      rw [List.foldl_cons]
      rcases ih (max a x) with h | h
      · rw [h]
        by_cases e : a ≤ x
        · exact .inr (by rw [show max a x = x by omega]; simp)
        · exact .inl (by omega)
      · exact .inr (List.mem_cons_of_mem _ h)
  unfold greatest
  rcases key zs 0 with h | h
  · cases zs with
    | nil => exact absurd rfl hne
    | cons x l =>
      have hx := h0 x (by simp)
      rw [List.foldl_cons] at h ⊢
      rw [show max 0 x = x by omega] at h ⊢
      rcases key l x with k | k
      · rw [k]; simp
      · exact List.mem_cons_of_mem _ k
  · exact h

theorem checkR_4 {W H : Nat} {zs : List Int} (C : CutN W H zs) (h : isCutB W H zs = true) {k : Nat} (hk : (k : Int) < greatest zs) (h0 : zs.count (k : Int) = 0) (h1 : ∀ j : Nat, j < k → zs.count (j : Int) ≠ 0) : checkR W H zs = ((k : Int), 4) := by
  rw [checkR_good h]
  have hm := many_eq zs
  refine countR_a (idxOf_at (by rw [firsts_len]; omega) ?_ ?_) (by omega)
  · rw [firsts_at (by omega)]
    rw [partF_none.2 ((count_none C k).2 h0)]; rfl
  · intro j hj
    rw [firsts_at (by omega)]
    have : partF (laidG W zs zs.length) W H j ≠ 0 := fun e => h1 j hj ((count_none C j).1 (partF_none.1 e))
    simpa using Ne.symm this
theorem firsts_none {W H : Nat} {zs : List Int} (C : CutN W H zs) (h1 : ∀ j : Nat, (j : Int) < greatest zs → zs.count (j : Int) ≠ 0) : idxOf (fun z => (0 : Int) == z) (firsts (partF (laidG W zs zs.length) W H) (many zs)) = -1 := by
  have hm := many_eq zs
  refine idxOf_none (fun j hj => ?_)
  rw [firsts_len] at hj
  rw [firsts_at hj]
  have : partF (laidG W zs zs.length) W H j ≠ 0 := fun e => by
    have h2 := (count_none C j).1 (partF_none.1 e)
    by_cases hlt : (j : Int) < greatest zs
    · exact h1 j hlt h2
    · have e : (j : Int) = greatest zs := by omega
      rw [e, List.count_eq_zero] at h2
      exact h2 (greatest_mem C.pos (fun z hz => (C.num z hz).1))
  simpa using Ne.symm this
theorem checkR_6 {W H : Nat} {zs : List Int} (C : CutN W H zs) (h : isCutB W H zs = true) (h1 : ∀ j : Nat, (j : Int) < greatest zs → zs.count (j : Int) ≠ 0) {k : Nat} (hk : (k : Int) ≤ greatest zs)
    (h2 : ¬ WholeP (laidG W zs zs.length) W H k) (h3 : ∀ j : Nat, j < k → WholeP (laidG W zs zs.length) W H j) : checkR W H zs = ((k : Int), 6) := by
  rw [checkR_good h]
  have hm := many_eq zs
  refine countR_b (firsts_none C h1) (by omega) (idxOf_at (by rw [firsts_len]; omega) ?_ ?_) (by omega)
  · rw [firsts_at (by omega)]
    exact decide_eq_true (partF_one.2 h2)
  · intro j hj
    rw [firsts_at (by omega)]
    exact decide_eq_false (fun e => partF_one.1 e (h3 j hj))
theorem checkR_0 {W H : Nat} {zs : List Int} (C : CutN W H zs) (h : isCutB W H zs = true) (h1 : ∀ j : Nat, (j : Int) < greatest zs → zs.count (j : Int) ≠ 0)
    (h3 : ∀ j : Nat, (j : Int) ≤ greatest zs → WholeP (laidG W zs zs.length) W H j) : checkR W H zs = ((many zs : Int), 0) := by
  rw [checkR_good h]
  have hm := many_eq zs
  refine countR_c (firsts_none C h1) (by omega) (idxOf_none (fun j hj => ?_)) (by omega)
  rw [firsts_len] at hj
  rw [firsts_at hj]
  exact decide_eq_false (fun e => partF_one.1 e (h3 j (by omega)))

theorem ret_two {a b : Int} {r : Int × Int} (h : r = (a, b)) : Ending.returned (.tuple #[.int .i64 a, .int .i64 b]) = .returned (.tuple #[.int .i64 r.1, .int .i64 r.2]) := by rw [h]

set_option maxRecDepth 100000 in
set_option maxHeartbeats 2000000 in
theorem refCheck_any (W H : Int) (ao : Option Addr) (zs : List Int) (cap : Nat) (w : World) (hs : IntsAt w ao zs) :
    Calls Try.prog 15 #[cutV W H ao zs.length cap] w fun e w' => e = .returned (.tuple #[.int .i64 (checkR W H zs).1, .int .i64 (checkR W H zs).2]) ∧ Mod noB w w' := by
  have hbc := World.alloc_heap_new w (.cells #[.int .i64 W, .int .i64 H, .slice ao zs.length cap] 24)
  have HI := Hold.mk (hs.alloc (.cells #[.int .i64 W, .int .i64 H, .slice ao zs.length cap] 24))
  have HK : Hold (∀ w1 : World, Mod noB (w.alloc (.cells #[.int .i64 W, .int .i64 H, .slice ao zs.length cap] 24)) w1 → w1.cell? ⟨w.heap.size, 0, none⟩ = some (.int .i64 W) ∧ w1.cell? ⟨w.heap.size, 1, none⟩ = some (.int .i64 H) ∧ w1.cell? ⟨w.heap.size, 2, none⟩ = some (.slice ao zs.length cap) ∧ IntsAt w1 ao zs) :=
    ⟨fun w1 h => by
      have e1 := h.at hbc id
      refine ⟨?_, ?_, ?_, HI.out.mod h (fun _ _ _ _ h => h)⟩ <;> simp [World.cell?, e1]⟩
  have HM0 := Hold.mk ((Mod.refl noB w).alloc (.cells #[.int .i64 W, .int .i64 H, .slice ao zs.length cap] 24))
  have HU := Hold.mk (refCut_any W H ao zs cap _ HI.out)
  clear hs hbc
  cases hb : isCutB W H zs with
  | false =>
    have HR := Hold.mk (checkR_bad hb)
    rw [hb] at HU
    clear hb
    go_enter Try.func15, Try.ntmps15
    go_wp2_with (go_at_call 30; refine HU.out.mono ?_; rintro e w' ⟨rfl, hMw⟩; have HMw := Hold.mk hMw; clear hMw)
    go_ret2
    exact ⟨ret_two HR.out, HM0.out.trans HMw.out⟩
  | true =>
    obtain ⟨W, H, rfl, rfl, C⟩ := isCutB_true hb
    have HC := Hold.mk (And.intro C hb)
    have hg1 := greatest_nonneg zs
    have hg2 := greatest_lt C.num
    rw [hb] at HU
    clear hb C
    go_enter Try.func15, Try.ntmps15
    go_wp2_with (go_at_call 30; refine HU.out.mono ?_; rintro e w0 ⟨rfl, hM0⟩; have HW0 := Hold.mk hM0; clear hM0)
    go_loopw [4] (fun i wr => ∃ k : Nat, i = .int .i64 k ∧ (k : Int) ≤ greatest zs ∧ Mod noB (w.alloc (.cells #[.int .i64 W, .int .i64 H, .slice ao zs.length cap] 24)) wr ∧ Hold (∀ j : Nat, j < k → zs.count (j : Int) ≠ 0)) (fun i _ => (greatest zs).toNat - (intOf i).toNat)
    case atStart => exact ⟨0, rfl, hg1, HW0.out, ⟨fun j h => by omega⟩⟩
    case round =>
      obtain ⟨k, rfl, hk, hmr, HJ⟩ := hrel
      obtain ⟨c0, c1, c2, hIr⟩ := HK.out wr hmr
      have HG := Hold.mk (refGreatest_any W H ao zs cap wr hIr)
      have HMr := Hold.mk hmr
      clear hIr hmr
      by_cases hlt : (k : Int) < greatest zs
      · by_cases h0 : zs.count (k : Int) = 0
        · have hcb : (((zs.count (k : Int) : Nat) : Int) == 0) = true := by simp [h0]
          have HR := Hold.mk (checkR_4 HC.out.1 HC.out.2 hlt h0 HJ.out)
          clear h0
          go_wp2_with (first
            | (go_at_call 44; refine HG.out.mono ?_; rintro e w1 ⟨rfl, hM1⟩; obtain ⟨d0, d1, d2, hI2⟩ := HK.out w1 (HMr.out.trans hM1); have HC2 := Hold.mk (refCells_any W H ao zs cap k w1 hI2); have HM1 := Hold.mk hM1; clear hI2 hM1)
            | (go_at_call 31; refine HC2.out.mono ?_; rintro e w2 ⟨rfl, hM2⟩; have HM2 := Hold.mk hM2; clear hM2))
          go_ret2
          exact ⟨ret_two HR.out, ((HM0.out.trans HMr.out).trans HM1.out).trans HM2.out⟩
        · have hcb : (((zs.count (k : Int) : Nat) : Int) == 0) = false := by simp; simpa using h0
          have H0 := Hold.mk h0
          clear h0
          go_wp2_with (first
            | (go_at_call 44; refine HG.out.mono ?_; rintro e w1 ⟨rfl, hM1⟩; obtain ⟨d0, d1, d2, hI2⟩ := HK.out w1 (HMr.out.trans hM1); have HC2 := Hold.mk (refCells_any W H ao zs cap k w1 hI2); have HM1 := Hold.mk hM1; clear hI2 hM1)
            | (go_at_call 31; refine HC2.out.mono ?_; rintro e w2 ⟨rfl, hM2⟩; have HM2 := Hold.mk hM2; clear hM2))
          go_roundw
          case rel => exact ⟨k + 1, by go_num, by omega, (HMr.out.trans HM1.out).trans HM2.out, ⟨fun j hj => by
            by_cases e : j = k
            · subst e; exact H0.out
            · exact HJ.out j (by omega)⟩⟩
          case measure => simp [intOf]; omega
      · have HA : Hold (∀ j : Nat, (j : Int) < greatest zs → zs.count (j : Int) ≠ 0) := ⟨fun j hj => HJ.out j (by omega)⟩
        clear HJ c0 c1 c2
        obtain ⟨c0, c1, c2, _⟩ := HK.out wr HMr.out
        go_wp2_with (go_at_call 44; refine HG.out.mono ?_; rintro e w1 ⟨rfl, hM1⟩; have HM1 := Hold.mk (HMr.out.trans hM1); clear hM1)
        clear HG c0 c1 c2
        go_loopw [5] (fun i wr => ∃ k : Nat, i = .int .i64 k ∧ (k : Int) ≤ greatest zs + 1 ∧ Mod noB (w.alloc (.cells #[.int .i64 W, .int .i64 H, .slice ao zs.length cap] 24)) wr ∧ Hold (∀ j : Nat, j < k → WholeP (laidG W zs zs.length) W H j)) (fun i _ => (greatest zs).toNat + 1 - (intOf i).toNat)
        case atStart => exact ⟨0, rfl, by omega, HM1.out, ⟨fun j h => by omega⟩⟩
        case round =>
          obtain ⟨k2, rfl, hk2, hmr2, HJ⟩ := hrel
          obtain ⟨c0, c1, c2, hIr⟩ := HK.out _ hmr2
          have HG := Hold.mk (refGreatest_any W H ao zs cap _ hIr)
          have HMr2 := Hold.mk hmr2
          clear hIr hmr2
          by_cases hlt2 : (k2 : Int) ≤ greatest zs
          · by_cases hw : WholeP (laidG W zs zs.length) W H k2
            · have HW := Hold.mk hw
              clear hw
              go_wp2_with (first
                | (go_at_call 44; refine HG.out.mono ?_; rintro e w1 ⟨rfl, hM1⟩; obtain ⟨d0, d1, d2, hI2⟩ := HK.out w1 (HMr2.out.trans hM1); have HC2 := Hold.mk (whole_any HC.out.1 ao cap k2 w1 hI2); have HM3 := Hold.mk hM1; clear hI2 hM1)
                | (go_at_call 45; refine HC2.out.mono ?_; rintro e w2 ⟨b, rfl, hbw, hM2⟩; obtain rfl := hbw.2 HW.out; clear hbw; have HM2 := Hold.mk hM2; clear hM2))
              go_roundw
              case rel => exact ⟨k2 + 1, by go_num, by omega, (HMr2.out.trans HM3.out).trans HM2.out, ⟨fun j hj => by
                by_cases e : j = k2
                · subst e; exact HW.out
                · exact HJ.out j (by omega)⟩⟩
              case measure => simp [intOf]; omega
            · have HR := Hold.mk (checkR_6 HC.out.1 HC.out.2 HA.out hlt2 hw HJ.out)
              have HW := Hold.mk hw
              clear hw
              go_wp2_with (first
                | (go_at_call 44; refine HG.out.mono ?_; rintro e w1 ⟨rfl, hM1⟩; obtain ⟨d0, d1, d2, hI2⟩ := HK.out w1 (HMr2.out.trans hM1); have HC2 := Hold.mk (whole_any HC.out.1 ao cap k2 w1 hI2); have HM3 := Hold.mk hM1; clear hI2 hM1)
                | (go_at_call 45; refine HC2.out.mono ?_; rintro e w2 ⟨b, rfl, hbw, hM2⟩; obtain rfl : b = false := (by cases b with | false => rfl | true => exact absurd (hbw.1 rfl) HW.out); clear hbw; have HM2 := Hold.mk hM2; clear hM2))
              go_ret2
              exact ⟨ret_two HR.out, ((HM0.out.trans HMr2.out).trans HM3.out).trans HM2.out⟩
          · have HR := Hold.mk (checkR_0 HC.out.1 HC.out.2 HA.out (fun j hj => HJ.out j (by omega)))
            have hm := many_eq zs
            go_wp2_with (first
              | (go_at_call 44; refine HG.out.mono ?_; rintro e w1 ⟨rfl, hM1⟩; obtain ⟨d0, d1, d2, hI2⟩ := HK.out w1 (HMr2.out.trans hM1); have HG2 := Hold.mk (refGreatest_any W H ao zs cap w1 hI2); have HM3 := Hold.mk hM1; clear HG hI2 hM1)
              | (go_at_call 44; refine HG2.out.mono ?_; rintro e w2 ⟨rfl, hM2⟩; have HM2 := Hold.mk hM2; clear hM2))
            go_ret2
            exact ⟨ret_two HR.out, ((HM0.out.trans HMr2.out).trans HM3.out).trans HM2.out⟩
end Go.Proofs.Ytogalmkeipigeaa

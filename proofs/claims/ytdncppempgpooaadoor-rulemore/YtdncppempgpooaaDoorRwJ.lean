/- The document's Follow. -/
import Derived.Test.YtdncppempgpooaaDoorRwI
set_option linter.unusedSimpArgs false
set_option linter.unusedVariables false
namespace Go.Proofs.YtdncppempgpooaaDoor
open Go.RowKit Go.Shelf

/-- What the sets behind the first one cost. -/
def goC (d : Dye) : Nat → List Nat → Int
  | 0, _ => 0
  | n + 1, p => priceR d ((p.drop 1).headD 0) + goC d n (p.drop 1)
theorem goC_nil (d : Dye) (n : Nat) : ∀ p : List Nat, p.length ≤ 1 → goC d n p = 0 := by
  induction n with
  | zero => intro p _; rfl
  | succ n ih =>
    intro p hp
    have h1 : p.drop 1 = [] := List.drop_eq_nil_of_le hp
    have : goC d (n + 1) p = priceR d ((p.drop 1).headD 0) + goC d n (p.drop 1) := rfl
    rw [this, h1, ih [] (by simp)]
    rfl
theorem goC_plan (d : Dye) (q : List Nat) : ∀ (n a : Nat), q.length ≤ n → goC d n (a :: q) = (q.map (priceR d)).sum := by
  induction q with
  | nil => intro n a _; exact goC_nil d n [a] (by simp)
  | cons b q ih =>
    intro n a hn
    cases n with
    | zero => simp at hn
    | succ n =>
      have : goC d (n + 1) (a :: b :: q) = priceR d b + goC d n (b :: q) := rfl
      rw [this, ih n b (by simpa using hn)]
      simp
theorem goR_bad (d : Dye) (l : List (Int × Int)) : ∀ (i : Nat) (r : Nat → Int) (c : Int) (p : List Nat), goR d i r c l p = match badR d i r l p with
    | some (j, b) => (0, (j : Int), (b : Int), 11)
    | none => (c + goC d l.length p, ((i + l.length : Nat) : Int), 0, 0) := by
  induction l with
  | nil => intro i r c p; simp [goR, badR, goC]
  | cons s ss ih =>
    intro i r c p
    unfold goR badR
    cases hf : failing d (bentR r (p.headD 0)) s with
    | some b => rfl
    | none =>
      simp only []
      rw [ih]
      cases hb : badR d (i + 1) (runR d (bentR r (p.headD 0)) s) ss (p.drop 1) with
      | some x => rfl
      | none =>
        simp only [List.length_cons, goC]
        rw [Int.add_assoc, show i + 1 + ss.length = i + (ss.length + 1) by omega]
theorem follow_is (d : Dye) (l : List (Int × Int)) (p : List Int) (hp : p.length = max 0 (l.length - 1)) : goR d 0 zeroR 0 l (0 :: natsOf p) = match badR d 0 zeroR l (0 :: natsOf p) with
    | some (j, b) => (0, (j : Int), (b : Int), 11)
    | none => (costR d p, (l.length : Int), 0, 0) := by
  rw [goR_bad, goC_plan d (natsOf p) l.length 0 (by simp [natsOf]; omega)]
  cases badR d 0 zeroR l (0 :: natsOf p) with
  | some x => rfl
  | none => simp [natsOf, costR, Function.comp_def]

set_option maxRecDepth 100000 in
set_option maxHeartbeats 4000000 in
theorem refFollow_any (B : Nat) (ao : Option Addr) (cap : Nat) (d : Dye) (lo : Option Addr) (lcap : Nat) (l : List (Int × Int)) (po : Option Addr) (pcap : Nat) (p : List Int) (w : World) (hI : InB B w ao d lo l) (hp : IntsAt w po p) :
    Calls Tryd.prog 19 #[dyV ao d.bl.length cap d, .slice lo l.length lcap, .slice po p.length pcap] w (Four (followE d l p) w) := by
  have hsm := hI.bl.small
  have hsm2 := hI.st.small
  have hsm3 := hp.small
  have HF := Hold.mk (show Kept (w.alloc (.cells (dyC ao d.bl.length cap d) 24)) (fun W => W.heap[w.heap.size]? = some (.cells (dyC ao d.bl.length cap d) 24) ∧ InB B W ao d lo l ∧ IntsAt W po p ∧ Mod noB w W) from fun W h => by
    have hm := ((Mod.refl noB w).alloc _).trans h
    exact ⟨h.at (World.alloc_heap_new w _) id, hI.mod hm, hp.mod hm, hm⟩)
  have H53 : Hold (∀ W, InB B W ao d lo l → Calls Tryd.prog 53 #[dyV ao d.bl.length cap d, .slice lo l.length lcap] W fun e w' => e = .returned (.int .i64 (checkE d l)) ∧ Mod noB W w') := ⟨fun W h => check_any B ao cap d lo lcap l W h⟩
  clear hI hp
  cases hd : dieB d with
  | false =>
    have hE : Hold (followE d l p = (0, 0, 0, 1)) := ⟨by simp [followE, hd]⟩
    rw [show checkE d l = 1 by simp [checkE, hd]] at H53
    clear hd
    go_enter Tryd.func19, Tryd.ntmps19
    go_wp2_with (first
      | (refine wpList_load_row rfl 24 (.tmp 3) rfl w.heap.size rfl 24 _ (0, 0) _ HF.out.now.1 Tryd.underlying24 rfl info24 ?_)
      | (go_at_call 53; refine (H53.out _ HF.out.now.2.1).mono ?_; rintro e w1 ⟨rfl, hM⟩; have HF := Hold.mk (HF.out.later hM); clear hM))
    exact bodyPost_ret (v := .tuple #[.int .i64 0, .int .i64 0, .int .i64 0, .int .i64 1]) (by simp [results, Tryd.results19, go_sem]) rfl (by rw [hE.out]; exact ⟨rfl, HF.out.now.2.2.2⟩)
  | true =>
  cases hs : stintsB l with
  | false =>
    have hE : Hold (followE d l p = (0, 0, 0, 2)) := ⟨by simp [followE, hd, hs]⟩
    rw [show checkE d l = 2 by simp [checkE, hd, hs]] at H53
    clear hd hs
    go_enter Tryd.func19, Tryd.ntmps19
    go_wp2_with (first
      | (refine wpList_load_row rfl 24 (.tmp 3) rfl w.heap.size rfl 24 _ (0, 0) _ HF.out.now.1 Tryd.underlying24 rfl info24 ?_)
      | (go_at_call 53; refine (H53.out _ HF.out.now.2.1).mono ?_; rintro e w1 ⟨rfl, hM⟩; have HF := Hold.mk (HF.out.later hM); clear hM))
    exact bodyPost_ret (v := .tuple #[.int .i64 0, .int .i64 0, .int .i64 0, .int .i64 2]) (by simp [results, Tryd.results19, go_sem]) rfl (by rw [hE.out]; exact ⟨rfl, HF.out.now.2.2.2⟩)
  | true =>
  rw [show checkE d l = 0 by simp [checkE, hd, hs]] at H53
  obtain ⟨⟨_, l5⟩, _⟩ := dieB_parts hd
  have H30 : Hold (∀ W, IntsAt W po p → Calls Tryd.prog 30 #[dyV ao d.bl.length cap d, .slice lo l.length lcap, .slice po p.length pcap] W fun e w' => e = .returned (.bool (planB d l p)) ∧ Mod noB W w') := ⟨fun W h => plans_any B ao cap d lo lcap l.length l po pcap p W rfl hsm2 l5 h⟩
  cases hpl : planB d l p with
  | false =>
    have hE : Hold (followE d l p = (0, 0, 0, 2)) := ⟨by simp [followE, hd, hs, hpl]⟩
    rw [hpl] at H30
    clear hd hs hpl
    go_enter Tryd.func19, Tryd.ntmps19
    go_wp2_with (first
      | (refine wpList_load_row rfl 24 (.tmp 3) rfl w.heap.size rfl 24 _ (0, 0) _ HF.out.now.1 Tryd.underlying24 rfl info24 ?_)
      | (go_at_call 53; refine (H53.out _ HF.out.now.2.1).mono ?_; rintro e w1 ⟨rfl, hM⟩; have HF := Hold.mk (HF.out.later hM); clear hM)
      | (go_at_call 30; refine (H30.out _ HF.out.now.2.2.1).mono ?_; rintro e w2 ⟨rfl, hM⟩; have HF := Hold.mk (HF.out.later hM); clear hM))
    exact bodyPost_ret (v := .tuple #[.int .i64 0, .int .i64 0, .int .i64 0, .int .i64 2]) (by simp [results, Tryd.results19, go_sem]) rfl (by rw [hE.out]; exact ⟨rfl, HF.out.now.2.2.2⟩)
  | true =>
  have hlen : p.length = max 0 (l.length - 1) := by simp [planB] at hpl; omega
  have hl7 : l.length ≤ 7 := by simp [stintsB] at hs; omega
  have hpx : ∀ x ∈ p, 0 ≤ x ∧ x ≤ 31 := fun x hx => by
    simp only [planB, Bool.and_eq_true, List.all_eq_true] at hpl
    obtain ⟨a1, a2⟩ := fromB_parts (hpl.2 x hx)
    have := pow_bd l5
    have := @allS_int d
    omega
  have hE : Hold (followE d l p = match badR d 0 zeroR l (0 :: natsOf p) with
    | some (j, b) => (0, (j : Int), (b : Int), 11)
    | none => (costR d p, (l.length : Int), 0, 0)) := ⟨by rw [← follow_is d l p hlen]; simp [followE, hd, hs, hpl]⟩
  have H29 : Hold (∀ W, InB B W ao d lo l → IntsAt W po p → Calls Tryd.prog 29 #[dyV ao d.bl.length cap d, .slice lo l.length lcap, .slice po p.length pcap] W fun e w' => e = .returned (badV (badR d 0 zeroR l (0 :: natsOf p))) ∧ Mod noB W w') := ⟨fun W h1 h2 => bad_any B ao cap d lo lcap l po pcap p W hd hs hpl h1 h2⟩
  have H31 : Hold (∀ W, IntsAt W po p → Calls Tryd.prog 31 #[dyV ao d.bl.length cap d, .slice po p.length pcap] W fun e w' => e = .returned (.int .i64 (costR d p)) ∧ Mod noB W w') := ⟨fun W h => refCost_any B ao cap d po pcap p W hd h (by omega) hpx⟩
  rw [hpl] at H30
  clear hlen hpx
  generalize badR d 0 zeroR l (0 :: natsOf p) = o at *
  generalize costR d p = cst at *
  clear hd hs hpl
  match o with
  | some (j, b) =>
    simp only [badV] at H29
    go_enter Tryd.func19, Tryd.ntmps19
    go_wp2_with (first
      | (refine wpList_load_row rfl 24 (.tmp 3) rfl w.heap.size rfl 24 _ (0, 0) _ HF.out.now.1 Tryd.underlying24 rfl info24 ?_)
      | (go_at_call 53; refine (H53.out _ HF.out.now.2.1).mono ?_; rintro e w1 ⟨rfl, hM⟩; have HF := Hold.mk (HF.out.later hM); clear hM)
      | (go_at_call 30; refine (H30.out _ HF.out.now.2.2.1).mono ?_; rintro e w2 ⟨rfl, hM⟩; have HF := Hold.mk (HF.out.later hM); clear hM)
      | (go_at_call 29; refine (H29.out _ HF.out.now.2.1 HF.out.now.2.2.1).mono ?_; rintro e w3 ⟨rfl, hM⟩; have HF := Hold.mk (HF.out.later hM); clear hM))
    exact bodyPost_ret (v := .tuple #[.int .i64 0, .int .i64 j, .int .i64 b, .int .i64 11]) (by simp [results, Tryd.results19, go_sem]) rfl (by rw [hE.out]; exact ⟨rfl, HF.out.now.2.2.2⟩)
  | none =>
    simp only [badV] at H29
    go_enter Tryd.func19, Tryd.ntmps19
    go_wp2_with (first
      | (refine wpList_load_row rfl 24 (.tmp 3) rfl w.heap.size rfl 24 _ (0, 0) _ HF.out.now.1 Tryd.underlying24 rfl info24 ?_)
      | (go_at_call 53; refine (H53.out _ HF.out.now.2.1).mono ?_; rintro e w1 ⟨rfl, hM⟩; have HF := Hold.mk (HF.out.later hM); clear hM)
      | (go_at_call 30; refine (H30.out _ HF.out.now.2.2.1).mono ?_; rintro e w2 ⟨rfl, hM⟩; have HF := Hold.mk (HF.out.later hM); clear hM)
      | (go_at_call 29; refine (H29.out _ HF.out.now.2.1 HF.out.now.2.2.1).mono ?_; rintro e w3 ⟨rfl, hM⟩; have HF := Hold.mk (HF.out.later hM); clear hM)
      | (go_at_call 31; refine (H31.out _ HF.out.now.2.2.1).mono ?_; rintro e w4 ⟨rfl, hM⟩; have HF := Hold.mk (HF.out.later hM); clear hM))
    exact bodyPost_ret (v := .tuple #[.int .i64 cst, .int .i64 l.length, .int .i64 0, .int .i64 0]) (by simp [results, Tryd.results19, go_sem]) rfl (by rw [hE.out]; exact ⟨rfl, HF.out.now.2.2.2⟩)
end Go.Proofs.YtdncppempgpooaaDoor

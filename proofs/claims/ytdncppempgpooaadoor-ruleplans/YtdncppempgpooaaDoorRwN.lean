/- RulePlans: the law's walk. -/
import Derived.Test.YtdncppempgpooaaDoorRwM
import Derived.Test.YtdncppempgpooaaDoorRvT
set_option linter.unusedSimpArgs false
set_option linter.unusedVariables false
namespace Go.Proofs.YtdncppempgpooaaDoor
open Go.RowKit Go.Shelf

theorem proof_len (d : Dye) (l : List (Int × Int)) : (proofE d l).1.length ≤ l.length ∧ (proofE d l).2.1.length = (proofE d l).1.length := by
  unfold proofE
  split
  · simp
  · split
    · simp
    · split
      · simp
      · simp only [List.length_map]; exact ⟨rowsR_len _ _ _ _ _, trivial⟩
/-- What Proof returns, as lists in memory. -/
theorem proof_lists {v : List (Int × Int) × List Int × Int} {w : World} {e : Ending} {w' : World} (h : ProofOut v w e w') (hl : v.1.length ≤ 100) (hl2 : v.2.1.length = v.1.length) : ∃ a1 k1 a2 k2, e = .returned (.tuple #[.slice a1 v.1.length k1, .slice a2 v.1.length k2, .int .i64 v.2.2]) ∧ ListAt w'.heap.size w' 2 spC a1 v.1 ∧ IntsAt w' a2 v.2.1 ∧ Mod noB w w' := by
  obtain ⟨vR, vB, he, o1, o2, hm⟩ := h
  obtain ⟨a1, k1, rfl, i1⟩ := spans_own o1 rfl (by omega)
  obtain ⟨a2, k2, rfl, i2, _⟩ := ints_of_owns o2 rfl (by omega)
  rw [hl2] at he
  exact ⟨a1, k1, a2, k2, he, i1, i2, hm⟩

set_option maxRecDepth 100000 in
set_option maxHeartbeats 2000000 in
theorem law4_far (ao lo po : Option Addr) (cap n lcap ln pcap pn : Nat) (x y z : Int) (w : World) (hn : n ≤ 9223372036854775807) (hl : ln ≤ 9223372036854775807) (hp : pn ≤ 9223372036854775807) (hf : (10 < (n : Int)) ∨ (12 < (ln : Int)) ∨ (12 < (pn : Int))) (hT : Tab w) :
    Calls Tryd.prog 4 #[.agg #[.slice ao n cap, .int .i64 x, .int .i64 y, .int .i64 z], .slice lo ln lcap, .slice po pn pcap] w fun e w' => e = .returned (.bool true) ∧ Mod noB w w' := by
  have hw1 : 1 < w.heap.size := World.block_lt_of_cell? _ _ (hT.at_ 0 (by omega))
  have HF := Hold.mk (show Kept (w.alloc (.cells #[.slice ao n cap, .int .i64 x, .int .i64 y, .int .i64 z] 24)) (fun W => Tab W ∧ Mod noB w W) from fun W h => by
    have hm := ((Mod.refl noB w).alloc _).trans h
    exact ⟨hT.same (hm.block 1 hw1 id), hm⟩)
  have H12 : Hold (∀ W, Calls Tryd.prog 12 #[.agg #[.slice ao n cap, .int .i64 x, .int .i64 y, .int .i64 z], .slice lo ln lcap, .slice po pn pcap] W fun e w' => e = .returned (.bool true) ∧ Mod noB W w') := ⟨fun W => (far_more ao lo po cap n ln pn lcap pcap x y z W hn hl hp).mono fun e w' h => ⟨by rw [h.1]; congr 2; simp; omega, h.2⟩⟩
  clear hT hw1 hf
  go_enter Tryd.func4, Tryd.ntmps4
  go_wp2_with (first
    | (go_at_call 12; refine (H12.out _).mono ?_; rintro e w1 ⟨rfl, hM⟩; have HF1 := Hold.mk (HF.out.later hM); clear hM)
    | (go_at_call 13; refine (awake_any _ HF1.out.now.1).mono ?_; rintro e w2 ⟨rfl, hM⟩; have HF2 := Hold.mk (HF1.out.later hM); clear hM))
  go_ret
  exact ⟨rfl, HF2.out.now.2⟩

set_option maxRecDepth 100000 in
set_option maxHeartbeats 8000000 in
theorem law4_any (B : Nat) (ao : Option Addr) (cap : Nat) (d : Dye) (lo : Option Addr) (lcap : Nat) (l : List (Int × Int)) (po : Option Addr) (pcap : Nat) (p : List Int) (w : World) (hI : InB B w ao d lo l) (hp : IntsAt w po p) (h1 : ¬ 10 < (d.bl.length : Int)) (h2 : ¬ 12 < (l.length : Int)) (h3 : ¬ 12 < (p.length : Int)) :
    Calls Tryd.prog 4 #[dyV ao d.bl.length cap d, .slice lo l.length lcap, .slice po p.length pcap] w fun e w' => e = .returned (.bool true) ∧ Mod noB w w' := by
  have hsm := hI.bl.small
  have HF := Hold.mk (show Kept (w.alloc (.cells (dyC ao d.bl.length cap d) 24)) (fun W => W.heap[w.heap.size]? = some (.cells (dyC ao d.bl.length cap d) 24) ∧ InB B W ao d lo l ∧ IntsAt W po p ∧ Mod noB w W) from fun W h => by
    have hm := ((Mod.refl noB w).alloc _).trans h
    exact ⟨h.at (World.alloc_heap_new w _) id, hI.mod hm, hp.mod hm, hm⟩)
  have H12 : Hold (∀ W, Calls Tryd.prog 12 #[dyV ao d.bl.length cap d, .slice lo l.length lcap, .slice po p.length pcap] W fun e w' => e = .returned (.bool false) ∧ Mod noB W w') := ⟨fun W => (far_more ao lo po cap d.bl.length l.length p.length lcap pcap d.bound d.stop d.bend W (by omega) (by omega) (by omega)).mono fun e w' h => ⟨by rw [h.1]; congr 2; simp; omega, h.2⟩⟩
  obtain ⟨⟨f1, f2, f3, f4⟩, hfo⟩ : ∃ f, followE d l p = f := ⟨_, rfl⟩
  have H18 : Hold (∀ W, InB B W ao d lo l → IntsAt W po p → Calls Tryd.prog 18 #[dyV ao d.bl.length cap d, .slice lo l.length lcap, .slice po p.length pcap] W fun e w' => e = .returned (.tuple #[.int .i64 f1, .int .i64 f2, .int .i64 f3, .int .i64 f4]) ∧ Mod noB W w') := ⟨fun W h1 h2 => (follow_any B ao cap d lo lcap l po pcap p W h1 h2).mono fun e w' h => by rw [hfo] at h; exact h⟩
  have H19 : Hold (∀ W, InB B W ao d lo l → IntsAt W po p → Calls Tryd.prog 19 #[dyV ao d.bl.length cap d, .slice lo l.length lcap, .slice po p.length pcap] W fun e w' => e = .returned (.tuple #[.int .i64 f1, .int .i64 f2, .int .i64 f3, .int .i64 f4]) ∧ Mod noB W w') := ⟨fun W h1 h2 => (refFollow_any B ao cap d lo lcap l po pcap p W h1 h2).mono fun e w' h => by rw [hfo] at h; exact h⟩
  obtain ⟨hl1, hl2⟩ := proof_len d l
  obtain ⟨⟨R, K, pe⟩, hpr⟩ : ∃ v, proofE d l = v := ⟨_, rfl⟩
  rw [hpr] at hl1 hl2
  simp only at hl1 hl2
  have H20 : Hold (∀ W, InB B W ao d lo l → Calls Tryd.prog 20 #[dyV ao d.bl.length cap d, .slice lo l.length lcap] W fun e w' => ∃ a1 k1 a2 k2, e = .returned (.tuple #[.slice a1 R.length k1, .slice a2 R.length k2, .int .i64 pe]) ∧ ListAt w'.heap.size w' 2 spC a1 R ∧ IntsAt w' a2 K ∧ Mod noB W w') := ⟨fun W h => (proof_any B ao cap d lo lcap l W h).mono fun e w' h => by rw [hpr] at h; exact proof_lists h (by show R.length ≤ 100; omega) hl2⟩
  have H21 : Hold (∀ W, InB B W ao d lo l → Calls Tryd.prog 21 #[dyV ao d.bl.length cap d, .slice lo l.length lcap] W fun e w' => ∃ a1 k1 a2 k2, e = .returned (.tuple #[.slice a1 R.length k1, .slice a2 R.length k2, .int .i64 pe]) ∧ ListAt w'.heap.size w' 2 spC a1 R ∧ IntsAt w' a2 K ∧ Mod noB W w') := ⟨fun W h => (refProof_any B ao cap d lo lcap l W h).mono fun e w' h => by rw [hpr] at h; exact proof_lists h (by show R.length ≤ 100; omega) hl2⟩
  have HK := Hold.mk hl2
  clear hI hp h1 h2 h3 hfo hpr hl1 hl2
  go_enter Tryd.func4, Tryd.ntmps4
  go_wp2_with (first
    | (refine wpList_load_row rfl 24 (.tmp 3) rfl w.heap.size rfl 24 _ (0, 0) _ HF.out.now.1 Tryd.underlying24 rfl info24 ?_)
    | (go_at_call 12; refine (H12.out _).mono ?_; rintro e w1 ⟨rfl, hM⟩; have HF := Hold.mk (HF.out.later hM); clear hM)
    | (go_at_call 18; refine (H18.out _ HF.out.now.2.1 HF.out.now.2.2.1).mono ?_; rintro e w2 ⟨rfl, hM⟩; have HF := Hold.mk (HF.out.later hM); clear hM)
    | (go_at_call 19; refine (H19.out _ HF.out.now.2.1 HF.out.now.2.2.1).mono ?_; rintro e w3 ⟨rfl, hM⟩; have HF := Hold.mk (HF.out.later hM); clear hM)
    | (go_at_call 20; refine (H20.out _ HF.out.now.2.1).mono ?_; rintro e w4 ⟨a1, k1, a2, k2, rfl, i1, i2, hM⟩; have HF := Hold.mk (HF.out.later hM); have HR1 := Hold.mk (kept_spans i1); have HK1 := Hold.mk (kept_ints i2); clear hM i1 i2)
    | (go_at_call 21; refine (H21.out _ HF.out.now.2.1).mono ?_; rintro e w5 ⟨a3, k3, a4, k4, rfl, i1, i2, hM⟩; have HF := Hold.mk (HF.out.later hM); have HR1 := Hold.mk (HR1.out.later hM); have HK1 := Hold.mk (HK1.out.later hM); have HR2 := Hold.mk (kept_spans i1); have HK2 := Hold.mk (kept_ints i2); clear hM i1 i2)
    | (go_at_call 22; refine (callSpans (L := R) rfl rfl HR1.out.now HR2.out.now).mono ?_; rintro e w6 ⟨rfl, hM⟩; have HF := Hold.mk (HF.out.later hM); have HK1 := Hold.mk (HK1.out.later hM); have HK2 := Hold.mk (HK2.out.later hM); clear hM)
    | (go_at_call 23; refine (callInts (L := K) HK.out.symm HK.out.symm HK1.out.now HK2.out.now).mono ?_; rintro e w7 ⟨rfl, hM⟩; have HF := Hold.mk (HF.out.later hM); clear hM)
    | (go_at_call 13; refine (awake_any _ HF.out.now.2.1.tab).mono ?_; rintro e w8 ⟨rfl, hM⟩; have HF := Hold.mk (HF.out.later hM); clear hM))
  go_ret
  exact ⟨rfl, HF.out.now.2.2.2⟩
end Go.Proofs.YtdncppempgpooaaDoor

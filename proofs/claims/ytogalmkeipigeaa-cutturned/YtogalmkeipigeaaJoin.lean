/- Join: two pieces made one. -/
import Derived.Test.YtogalmkeipigeaaSides
import Derived.Test.YtogalmkeipigeaaOutside
import Derived.Deep.RegionHeld3
set_option linter.unusedSimpArgs false
set_option linter.unusedVariables false
namespace Go.Proofs.Ytogalmkeipigeaa
open Go.RowKit

/-- What Join returns: width, height, numbers; the error. -/
noncomputable def joinR (W H : Int) (zs : List Int) (a b : Int) : (Int × Int × List Int) × Int :=
  if (checkR W H zs).2 ≠ 0 then ((0, 0, []), (checkR W H zs).2)
  else if ¬ (0 ≤ a ∧ a < many zs) ∨ ¬ (0 ≤ b ∧ b < many zs) ∨ a = b then ((0, 0, []), 2)
  else if (facedL (laidG W.toNat zs zs.length) W.toNat H.toNat a).count b = 0 then ((0, 0, []), 6)
  else ((W, H, zs.map (jf (min a b) (max a b))), 0)

/-- A cut that a call returns, with an error. -/
def JoinOut (e : Ending) (w w' : World) (r : (Int × Int × List Int) × Int) : Prop :=
  ∃ ao cap, e = .returned (.tuple #[cutV r.1.1 r.1.2.1 ao r.1.2.2.length cap, .int .i64 r.2]) ∧ IntsAt w' ao r.1.2.2 ∧ (∀ b off, r.1.2.2 ≠ [] → ao = some ⟨b, off, none⟩ → w.heap.size ≤ b) ∧ Mod noB w w'

@[reducible] def zeroPicO : Obj := .cells #[.int .i64 0, .int .i64 0, .int .i64 0, .map none] 71
theorem has_b {n : Int} {N : Int} {bb : Bool} (hb : (decide (0 ≤ n) && decide (n < N)) = bb) (W H : Int) (mb : Nat) (w : World) :
    Calls Try.prog 47 #[picV W H N mb, .int .i64 n] w fun e w' => e = .returned (.bool bb) ∧ Mod noB w w' :=
  (has_any W H N mb n w).mono fun _ _ h => ⟨by rw [← hb]; exact h.1, Mod.of_below h.2 rfl⟩

/-- Three cells stored into a block that the call made. -/
theorem cut_stored {w Wj : World} {r : Nat} {x y z : Value} (hM : Mod noB w Wj) (hr : w.heap.size ≤ r) (h0 : Wj.heap[r]? = some (.cells #[x, y, z] 24)) (a b c : Value) :
    (((Wj.setCell ⟨r, 0, none⟩ a).setCell ⟨r, 1, none⟩ b).setCell ⟨r, 2, none⟩ c).heap[r]? = some (.cells #[a, b, c] 24) ∧
    Mod (fun k => k = r) Wj (((Wj.setCell ⟨r, 0, none⟩ a).setCell ⟨r, 1, none⟩ b).setCell ⟨r, 2, none⟩ c) ∧ Mod noB w (((Wj.setCell ⟨r, 0, none⟩ a).setCell ⟨r, 1, none⟩ b).setCell ⟨r, 2, none⟩ c) := by
  refine ⟨by have := setCell_at (setCell_at (setCell_at h0 0 a) 1 b) 2 c; simpa using this, ?_, ?_⟩
  · have m0 := (Mod.refl (fun k => k = r) Wj).setCell (p := ⟨r, 0, none⟩) (fun _ => rfl) a
    have m1 := m0.setCell (p := ⟨r, 1, none⟩) (fun _ => rfl) b
    exact m1.setCell (p := ⟨r, 2, none⟩) (fun _ => rfl) c
  · have m0 := hM.setCell (p := ⟨r, 0, none⟩) (fun h => absurd h (Nat.not_lt.2 hr)) a
    have m1 := m0.setCell (p := ⟨r, 1, none⟩) (fun h => absurd h (Nat.not_lt.2 hr)) b
    exact m1.setCell (p := ⟨r, 2, none⟩) (fun h => absurd h (Nat.not_lt.2 hr)) c

theorem results27 (tmps : Array Value) (w : World) (r : Nat) (cs : Array Value) (hp : tmps.getD 6 undef = .pointer (some ⟨r, 0, none⟩)) (hb : w.heap[r]? = some (.cells cs 24)) (hs : cs.size = 3) :
    (results Try.f27 tmps).run Try.prog w = .ok (.tuple #[.agg cs, tmps.getD 7 undef]) w :=
  results_row_tmp (fn := Try.f27) rfl _ _ r _ _ hp hb Try.underlying24 rfl (by rw [hs]; kernel_rfl)

theorem join_end {tmps : Array Value} {w Wj : World} {r : Nat} {x y z : Value} (e : Int) (hr : w.heap.size ≤ r) (h0 : Wj.heap[r]? = some (.cells #[x, y, z] 24)) (hM : Mod noB w Wj)
    (h6 : tmps.getD 6 undef = .pointer (some ⟨r, 0, none⟩)) (h7 : tmps.getD 7 undef = .int .i64 e) (W' H' : Int) (ao : Option Addr) (L : List Int) (cap : Nat) (hI : IntsAt Wj ao L) (hn : ∀ b off, L ≠ [] → ao = some ⟨b, off, none⟩ → b ≠ r ∧ w.heap.size ≤ b) :
    bodyPost Try.prog Try.f27 (fun e' w' => JoinOut e' w w' ((W', H', L), e)) Exit.ret { tmps := tmps, defers := [] } (((Wj.setCell ⟨r, 0, none⟩ (.int .i64 W')).setCell ⟨r, 1, none⟩ (.int .i64 H')).setCell ⟨r, 2, none⟩ (.slice ao L.length cap)) := by
  obtain ⟨h1, h2, h3⟩ := cut_stored hM hr h0 (.int .i64 W') (.int .i64 H') (.slice ao L.length cap)
  refine bodyPost_ret (v := .tuple #[cutV W' H' ao L.length cap, .int .i64 e]) ((results27 _ _ r _ h6 h1 rfl).trans (by rw [h7])) rfl ?_
  exact ⟨ao, cap, rfl, hI.mod h2 (fun b off hne e => (hn b off hne e).1), fun b off hne e => (hn b off hne e).2, h3⟩

theorem join_end' {L : List Int} {n : Nat} (hL : L.length = n) {tmps : Array Value} {w Wj : World} {r : Nat} {x y z : Value} (e : Int) (hr : w.heap.size ≤ r) (h0 : Wj.heap[r]? = some (.cells #[x, y, z] 24)) (hM : Mod noB w Wj)
    (h6 : tmps.getD 6 undef = .pointer (some ⟨r, 0, none⟩)) (h7 : tmps.getD 7 undef = .int .i64 e) (W' H' : Int) (ao : Option Addr) (cap : Nat) (hI : IntsAt Wj ao L) (hn : ∀ b off, L ≠ [] → ao = some ⟨b, off, none⟩ → b ≠ r ∧ w.heap.size ≤ b) :
    bodyPost Try.prog Try.f27 (fun e' w' => JoinOut e' w w' ((W', H', L), e)) Exit.ret { tmps := tmps, defers := [] } (((Wj.setCell ⟨r, 0, none⟩ (.int .i64 W')).setCell ⟨r, 1, none⟩ (.int .i64 H')).setCell ⟨r, 2, none⟩ (.slice ao n cap)) := by
  subst hL
  exact join_end e hr h0 hM h6 h7 W' H' ao L cap hI hn

set_option maxRecDepth 100000 in
set_option maxHeartbeats 2000000 in
theorem join_no (W H : Int) (ao : Option Addr) (zs : List Int) (cap : Nat) (a b : Int) (w : World) (hs : IntsAt w ao zs) (h : (checkR W H zs).2 ≠ 0) :
    Calls Try.prog 27 #[cutV W H ao zs.length cap, .int .i64 a, .int .i64 b] w fun e w' => JoinOut e w w' (joinR W H zs a b) := by
  have hR : joinR W H zs a b = ((0, 0, []), (checkR W H zs).2) := by unfold joinR; rw [if_pos h]
  rw [hR]
  have HO := Hold.mk (open_no W H ao zs cap _ ((hs.alloc (.cells #[.int .i64 W, .int .i64 H, .slice ao zs.length cap] 24)).alloc (.cells #[.int .i64 0, .int .i64 0, .slice none 0 0] 24)) h)
  clear hR
  generalize (checkR W H zs).2 = e at *
  have he : (e != 0) = true := by simpa using h
  have HM0 := Hold.mk (((Mod.refl noB w).alloc (.cells #[.int .i64 W, .int .i64 H, .slice ao zs.length cap] 24)).alloc (.cells #[.int .i64 0, .int .i64 0, .slice none 0 0] 24))
  have HB : Hold (∀ w1 : World, Mod noB ((w.alloc (.cells #[.int .i64 W, .int .i64 H, .slice ao zs.length cap] 24)).alloc (.cells #[.int .i64 0, .int .i64 0, .slice none 0 0] 24)) w1 → w1.heap[w.heap.size + 1]? = some (.cells #[.int .i64 0, .int .i64 0, .slice none 0 0] 24)) :=
    ⟨fun w1 h => by
      have e2 := h.at (World.alloc_heap_new (w.alloc (.cells #[.int .i64 W, .int .i64 H, .slice ao zs.length cap] 24)) (.cells #[.int .i64 0, .int .i64 0, .slice none 0 0] 24)) id
      simpa using e2⟩
  clear hs h
  go_enter Try.func27, Try.ntmps27
  go_wp2_with (go_at_call 46; refine HO.out.mono ?_; rintro e w1 ⟨rfl, hM1⟩
               have hrr := HB.out _ (hM1.alloc zeroPicO)
               have r0 : (w1.alloc zeroPicO).cell? ⟨w.heap.size + 1, 0, none⟩ = some (.int .i64 0) := (by simp [World.cell?, hrr])
               have r1 : (w1.alloc zeroPicO).cell? ⟨w.heap.size + 1, 1, none⟩ = some (.int .i64 0) := (by simp [World.cell?, hrr])
               have r2 : (w1.alloc zeroPicO).cell? ⟨w.heap.size + 1, 2, none⟩ = some (.slice none 0 0) := (by simp [World.cell?, hrr])
               have q0 := cells_frozen hrr 0; have q1 := cells_frozen hrr 1; have q2 := cells_frozen hrr 2
               have HM1 := Hold.mk hM1; clear hM1 hrr)
  exact join_end _ (Nat.le_succ _) (HB.out _ (HM1.out.alloc _)) (HM0.out.trans (HM1.out.alloc _)) rfl rfl 0 0 none [] 0 ⟨fun h => absurd rfl h, Nat.zero_le _⟩ (fun _ _ h => absurd rfl h)

/-- What Join begins with, behind open and the picture's box. -/
theorem cut_facts {w : World} {W H : Int} {ao : Option Addr} {n cap : Nat} : ∀ w1 : World, Mod noB ((w.alloc (.cells #[.int .i64 W, .int .i64 H, .slice ao n cap] 24)).alloc (.cells #[.int .i64 0, .int .i64 0, .slice none 0 0] 24)) w1 →
    w1.heap[w.heap.size]? = some (.cells #[.int .i64 W, .int .i64 H, .slice ao n cap] 24) ∧ w1.heap[w.heap.size + 1]? = some (.cells #[.int .i64 0, .int .i64 0, .slice none 0 0] 24) := fun w1 h => by
  rw [allocL2] at h
  have a0 := h.at (allocL_at [.cells #[.int .i64 W, .int .i64 H, .slice ao n cap] 24, .cells #[.int .i64 0, .int .i64 0, .slice none 0 0] 24] w 0 _ rfl) id
  have a1 := h.at (allocL_at [.cells #[.int .i64 W, .int .i64 H, .slice ao n cap] 24, .cells #[.int .i64 0, .int .i64 0, .slice none 0 0] 24] w 1 _ rfl) id
  exact ⟨a0, a1⟩
/-- The cells of a cut and of the result, as the walk wants them. -/
def CutAt (w1 : World) (b : Nat) (W H : Int) (ao : Option Addr) (n cap : Nat) : Prop :=
  w1.cell? ⟨b, 0, none⟩ = some (.int .i64 W) ∧ w1.cell? ⟨b, 1, none⟩ = some (.int .i64 H) ∧ w1.cell? ⟨b, 2, none⟩ = some (.slice ao n cap)
def ResAt (w1 : World) (r : Nat) : Prop :=
  w1.cell? ⟨r, 0, none⟩ = some (.int .i64 0) ∧ w1.cell? ⟨r, 1, none⟩ = some (.int .i64 0) ∧ w1.cell? ⟨r, 2, none⟩ = some (.slice none 0 0) ∧ w1.frozen? ⟨r, 0, none⟩ = false ∧ w1.frozen? ⟨r, 1, none⟩ = false ∧ w1.frozen? ⟨r, 2, none⟩ = false
theorem cutAt_of {w1 : World} {b : Nat} {W H : Int} {ao : Option Addr} {n cap : Nat} (h : w1.heap[b]? = some (.cells #[.int .i64 W, .int .i64 H, .slice ao n cap] 24)) : CutAt w1 b W H ao n cap := by
  refine ⟨?_, ?_, ?_⟩ <;> simp [World.cell?, h]
theorem resAt_of {w1 : World} {r : Nat} (h : w1.heap[r]? = some (.cells #[.int .i64 0, .int .i64 0, .slice none 0 0] 24)) : ResAt w1 r := by
  refine ⟨?_, ?_, ?_, cells_frozen h 0, cells_frozen h 1, cells_frozen h 2⟩ <;> simp [World.cell?, h]
def PicAt (w1 : World) (b : Nat) (W H N : Int) (mb : Nat) : Prop :=
  w1.cell? ⟨b, 0, none⟩ = some (.int .i64 W) ∧ w1.cell? ⟨b, 1, none⟩ = some (.int .i64 H) ∧ w1.cell? ⟨b, 2, none⟩ = some (.int .i64 N) ∧ w1.cell? ⟨b, 3, none⟩ = some (.map (some mb))
theorem picAt_of {w1 : World} {b : Nat} {W H N : Int} {mb : Nat} (h : w1.heap[b]? = some (.cells #[.int .i64 W, .int .i64 H, .int .i64 N, .map (some mb)] 71)) : PicAt w1 b W H N mb := by
  refine ⟨?_, ?_, ?_, ?_⟩ <;> simp [World.cell?, h]

/-- The result's block lies; of all that lay it alone may have turned. -/
def RB (w4 : World) (r : Nat) (w' : World) : Prop := (∃ x y z, w'.heap[r]? = some (.cells #[x, y, z] 24)) ∧ Mod (fun k => k = r) w4 w'
theorem RB.later {w4 w' w'' : World} {r : Nat} (h : RB w4 r w') (hm : Mod noB w' w'') : RB w4 r w'' := by
  obtain ⟨⟨x, y, z, hb⟩, h1⟩ := h
  exact ⟨⟨x, y, z, hm.at hb id⟩, h1.then hm (fun _ _ h => h.elim)⟩
theorem RB.set {w4 w' : World} {r : Nat} (h : RB w4 r w') (a b c : Value) : RB w4 r (((w'.setCell ⟨r, 0, none⟩ a).setCell ⟨r, 1, none⟩ b).setCell ⟨r, 2, none⟩ c) := by
  obtain ⟨⟨x, y, z, hb⟩, h1⟩ := h
  refine ⟨⟨a, b, c, by have := setCell_at (setCell_at (setCell_at hb 0 a) 1 b) 2 c; simpa using this⟩, ?_⟩
  have m0 := h1.setCell (p := ⟨r, 0, none⟩) (fun _ => rfl) a
  have m1 := m0.setCell (p := ⟨r, 1, none⟩) (fun _ => rfl) b
  exact m1.setCell (p := ⟨r, 2, none⟩) (fun _ => rfl) c

set_option maxRecDepth 100000 in
set_option maxHeartbeats 4000000 in
theorem join_yes {W H : Nat} {zs : List Int} (C : CutN W H zs) (ao : Option Addr) (cap : Nat) (a b : Int) (w : World) (hs : IntsAt w ao zs) (h : (checkR W H zs).2 = 0) :
    Calls Try.prog 27 #[cutV W H ao zs.length cap, .int .i64 a, .int .i64 b] w fun e w' => JoinOut e w w' (joinR W H zs a b) := by
  have hR : joinR W H zs a b = if ¬ (0 ≤ a ∧ a < many zs) ∨ ¬ (0 ≤ b ∧ b < many zs) ∨ a = b then ((0, 0, []), 2) else if (facedL (laidG W zs zs.length) W H a).count b = 0 then ((0, 0, []), 6) else (((W : Int), (H : Int), zs.map (jf (min a b) (max a b))), 0) := by
    unfold joinR; rw [if_neg (fun h' => h' h)]; rfl
  rw [hR]
  clear hR
  have HO := Hold.mk (open_yes C ao cap _ ((hs.alloc (.cells #[.int .i64 W, .int .i64 H, .slice ao zs.length cap] 24)).alloc (.cells #[.int .i64 0, .int .i64 0, .slice none 0 0] 24)) h)
  have HI := Hold.mk hs
  have HC := Hold.mk C
  have HG := Hold.mk C.grid
  have HM0 := Hold.mk (((Mod.refl noB w).alloc (.cells #[.int .i64 W, .int .i64 H, .slice ao zs.length cap] 24)).alloc (.cells #[.int .i64 0, .int .i64 0, .slice none 0 0] 24))
  have HB := Hold.mk (cut_facts (w := w) (W := W) (H := H) (ao := ao) (n := zs.length) (cap := cap))
  have hN1 := C.many_le.1
  have hN2 := C.many_le.2
  obtain ⟨g, hg⟩ : ∃ g, laidG W zs zs.length = g := ⟨_, rfl⟩
  obtain ⟨N, hN⟩ : ∃ N, many zs = N := ⟨_, rfl⟩
  rw [hN] at HO hN1 hN2 ⊢
  rw [hg] at HG HO ⊢
  clear hs h hN C hg
  have hNi : (N : Int) ≤ 40 := by omega
  obtain ⟨va, hva⟩ : ∃ va, (decide (0 ≤ a) && decide (a < (N : Int))) = va := ⟨_, rfl⟩
  obtain ⟨vb, hvb⟩ : ∃ vb, (decide (0 ≤ b) && decide (b < (N : Int))) = vb := ⟨_, rfl⟩
  have Ha := Hold.mk hva
  have Hb := Hold.mk hvb
  clear hva hvb
  cases va with
  | false =>
    rw [if_pos (.inl (fun h => by have := Ha.out; simp [h.1, h.2] at this))]
    go_enter Try.func27, Try.ntmps27
    go_wp2_with (first
      | (go_at_call 46; refine HO.out.mono ?_; rintro e w1 ⟨mb, rfl, hM1, hmp⟩; have HM1 := Hold.mk (And.intro hM1 hmp); clear hM1 hmp)
      | (go_at_call 47; refine (has_b Ha.out _ _ _ _).mono ?_; rintro e w2 ⟨rfl, hM2⟩
         obtain ⟨r0, r1, r2, q0, q1, q2⟩ := resAt_of (HB.out _ (HM1.out.1.trans (((Mod.refl noB w1).alloc _).trans hM2))).2
         have HM2 := Hold.mk hM2
         clear hM2))
    have hM := HM1.out.1.trans (((Mod.refl noB w1).alloc _).trans HM2.out)
    exact join_end _ (Nat.le_succ _) (HB.out _ hM).2 (HM0.out.trans hM) rfl rfl 0 0 none [] 0 ⟨fun h => absurd rfl h, Nat.zero_le _⟩ (fun _ _ h => absurd rfl h)
  | true =>
    have hab0 := Ha.out
    simp only [Bool.and_eq_true, decide_eq_true_eq] at hab0
    by_cases hab : a = b
    · subst hab
      rw [if_pos (.inr (.inr rfl))]
      clear Hb
      go_enter Try.func27, Try.ntmps27
      go_wp2_with (first
        | (go_at_call 46; refine HO.out.mono ?_; rintro e w1 ⟨mb, rfl, hM1, hmp⟩; have HM1 := Hold.mk (And.intro hM1 hmp); clear hM1 hmp)
        | (go_at_call 47; refine (has_b Ha.out _ _ _ w2).mono ?_; rintro e w3 ⟨rfl, hM3⟩
           obtain ⟨r0, r1, r2, q0, q1, q2⟩ := resAt_of (HB.out _ (HM1.out.1.trans (((Mod.refl noB w1).alloc _).trans (HM2.out.1.trans hM3)))).2
           have HM3 := Hold.mk hM3
           clear hM3)
        | (go_at_call 47; refine (has_b Ha.out _ _ _ (World.alloc _ _)).mono ?_; rintro e w2 ⟨rfl, hM2⟩
           have hpp := hM2.at (World.alloc_heap_new w1 _) id
           obtain ⟨p0, p1, p2, p3⟩ := picAt_of hpp
           have HM2 := Hold.mk (And.intro hM2 hpp)
           clear hM2 hpp))
      have hM := HM1.out.1.trans (((Mod.refl noB w1).alloc _).trans (HM2.out.1.trans HM3.out))
      exact join_end _ (Nat.le_succ _) (HB.out _ hM).2 (HM0.out.trans hM) rfl rfl 0 0 none [] 0 ⟨fun h => absurd rfl h, Nat.zero_le _⟩ (fun _ _ h => absurd rfl h)
    · have hb1 : (a == b) = false := by simpa using hab
      cases vb with
      | false =>
        rw [if_pos (.inr (.inl (fun h => by have := Hb.out; simp [h.1, h.2] at this)))]
        clear hb1 hab
        go_enter Try.func27, Try.ntmps27
        go_wp2_with (first
          | (go_at_call 46; refine HO.out.mono ?_; rintro e w1 ⟨mb, rfl, hM1, hmp⟩; have HM1 := Hold.mk (And.intro hM1 hmp); clear hM1 hmp)
          | (go_at_call 47; refine (has_b Hb.out _ _ _ w2).mono ?_; rintro e w3 ⟨rfl, hM3⟩
             obtain ⟨r0, r1, r2, q0, q1, q2⟩ := resAt_of (HB.out _ (HM1.out.1.trans (((Mod.refl noB w1).alloc _).trans (HM2.out.1.trans hM3)))).2
             have HM3 := Hold.mk hM3
             clear hM3)
          | (go_at_call 47; refine (has_b Ha.out _ _ _ (World.alloc _ _)).mono ?_; rintro e w2 ⟨rfl, hM2⟩
             have hpp := hM2.at (World.alloc_heap_new w1 _) id
             obtain ⟨p0, p1, p2, p3⟩ := picAt_of hpp
             have HM2 := Hold.mk (And.intro hM2 hpp)
             clear hM2 hpp))
        have hM := HM1.out.1.trans (((Mod.refl noB w1).alloc _).trans (HM2.out.1.trans HM3.out))
        exact join_end _ (Nat.le_succ _) (HB.out _ hM).2 (HM0.out.trans hM) rfl rfl 0 0 none [] 0 ⟨fun h => absurd rfl h, Nat.zero_le _⟩ (fun _ _ h => absurd rfl h)
      | true =>
        have hbb0 := Hb.out
        simp only [Bool.and_eq_true, decide_eq_true_eq] at hbb0
        rw [if_neg (fun h => h.elim (fun h => h hab0) (fun h => h.elim (fun h => h hbb0) hab))]
        obtain ⟨kl, hkl⟩ := key3 (n := b) (wf64_of (by omega) (by omega))
        obtain ⟨n, hn⟩ : ∃ n : Int, n = (((facedL g W H a).count b : Nat) : Int) := ⟨_, rfl⟩
        have HLK : Hold (∀ (w' : World) (mb2 : Nat), MapIs Try.prog 3 intV w' mb2 (tal (facedL g W H a)) → (Instr.lookup 78 (.map (some mb2)) (.int .i64 b) false).run Try.prog w' = .ok (.int .i64 n) w') := ⟨fun w' mb2 hm => by
          have := hm.look1 law3 hkl Try.underlying78 (zero3 _)
          rw [tal_getD, ← hn] at this
          exact this⟩
        have HN := Hold.mk hn
        clear hkl hn
        by_cases hc : n = 0
        · have hcb : (n == 0) = true := by simpa using hc
          rw [if_pos (by have := HN.out; omega)]
          clear hc
          go_enter Try.func27, Try.ntmps27
          go_wp2_with (first
            | (go_at_call 46; refine HO.out.mono ?_; rintro e w1 ⟨mb, rfl, hM1, hmp⟩; have HM1 := Hold.mk (And.intro hM1 hmp); clear hM1 hmp)
            | (go_at_call 47; refine (has_b Hb.out _ _ _ w2).mono ?_; rintro e w3 ⟨rfl, hM3⟩
               obtain ⟨p0', p1', p2', p3'⟩ := picAt_of (hM3.at HM2.out.2 id)
               have HM3 := Hold.mk hM3
               clear hM3 p0 p1 p2 p3)
            | (go_at_call 47; refine (has_b Ha.out _ _ _ (World.alloc _ _)).mono ?_; rintro e w2 ⟨rfl, hM2⟩
               have hpp := hM2.at (World.alloc_heap_new w1 _) id
               obtain ⟨p0, p1, p2, p3⟩ := picAt_of hpp
               have HM2 := Hold.mk (And.intro hM2 hpp)
               clear hM2 hpp)
            | (go_at_call 49; refine (faced_any _ _ _ _ _ _).mono ?_; rintro e w4 ⟨rfl, rfl⟩
               have HT := Hold.mk (tallyFaced g W H HG.out N a mb w3 (HM1.out.2.same ((((Mod.refl noB w1).alloc _ |>.trans HM2.out.1).trans HM3.out).block mb HM1.out.2.lt id))))
            | (go_at_call 48; refine HT.out.mono ?_; rintro e w4 ⟨mb2, rfl, hM4, hmp4⟩
               obtain ⟨r0, r1, r2, q0, q1, q2⟩ := resAt_of (HB.out _ (HM1.out.1.trans (((Mod.refl noB w1).alloc _).trans (HM2.out.1.trans (HM3.out.trans hM4))))).2
               have hlk := HLK.out _ _ hmp4
               have HM4 := Hold.mk hM4
               clear hM4 hmp4 p0' p1' p2' p3'))
          have hM := HM1.out.1.trans (((Mod.refl noB w1).alloc _).trans (HM2.out.1.trans (HM3.out.trans HM4.out)))
          exact join_end _ (Nat.le_succ _) (HB.out _ hM).2 (HM0.out.trans hM) rfl rfl 0 0 none [] 0 ⟨fun h => absurd rfl h, Nat.zero_le _⟩ (fun _ _ h => absurd rfl h)
        · have hcb : (n == 0) = false := by simpa using hc
          rw [if_neg (by have := HN.out; omega)]
          clear hc
          have hl : (a < b ∧ ¬ b < a ∧ min a b = a ∧ max a b = b) ∨ (b < a ∧ ¬ a < b ∧ min a b = b ∧ max a b = a) := by omega
          rcases hl with ⟨l1, l2, l3, l4⟩ | ⟨l1, l2, l3, l4⟩
          all_goals
            rw [l3, l4]
            clear l3 l4
            go_enter Try.func27, Try.ntmps27
            go_wp2_with (first
              | (go_at_call 46; refine HO.out.mono ?_; rintro e w1 ⟨mb, rfl, hM1, hmp⟩; have HM1 := Hold.mk (And.intro hM1 hmp); clear hM1 hmp)
              | (go_at_call 47; refine (has_b Hb.out _ _ _ w2).mono ?_; rintro e w3 ⟨rfl, hM3⟩
                 obtain ⟨p0', p1', p2', p3'⟩ := picAt_of (hM3.at HM2.out.2 id)
                 have HM3 := Hold.mk hM3
                 clear hM3 p0 p1 p2 p3)
              | (go_at_call 47; refine (has_b Ha.out _ _ _ (World.alloc _ _)).mono ?_; rintro e w2 ⟨rfl, hM2⟩
                 have hpp := hM2.at (World.alloc_heap_new w1 _) id
                 obtain ⟨p0, p1, p2, p3⟩ := picAt_of hpp
                 have HM2 := Hold.mk (And.intro hM2 hpp)
                 clear hM2 hpp)
              | (go_at_call 49; refine (faced_any _ _ _ _ _ _).mono ?_; rintro e w4 ⟨rfl, rfl⟩
                 have HT := Hold.mk (tallyFaced g W H HG.out N a mb w3 (HM1.out.2.same ((((Mod.refl noB w1).alloc _ |>.trans HM2.out.1).trans HM3.out).block mb HM1.out.2.lt id))))
              | (go_at_call 48; refine HT.out.mono ?_; rintro e w4 ⟨mb2, rfl, hM4, hmp4⟩
                 have hlk := HLK.out _ _ hmp4
                 have HM4 := Hold.mk hM4
                 clear hM4 hmp4 p0' p1' p2' p3'))
            have hMw4 := (HM1.out.1.trans (((Mod.refl noB w1).alloc _).trans (HM2.out.1.trans (HM3.out.trans HM4.out))))
            have HM5 := Hold.mk hMw4
            have HJ : Hold (∀ (w' : World) (lo hi : Int), IntsAt w' ao zs → Calls Try.prog 58 #[.slice ao zs.length cap, .int .i64 lo, .int .i64 hi] w' fun e w'' => ∃ gg cap', e = .returned (.slice (some ⟨gg, 0, none⟩) zs.length cap') ∧ w'.heap.size ≤ gg ∧ IntsAt w'' (some ⟨gg, 0, none⟩) (zs.map (jf lo hi)) ∧ Mod noB w' w'') :=
              ⟨fun w' lo hi h => joined_any ao zs cap lo hi w' h HC.out.pos HC.out.num⟩
            have hlt4 : w.heap.size + 2 ≤ w4.heap.size := by have := HM5.out.size; simp only [World.size_alloc] at this; omega
            obtain ⟨cv, hcv⟩ : ∃ cv : World → Nat → Value, ∀ w' i, cv w' i = (w'.cell? ⟨w.heap.size + 1, i, none⟩).getD undef := ⟨fun w' i => (w'.cell? ⟨w.heap.size + 1, i, none⟩).getD undef, fun _ _ => rfl⟩
            have HIM : Hold (∀ w', RB w4 (w.heap.size + 1) w' → Hold (RB w4 (w.heap.size + 1) w') ∧ IntsAt w' ao zs ∧ (w'.cell? ⟨w.heap.size, 0, none⟩ = some (.int .i64 W) ∧ w'.cell? ⟨w.heap.size, 1, none⟩ = some (.int .i64 H) ∧ w'.cell? ⟨w.heap.size, 2, none⟩ = some (.slice ao zs.length cap)) ∧
              w'.cell? ⟨w.heap.size + 1, 0, none⟩ = some (cv w' 0) ∧ w'.cell? ⟨w.heap.size + 1, 1, none⟩ = some (cv w' 1) ∧ w'.cell? ⟨w.heap.size + 1, 2, none⟩ = some (cv w' 2) ∧ w'.frozen? ⟨w.heap.size + 1, 0, none⟩ = false ∧ w'.frozen? ⟨w.heap.size + 1, 1, none⟩ = false ∧ w'.frozen? ⟨w.heap.size + 1, 2, none⟩ = false) := ⟨fun w' h => by
              obtain ⟨⟨x, y, z, hb⟩, hm⟩ := h
              have hm' : Mod (fun k => k = w.heap.size + 1) w w' := ((HM0.out.trans HM5.out).wider (fun _ _ h => h.elim)).trans hm
              refine ⟨⟨⟨x, y, z, hb⟩, hm⟩, HI.out.mod hm' (fun b off hne e => ?_), cutAt_of (hm.at (HB.out _ HM5.out).1 (by omega)), ?_, ?_, ?_, cells_frozen hb 0, cells_frozen hb 1, cells_frozen hb 2⟩
              · obtain ⟨b', off', h1, h2, _⟩ := HI.out.lies hne
                rw [e] at h1
                cases h1
                omega
              · rw [hcv]; simp [World.cell?, hb]
              · rw [hcv]; simp [World.cell?, hb]
              · rw [hcv]; simp [World.cell?, hb]⟩
            have HR4 : Hold (RB w4 (w.heap.size + 1) w4.drew) := ⟨⟨⟨_, _, _, (HB.out _ HM5.out).2⟩, (Mod.refl _ _).drew⟩⟩
            clear hMw4 hcb hab hlk hb1 HI HB HC HG HO HT hcv
            go_region_held3 (fun w' => Hold (RB w4 (w.heap.size + 1) w') ∧ IntsAt w' ao zs ∧ (w'.cell? ⟨w.heap.size, 0, none⟩ = some (.int .i64 W) ∧ w'.cell? ⟨w.heap.size, 1, none⟩ = some (.int .i64 H) ∧ w'.cell? ⟨w.heap.size, 2, none⟩ = some (.slice ao zs.length cap)) ∧
              w'.cell? ⟨w.heap.size + 1, 0, none⟩ = some (cv w' 0) ∧ w'.cell? ⟨w.heap.size + 1, 1, none⟩ = some (cv w' 1) ∧ w'.cell? ⟨w.heap.size + 1, 2, none⟩ = some (cv w' 2) ∧ w'.frozen? ⟨w.heap.size + 1, 0, none⟩ = false ∧ w'.frozen? ⟨w.heap.size + 1, 1, none⟩ = false ∧ w'.frozen? ⟨w.heap.size + 1, 2, none⟩ = false)
              (first
                | with_reducible exact HIM.out _ HR4.out
                | with_reducible exact HIM.out _ HR5.out
                | with_reducible exact HIM.out _ (RB.set HR5.out _ _ _))
              (first
                | (go_at_call 58; refine (HJ.out _ _ _ (‹Hold (RB w4 _ _) ∧ IntsAt _ ao zs ∧ _›).2.1).mono ?_; rintro e w5 ⟨gg, cap', rfl, hgg, hIg, hM5⟩; have HR5 := Hold.mk ((‹Hold (RB w4 _ _) ∧ _›).1.out.later hM5); have HG5 := Hold.mk (And.intro hgg hIg); clear hgg hIg hM5))
            all_goals
              go_wp2
              obtain ⟨⟨x, y, z, hb⟩, hm⟩ := HR5.out
              refine join_end' (by simp) (r := w.heap.size + 1) 0 (Nat.le_succ _) hb (((HM0.out.trans HM5.out)).then hm (fun i h1 h2 => by omega)) rfl rfl W H (some ⟨gg, 0, none⟩) cap' (by have q := HG5.out.2; first | rwa [if_neg (by omega : ¬ b < a)] at q | rwa [if_neg (by omega : ¬ a < b)] at q) (fun b off hne e => ?_)
              cases e
              have hgg := HG5.out.1
              have hd : w4.drew.heap.size = w4.heap.size := rfl
              omega
end Go.Proofs.Ytogalmkeipigeaa

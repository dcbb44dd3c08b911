/- Lines: what the lines of a cut are like. -/
import Derived.Test.YtogalmkeipigeaaJoin
import Derived.Deep.RegionHeld3
import Derived.Test.YtogalmkeipigeaaPoints
import Derived.Test.YtogalmkeipigeaaEdges
set_option linter.unusedSimpArgs false
set_option linter.unusedVariables false
namespace Go.Proofs.Ytogalmkeipigeaa
open Go.RowKit

/-- What Lines returns: length, bends, joints, starts; the error. -/
noncomputable def linesR (W H : Int) (zs : List Int) : (Int × Int × Int × Int) × Int :=
  if (checkR W H zs).2 ≠ 0 then ((0, 0, 0, 0), (checkR W H zs).2)
  else
    (((edgesL (laidG W.toNat zs zs.length) W.toNat H.toNat).count true, (pointsL (laidG W.toNat zs zs.length) W.toNat H.toNat).count 1,
      (pointsL (laidG W.toNat zs zs.length) W.toNat H.toNat).count 2, (pointsL (laidG W.toNat zs zs.length) W.toNat H.toNat).count 3), 0)
@[reducible] def linesV (r : Int × Int × Int × Int) : Value := .agg #[.int .i64 r.1, .int .i64 r.2.1, .int .i64 r.2.2.1, .int .i64 r.2.2.2]

theorem pointB_le (a b c d : Bool) : 0 ≤ pointB a b c d ∧ pointB a b c d ≤ 3 := by cases a <;> cases b <;> cases c <;> cases d <;> decide
theorem pointsL_short (g : Int × Int → Option Int) (W H : Nat) (hW : W ≤ 12) (hH : H ≤ 12) : (pointsL g W H).length ≤ 1000000 := by
  rw [pointsL_len]
  exact Nat.le_trans (Nat.mul_le_mul (Nat.succ_le_succ hH) (Nat.succ_le_succ hW)) (by decide)
theorem edgesL_short (g : Int × Int → Option Int) (W H : Nat) (hW : W ≤ 12) (hH : H ≤ 12) : (edgesL g W H).length ≤ 1000000 := by
  have h1 : ∀ p, (edgesAt g p).length ≤ 4 := fun p => by
    unfold edgesAt
    rw [List.length_map]
    exact Nat.le_trans (List.length_filter_le _ _) (by simp [besideL])
  have h2 : ∀ L : List (Int × Int), (L.flatMap (edgesAt g)).length ≤ 4 * L.length := by
    intro L
    induction L with
    | nil => simp
    | cons p L ih => have := h1 p; simp only [List.flatMap_cons, List.length_append, List.length_cons]; omega
  have h3 : (cellsL 0 0 W H).length ≤ 144 := by
    simp only [cellsL, List.length_map, List.length_range]
    exact Nat.le_trans (Nat.mul_le_mul (Nat.le_trans (Nat.sub_le H 0) hH) (Nat.le_trans (Nat.sub_le W 0) hW)) (by decide : 12 * 12 ≤ 144)
  have := h2 (cellsL 0 0 W H)
  unfold edgesL
  omega

theorem tallyPoints (g : Int × Int → Option Int) (W H : Nat) (G : Grid g W H) (N : Int) (mb : Nat) (w : World) (hm : MapIs Try.prog 106 cellV w mb g) :
    Calls Try.prog 48 #[.func (.func 74) #[] #[.pointer (some ⟨w.heap.size, 0, none⟩)]] (w.alloc (.cells #[.int .i64 W, .int .i64 H, .int .i64 N, .map (some mb)] 71)) fun e w' =>
      ∃ mb2, e = .returned (.map (some mb2)) ∧ Mod noB w w' ∧ MapIs Try.prog 3 intV w' mb2 (tal (pointsL g W H)) := by
  have hM := (Mod.refl noB w).alloc (.cells #[.int .i64 W, .int .i64 H, .int .i64 N, .map (some mb)] 71)
  have b0 := World.alloc_heap_new w (.cells #[.int .i64 W, .int .i64 H, .int .i64 N, .map (some mb)] 71)
  have hz : (w.alloc (.cells #[.int .i64 W, .int .i64 H, .int .i64 N, .map (some mb)] 71)).heap.size = w.heap.size + 1 := by simp
  generalize w.alloc (.cells #[.int .i64 W, .int .i64 H, .int .i64 N, .map (some mb)] 71) = W1 at *
  have hm1 := hm.same (hM.block mb hm.lt id)
  have hlt := hm.lt
  refine (tallyInt_any 74 _ _ _ W1 (points1_runs w.heap.size mb W H N g W1 b0 hm1 G.w2 G.h2) ?_ enter74 ?_ (pointsL_short g W H G.w2 G.h2)).mono ?_
  · rintro k (rfl | rfl) <;> omega
  · intro x hx
    simp only [pointsL, List.mem_map] at hx
    obtain ⟨m, _, rfl⟩ := hx
    have := pointB_le (apartB g (((m % (W + 1) : Nat) : Int) - 1, ((m / (W + 1) : Nat) : Int) - 1) (((m % (W + 1) : Nat) : Int), ((m / (W + 1) : Nat) : Int) - 1)) (apartB g (((m % (W + 1) : Nat) : Int), ((m / (W + 1) : Nat) : Int) - 1) (((m % (W + 1) : Nat) : Int), ((m / (W + 1) : Nat) : Int)))
      (apartB g (((m % (W + 1) : Nat) : Int), ((m / (W + 1) : Nat) : Int)) (((m % (W + 1) : Nat) : Int) - 1, ((m / (W + 1) : Nat) : Int))) (apartB g (((m % (W + 1) : Nat) : Int) - 1, ((m / (W + 1) : Nat) : Int)) (((m % (W + 1) : Nat) : Int) - 1, ((m / (W + 1) : Nat) : Int) - 1))
    unfold pointR
    exact key3 (wf64_of (by omega) (by omega))
  · rintro e w' ⟨mb2, rfl, h1, _, h2⟩
    exact ⟨mb2, rfl, hM.trans h1, h2⟩

theorem tallyEdges (g : Int × Int → Option Int) (W H : Nat) (G : Grid g W H) (N : Int) (mb : Nat) (w : World) (hm : MapIs Try.prog 106 cellV w mb g) :
    Calls Try.prog 53 #[.func (.func 76) #[] #[.pointer (some ⟨w.heap.size, 0, none⟩)]] (w.alloc (.cells #[.int .i64 W, .int .i64 H, .int .i64 N, .map (some mb)] 71)) fun e w' =>
      ∃ mb2, e = .returned (.map (some mb2)) ∧ Mod noB w w' ∧ MapIs Try.prog 4 boolV w' mb2 (tal (edgesL g W H)) := by
  have hM := (Mod.refl noB w).alloc (.cells #[.int .i64 W, .int .i64 H, .int .i64 N, .map (some mb)] 71)
  have b0 := World.alloc_heap_new w (.cells #[.int .i64 W, .int .i64 H, .int .i64 N, .map (some mb)] 71)
  have hz : (w.alloc (.cells #[.int .i64 W, .int .i64 H, .int .i64 N, .map (some mb)] 71)).heap.size = w.heap.size + 1 := by simp
  generalize w.alloc (.cells #[.int .i64 W, .int .i64 H, .int .i64 N, .map (some mb)] 71) = W1 at *
  have hm1 := hm.same (hM.block mb hm.lt id)
  have hlt := hm.lt
  refine (tallyBool_any 76 _ _ _ W1 (edges1_runs w.heap.size mb W H N g W1 b0 hm1 G.w2 G.h2) ?_ enter76 (fun x _ => key4 x) (edgesL_short g W H G.w2 G.h2)).mono ?_
  · rintro k (rfl | rfl) <;> omega
  · rintro e w' ⟨mb2, rfl, h1, _, h2⟩
    exact ⟨mb2, rfl, hM.trans h1, h2⟩

/-- Four cells stored into the result, a block that the call made. -/
theorem lines_end {tmps : Array Value} {w Wj : World} {r : Nat} {x y z u : Value} (e : Int) (hr : w.heap.size ≤ r) (h0 : Wj.heap[r]? = some (.cells #[x, y, z, u] 39)) (hM : Mod noB w Wj)
    (h6 : tmps.getD 2 undef = .pointer (some ⟨r, 0, none⟩)) (h7 : tmps.getD 3 undef = .int .i64 e) (a b c d : Int) :
    bodyPost Try.prog Try.f22 (fun e' w' => e' = .returned (.tuple #[linesV (a, b, c, d), .int .i64 e]) ∧ Mod noB w w') Exit.ret { tmps := tmps, defers := [] } ((((Wj.setCell ⟨r, 0, none⟩ (.int .i64 a)).setCell ⟨r, 1, none⟩ (.int .i64 b)).setCell ⟨r, 2, none⟩ (.int .i64 c)).setCell ⟨r, 3, none⟩ (.int .i64 d)) := by
  have h1 := setCell_at (setCell_at (setCell_at (setCell_at h0 0 (.int .i64 a)) 1 (.int .i64 b)) 2 (.int .i64 c)) 3 (.int .i64 d)
  have m0 := hM.setCell (p := ⟨r, 0, none⟩) (fun h => absurd h (Nat.not_lt.2 hr)) (.int .i64 a)
  have m1 := m0.setCell (p := ⟨r, 1, none⟩) (fun h => absurd h (Nat.not_lt.2 hr)) (.int .i64 b)
  have m2 := m1.setCell (p := ⟨r, 2, none⟩) (fun h => absurd h (Nat.not_lt.2 hr)) (.int .i64 c)
  have m3 := m2.setCell (p := ⟨r, 3, none⟩) (fun h => absurd h (Nat.not_lt.2 hr)) (.int .i64 d)
  exact bodyPost_ret (v := .tuple #[linesV (a, b, c, d), .int .i64 e]) ((results_row_tmp (fn := Try.f22) rfl _ _ r _ _ h6 h1 Try.underlying39 rfl (by kernel_rfl)).trans (by rw [h7]; rfl)) rfl ⟨rfl, m3⟩

theorem lines_facts {w : World} {W H : Int} {ao : Option Addr} {n cap : Nat} : ∀ w1 : World, Mod noB ((w.alloc (.cells #[.int .i64 W, .int .i64 H, .slice ao n cap] 24)).alloc (.cells #[.int .i64 0, .int .i64 0, .int .i64 0, .int .i64 0] 39)) w1 →
    w1.heap[w.heap.size + 1]? = some (.cells #[.int .i64 0, .int .i64 0, .int .i64 0, .int .i64 0] 39) := fun w1 h => by
  rw [allocL2] at h
  exact h.at (allocL_at [.cells #[.int .i64 W, .int .i64 H, .slice ao n cap] 24, .cells #[.int .i64 0, .int .i64 0, .int .i64 0, .int .i64 0] 39] w 1 _ rfl) id
theorem resL_of {w1 : World} {r : Nat} (h : w1.heap[r]? = some (.cells #[.int .i64 0, .int .i64 0, .int .i64 0, .int .i64 0] 39)) :
    w1.cell? ⟨r, 0, none⟩ = some (.int .i64 0) ∧ w1.cell? ⟨r, 1, none⟩ = some (.int .i64 0) ∧ w1.cell? ⟨r, 2, none⟩ = some (.int .i64 0) ∧ w1.cell? ⟨r, 3, none⟩ = some (.int .i64 0) ∧
    w1.frozen? ⟨r, 0, none⟩ = false ∧ w1.frozen? ⟨r, 1, none⟩ = false ∧ w1.frozen? ⟨r, 2, none⟩ = false ∧ w1.frozen? ⟨r, 3, none⟩ = false := by
  refine ⟨?_, ?_, ?_, ?_, cells_frozen h 0, cells_frozen h 1, cells_frozen h 2, cells_frozen h 3⟩ <;> simp [World.cell?, h]

set_option maxRecDepth 100000 in
set_option maxHeartbeats 2000000 in
theorem lines_no (W H : Int) (ao : Option Addr) (zs : List Int) (cap : Nat) (w : World) (hs : IntsAt w ao zs) (h : (checkR W H zs).2 ≠ 0) :
    Calls Try.prog 22 #[cutV W H ao zs.length cap] w fun e w' => e = .returned (.tuple #[linesV (linesR W H zs).1, .int .i64 (linesR W H zs).2]) ∧ Mod noB w w' := by
  have hR : linesR W H zs = ((0, 0, 0, 0), (checkR W H zs).2) := by unfold linesR; rw [if_pos h]
  rw [hR]
  have HO := Hold.mk (open_no W H ao zs cap _ ((hs.alloc (.cells #[.int .i64 W, .int .i64 H, .slice ao zs.length cap] 24)).alloc (.cells #[.int .i64 0, .int .i64 0, .int .i64 0, .int .i64 0] 39)) h)
  clear hR
  generalize (checkR W H zs).2 = e at *
  have he : (e != 0) = true := by simpa using h
  have HM0 := Hold.mk (((Mod.refl noB w).alloc (.cells #[.int .i64 W, .int .i64 H, .slice ao zs.length cap] 24)).alloc (.cells #[.int .i64 0, .int .i64 0, .int .i64 0, .int .i64 0] 39))
  have HB := Hold.mk (lines_facts (w := w) (W := W) (H := H) (ao := ao) (n := zs.length) (cap := cap))
  clear hs h
  go_enter Try.func22, Try.ntmps22
  go_wp2_with (go_at_call 46; refine HO.out.mono ?_; rintro e w1 ⟨rfl, hM1⟩; obtain ⟨r0, r1, r2, r3, q0, q1, q2, q3⟩ := resL_of (HB.out _ (hM1.alloc zeroPicO)); have HM1 := Hold.mk hM1; clear hM1)
  exact lines_end _ (Nat.le_succ _) (HB.out _ (HM1.out.alloc _)) (HM0.out.trans (HM1.out.alloc _)) rfl rfl 0 0 0 0

/-- The result's block lies; of all that lay it alone may have turned. -/
def RBL (w4 : World) (r : Nat) (w' : World) : Prop := (∃ x y z u, w'.heap[r]? = some (.cells #[x, y, z, u] 39)) ∧ Mod (fun k => k = r) w4 w'
theorem RBL.later {w4 w' w'' : World} {r : Nat} (h : RBL w4 r w') (hm : Mod noB w' w'') : RBL w4 r w'' := by
  obtain ⟨⟨x, y, z, u, hb⟩, h1⟩ := h
  exact ⟨⟨x, y, z, u, hm.at hb id⟩, h1.then hm (fun _ _ h => h.elim)⟩
theorem RBL.set {w4 w' : World} {r : Nat} (h : RBL w4 r w') (a b c d : Value) : RBL w4 r ((((w'.setCell ⟨r, 0, none⟩ a).setCell ⟨r, 1, none⟩ b).setCell ⟨r, 2, none⟩ c).setCell ⟨r, 3, none⟩ d) := by
  obtain ⟨⟨x, y, z, u, hb⟩, h1⟩ := h
  refine ⟨⟨a, b, c, d, setCell_at (setCell_at (setCell_at (setCell_at hb 0 a) 1 b) 2 c) 3 d⟩, ?_⟩
  have m0 := h1.setCell (p := ⟨r, 0, none⟩) (fun _ => rfl) a
  have m1 := m0.setCell (p := ⟨r, 1, none⟩) (fun _ => rfl) b
  have m2 := m1.setCell (p := ⟨r, 2, none⟩) (fun _ => rfl) c
  exact m2.setCell (p := ⟨r, 3, none⟩) (fun _ => rfl) d

set_option maxRecDepth 100000 in
set_option maxHeartbeats 2000000 in
theorem lines_yes {W H : Nat} {zs : List Int} (C : CutN W H zs) (ao : Option Addr) (cap : Nat) (w : World) (hs : IntsAt w ao zs) (h : (checkR W H zs).2 = 0) :
    Calls Try.prog 22 #[cutV W H ao zs.length cap] w fun e w' => e = .returned (.tuple #[linesV (linesR W H zs).1, .int .i64 (linesR W H zs).2]) ∧ Mod noB w w' := by
  have hR : linesR W H zs = (((((edgesL (laidG W zs zs.length) W H).count true : Nat) : Int), (((pointsL (laidG W zs zs.length) W H).count 1 : Nat) : Int), (((pointsL (laidG W zs zs.length) W H).count 2 : Nat) : Int), (((pointsL (laidG W zs zs.length) W H).count 3 : Nat) : Int)), 0) := by
    unfold linesR; rw [if_neg (fun h' => h' h)]; rfl
  rw [hR]
  clear hR
  have HO := Hold.mk (open_yes C ao cap _ ((hs.alloc (.cells #[.int .i64 W, .int .i64 H, .slice ao zs.length cap] 24)).alloc (.cells #[.int .i64 0, .int .i64 0, .int .i64 0, .int .i64 0] 39)) h)
  have HM0 := Hold.mk (((Mod.refl noB w).alloc (.cells #[.int .i64 W, .int .i64 H, .slice ao zs.length cap] 24)).alloc (.cells #[.int .i64 0, .int .i64 0, .int .i64 0, .int .i64 0] 39))
  have HB := Hold.mk (lines_facts (w := w) (W := W) (H := H) (ao := ao) (n := zs.length) (cap := cap))
  have HG := Hold.mk C.grid
  obtain ⟨g, hg⟩ : ∃ g, laidG W zs zs.length = g := ⟨_, rfl⟩
  obtain ⟨N, hN⟩ : ∃ N, many zs = N := ⟨_, rfl⟩
  rw [hN] at HO
  rw [hg] at HG HO ⊢
  obtain ⟨n0, hn0⟩ : ∃ n : Int, n = (((edgesL g W H).count true : Nat) : Int) := ⟨_, rfl⟩
  obtain ⟨n1, hn1⟩ : ∃ n : Int, n = (((pointsL g W H).count 1 : Nat) : Int) := ⟨_, rfl⟩
  obtain ⟨n2, hn2⟩ : ∃ n : Int, n = (((pointsL g W H).count 2 : Nat) : Int) := ⟨_, rfl⟩
  obtain ⟨n3, hn3⟩ : ∃ n : Int, n = (((pointsL g W H).count 3 : Nat) : Int) := ⟨_, rfl⟩
  have HLK : Hold (∀ (w' : World) (mb2 : Nat), MapIs Try.prog 3 intV w' mb2 (tal (pointsL g W H)) → (Instr.lookup 78 (.map (some mb2)) (.int .i64 1) false).run Try.prog w' = .ok (.int .i64 n1) w' ∧ (Instr.lookup 78 (.map (some mb2)) (.int .i64 2) false).run Try.prog w' = .ok (.int .i64 n2) w' ∧ (Instr.lookup 78 (.map (some mb2)) (.int .i64 3) false).run Try.prog w' = .ok (.int .i64 n3) w') := ⟨fun w' mb2 hm => by
    have q : ∀ k : Int, wf64 k → (Instr.lookup 78 (.map (some mb2)) (.int .i64 k) false).run Try.prog w' = .ok (.int .i64 (((pointsL g W H).count k : Nat) : Int)) w' := fun k hk => by
      obtain ⟨kl, hkl⟩ := key3 (n := k) hk
      have := hm.look1 law3 hkl Try.underlying78 (zero3 _)
      rw [tal_getD] at this
      exact this
    rw [hn1, hn2, hn3]
    exact ⟨q 1 (by decide), q 2 (by decide), q 3 (by decide)⟩⟩
  have HLE : Hold (∀ (w' : World) (mb2 : Nat), MapIs Try.prog 4 boolV w' mb2 (tal (edgesL g W H)) → (Instr.lookup 87 (.map (some mb2)) (.bool true) false).run Try.prog w' = .ok (.int .i64 n0) w') := ⟨fun w' mb2 hm => by
    obtain ⟨kl, hkl⟩ := key4 true
    have := hm.look1 law4 hkl Try.underlying87 (zero3 _)
    rw [tal_getD, ← hn0] at this
    exact this⟩
  rw [← hn0, ← hn1, ← hn2, ← hn3]
  clear hs h hN C hg hn0 hn1 hn2 hn3
  go_enter Try.func22, Try.ntmps22
  go_wp2_with (first
    | (go_at_call 46; refine HO.out.mono ?_; rintro e w1 ⟨mb, rfl, hM1, hmp⟩; have HM1 := Hold.mk (And.intro hM1 hmp); clear hM1 hmp)
    | (go_at_call 52; refine (points_any W H N mb _).mono ?_; rintro e w2 ⟨rfl, rfl⟩
       have ht := tallyPoints g W H HG.out N mb (w1.alloc (.cells #[.int .i64 W, .int .i64 H, .int .i64 N, .map (some mb)] 71)) (HM1.out.2.alloc _)
       rw [World.size_alloc] at ht
       have HT := Hold.mk ht
       clear ht)
    | (go_at_call 48; refine HT.out.mono ?_; rintro e w4 ⟨mb2, rfl, hM4, hmp4⟩
       have hpp := hM4.at (World.alloc_heap_new w1 (.cells #[.int .i64 W, .int .i64 H, .int .i64 N, .map (some mb)] 71)) id
       have HM4 := Hold.mk (And.intro hM4 (And.intro hmp4 hpp))
       clear hM4 hmp4 hpp))
  have hr1 : w.heap.size + 1 < w1.heap.size := by have := HM1.out.1.size; simp only [World.size_alloc] at this; omega
  obtain ⟨cv, hcv⟩ : ∃ cv : World → Nat → Value, ∀ w' i, cv w' i = (w'.cell? ⟨w.heap.size + 1, i, none⟩).getD undef := ⟨fun w' i => (w'.cell? ⟨w.heap.size + 1, i, none⟩).getD undef, fun _ _ => rfl⟩
  have HM5 : Hold (Mod noB w1 w4) := ⟨((Mod.refl noB w1).alloc _).trans HM4.out.1⟩
  have hmb : mb ≠ w.heap.size + 1 := fun e => by
    obtain ⟨es, cl, hh, _⟩ := HM1.out.2
    rw [e, HB.out _ HM1.out.1] at hh
    cases hh
  have hmb2 : mb2 ≠ w.heap.size + 1 := fun e => by
    obtain ⟨es, cl, hh, _⟩ := HM4.out.2.1
    rw [e, HB.out _ (HM1.out.1.trans HM5.out)] at hh
    cases hh
  have hS4 := HM5.out.size
  have HIM : Hold (∀ w', RBL w4 (w.heap.size + 1) w' → (fun w' => Hold (RBL w4 (w.heap.size + 1) w') ∧ (w'.cell? ⟨w1.heap.size, 0, none⟩ = some (.int .i64 W) ∧ w'.cell? ⟨w1.heap.size, 1, none⟩ = some (.int .i64 H) ∧ w'.cell? ⟨w1.heap.size, 2, none⟩ = some (.int .i64 N) ∧ w'.cell? ⟨w1.heap.size, 3, none⟩ = some (.map (some mb))) ∧
    ((Instr.lookup 78 (.map (some mb2)) (.int .i64 1) false).run Try.prog w' = .ok (.int .i64 n1) w' ∧ (Instr.lookup 78 (.map (some mb2)) (.int .i64 2) false).run Try.prog w' = .ok (.int .i64 n2) w' ∧ (Instr.lookup 78 (.map (some mb2)) (.int .i64 3) false).run Try.prog w' = .ok (.int .i64 n3) w') ∧
    (w'.cell? ⟨w.heap.size + 1, 0, none⟩ = some (cv w' 0) ∧ w'.cell? ⟨w.heap.size + 1, 1, none⟩ = some (cv w' 1) ∧ w'.cell? ⟨w.heap.size + 1, 2, none⟩ = some (cv w' 2) ∧ w'.cell? ⟨w.heap.size + 1, 3, none⟩ = some (cv w' 3)) ∧
    w'.frozen? ⟨w.heap.size + 1, 0, none⟩ = false ∧ w'.frozen? ⟨w.heap.size + 1, 1, none⟩ = false ∧ w'.frozen? ⟨w.heap.size + 1, 2, none⟩ = false ∧ w'.frozen? ⟨w.heap.size + 1, 3, none⟩ = false) w') := ⟨fun w' h => by
    obtain ⟨⟨x, y, z, u, hb⟩, hm⟩ := h
    have hp := hm.at HM4.out.2.2 (by omega)
    refine ⟨⟨⟨x, y, z, u, hb⟩, hm⟩, picAt_of hp, HLK.out _ _ (HM4.out.2.1.same (hm.block mb2 HM4.out.2.1.lt hmb2)), ⟨?_, ?_, ?_, ?_⟩, cells_frozen hb 0, cells_frozen hb 1, cells_frozen hb 2, cells_frozen hb 3⟩
    · rw [hcv]; simp [World.cell?, hb]
    · rw [hcv]; simp [World.cell?, hb]
    · rw [hcv]; simp [World.cell?, hb]
    · rw [hcv]; simp [World.cell?, hb]⟩
  have HR4 : Hold (RBL w4 (w.heap.size + 1) w4.drew) := ⟨⟨⟨_, _, _, _, HB.out _ (HM1.out.1.trans HM5.out).drew⟩, (Mod.refl _ _).drew⟩⟩
  have HTE : Hold (∀ w', RBL w4 (w.heap.size + 1) w' → Calls Try.prog 53 #[.func (.func 76) #[] #[.pointer (some ⟨w'.heap.size, 0, none⟩)]] (w'.alloc (.cells #[.int .i64 W, .int .i64 H, .int .i64 N, .map (some mb)] 71)) fun e w'' =>
      ∃ mb2, e = .returned (.map (some mb2)) ∧ Mod noB w' w'' ∧ (Instr.lookup 87 (.map (some mb2)) (.bool true) false).run Try.prog w'' = .ok (.int .i64 n0) w'') := ⟨fun w' h => by
    have hm2 := (HM1.out.2.same (HM5.out.block mb HM1.out.2.lt id))
    refine (tallyEdges g W H HG.out N mb w' (hm2.same (h.2.block mb hm2.lt hmb))).mono ?_
    rintro e w'' ⟨mb3, rfl, h1, h2⟩
    exact ⟨mb3, rfl, h1, HLE.out _ _ h2⟩⟩
  clear HLK HLE HB HG HO HT hcv
  refine wp_region_noPanic ?_
  refine wp_region_held_drew (S := (fun w' => Hold (RBL w4 (w.heap.size + 1) w') ∧ (w'.cell? ⟨w1.heap.size, 0, none⟩ = some (.int .i64 W) ∧ w'.cell? ⟨w1.heap.size, 1, none⟩ = some (.int .i64 H) ∧ w'.cell? ⟨w1.heap.size, 2, none⟩ = some (.int .i64 N) ∧ w'.cell? ⟨w1.heap.size, 3, none⟩ = some (.map (some mb))) ∧
    ((Instr.lookup 78 (.map (some mb2)) (.int .i64 1) false).run Try.prog w' = .ok (.int .i64 n1) w' ∧ (Instr.lookup 78 (.map (some mb2)) (.int .i64 2) false).run Try.prog w' = .ok (.int .i64 n2) w' ∧ (Instr.lookup 78 (.map (some mb2)) (.int .i64 3) false).run Try.prog w' = .ok (.int .i64 n3) w') ∧
    (w'.cell? ⟨w.heap.size + 1, 0, none⟩ = some (cv w' 0) ∧ w'.cell? ⟨w.heap.size + 1, 1, none⟩ = some (cv w' 1) ∧ w'.cell? ⟨w.heap.size + 1, 2, none⟩ = some (cv w' 2) ∧ w'.cell? ⟨w.heap.size + 1, 3, none⟩ = some (cv w' 3)) ∧
    w'.frozen? ⟨w.heap.size + 1, 0, none⟩ = false ∧ w'.frozen? ⟨w.heap.size + 1, 1, none⟩ = false ∧ w'.frozen? ⟨w.heap.size + 1, 2, none⟩ = false ∧ w'.frozen? ⟨w.heap.size + 1, 3, none⟩ = false)) mixed (HIM.out _ HR4.out) (fun hHeld => ?_)
  have HD := Hold.mk HR4.out
  refine wpAnyH_take (i := 0) (oi := { dst := some 19, op := Op.load 71 (Operand.tmp 4), type := 71, pos := "cut.go:44", after := #[], guard := none }) (v := ?_) rfl (by kernel_rfl) (by kernel_rfl) (by kernel_rfl) (fun _ _ _ h => h) (Or.inl ⟨by rfl, ?_⟩) (by assumption) ?_
  rotate_left
  · skip
    intro w hSw
    (try dsimp only at hSw)
    go_simp
    first | done | with_reducible rfl
  try simp only [Act.put, List.setIfInBounds_toArray, List.set_cons_zero, List.set_cons_succ]
  refine wpAnyH_take (i := 4) (oi := { dst := some 23, op := Op.move (Operand.tmp 6), type := 78, pos := "cut.go:44", after := #[], guard := none }) (v := ?_) rfl (by kernel_rfl) (by kernel_rfl) (by kernel_rfl) (fun _ _ _ h => h) (Or.inl ⟨by rfl, ?_⟩) (by assumption) ?_
  rotate_left
  · skip
    intro w hSw
    (try dsimp only at hSw)
    go_simp
    first | done | with_reducible rfl
  try simp only [Act.put, List.setIfInBounds_toArray, List.set_cons_zero, List.set_cons_succ]
  refine wpAnyH_take (i := 5) (oi := { dst := some 24, op := Op.lookup 78 (Operand.tmp 23) (Operand.const (Value.int IntKind.i64 1)) false, type := 3, pos := "cut.go:44", after := #[{ on := 4, ground := Ground.data }], guard := none }) (v := ?_) rfl (by kernel_rfl) (by kernel_rfl) (by kernel_rfl) (fun _ _ _ h => h) (Or.inl ⟨by rfl, ?_⟩) (by assumption) ?_
  rotate_left
  · skip
    intro w hSw
    (try dsimp only at hSw)
    go_simp
    first | done | with_reducible rfl
  try simp only [Act.put, List.setIfInBounds_toArray, List.set_cons_zero, List.set_cons_succ]
  refine wpAnyH_take (i := 6) (oi := { dst := some 25, op := Op.move (Operand.tmp 6), type := 78, pos := "cut.go:44", after := #[], guard := none }) (v := ?_) rfl (by kernel_rfl) (by kernel_rfl) (by kernel_rfl) (fun _ _ _ h => h) (Or.inl ⟨by rfl, ?_⟩) (by assumption) ?_
  rotate_left
  · skip
    intro w hSw
    (try dsimp only at hSw)
    go_simp
    first | done | with_reducible rfl
  try simp only [Act.put, List.setIfInBounds_toArray, List.set_cons_zero, List.set_cons_succ]
  refine wpAnyH_take (i := 7) (oi := { dst := some 26, op := Op.lookup 78 (Operand.tmp 25) (Operand.const (Value.int IntKind.i64 2)) false, type := 3, pos := "cut.go:44", after := #[{ on := 6, ground := Ground.data }], guard := none }) (v := ?_) rfl (by kernel_rfl) (by kernel_rfl) (by kernel_rfl) (fun _ _ _ h => h) (Or.inl ⟨by rfl, ?_⟩) (by assumption) ?_
  rotate_left
  · skip
    intro w hSw
    (try dsimp only at hSw)
    go_simp
    first | done | with_reducible rfl
  try simp only [Act.put, List.setIfInBounds_toArray, List.set_cons_zero, List.set_cons_succ]
  refine wpAnyH_take (i := 8) (oi := { dst := some 27, op := Op.move (Operand.tmp 6), type := 78, pos := "cut.go:44", after := #[], guard := none }) (v := ?_) rfl (by kernel_rfl) (by kernel_rfl) (by kernel_rfl) (fun _ _ _ h => h) (Or.inl ⟨by rfl, ?_⟩) (by assumption) ?_
  rotate_left
  · skip
    intro w hSw
    (try dsimp only at hSw)
    go_simp
    first | done | with_reducible rfl
  try simp only [Act.put, List.setIfInBounds_toArray, List.set_cons_zero, List.set_cons_succ]
  refine wpAnyH_take (i := 9) (oi := { dst := some 28, op := Op.lookup 78 (Operand.tmp 27) (Operand.const (Value.int IntKind.i64 3)) false, type := 3, pos := "cut.go:44", after := #[{ on := 8, ground := Ground.data }], guard := none }) (v := ?_) rfl (by kernel_rfl) (by kernel_rfl) (by kernel_rfl) (fun _ _ _ h => h) (Or.inl ⟨by rfl, ?_⟩) (by assumption) ?_
  rotate_left
  · skip
    intro w hSw
    (try dsimp only at hSw)
    go_simp
    first | done | with_reducible rfl
  try simp only [Act.put, List.setIfInBounds_toArray, List.set_cons_zero, List.set_cons_succ]
  refine wpAnyH_ready (rs := [1]) (by kernel_rfl) (by simp) (AllReadyH.cons (o := { dst := some 20, op := Op.call { callee := Callee.value (Operand.func 54), args := #[Operand.tmp 19], argTypes := #[71] }, type := 90, pos := "cut.go:45", after := #[{ on := 0, ground := Ground.data }], guard := none }) rfl (fun K hK => ?_) AllReadyH.nil)
  go_simp
  go_at_call 54; refine (edges_any W H N mb _).mono ?_; rintro e w' ⟨rfl, rfl⟩
  go_wp2_with fail
  refine hK.out _ _ ?_ (fun hHeld => ?_)
  · exact HIM.out _ (HR4.out.later ((Mod.refl _ _).alloc _))
  clear hK K
  try simp only [Act.put, List.setIfInBounds_toArray, List.set_cons_zero, List.set_cons_succ]
  refine wpAnyH_ready (rs := [2]) (by kernel_rfl) (by simp) (AllReadyH.cons (o := { dst := some 21, op := Op.call { callee := Callee.value (Operand.func 53), args := #[Operand.tmp 20], argTypes := #[90] }, type := 87, pos := "cut.go:45", after := #[{ on := 1, ground := Ground.data }, { on := 1, ground := Ground.chain }], guard := none }) rfl (fun K hK => ?_) AllReadyH.nil)
  go_simp
  go_at_call 53; refine (HTE.out _ HR4.out).mono ?_; rintro e w5 ⟨mb3, rfl, hM5, hlk⟩
  have HR5 := Hold.mk (HR4.out.later hM5)
  clear hM5
  go_wp2_with fail
  refine hK.out _ _ ?_ (fun hHeld => ?_)
  · exact HIM.out _ HR5.out
  clear hK K
  try simp only [Act.put, List.setIfInBounds_toArray, List.set_cons_zero, List.set_cons_succ]
  refine wpAnyH_ready (rs := [3]) (by kernel_rfl) (by simp) (AllReadyH.cons (o := { dst := some 22, op := Op.lookup 87 (Operand.tmp 21) (Operand.const (Value.bool true)) false, type := 3, pos := "cut.go:44", after := #[{ on := 2, ground := Ground.data }], guard := none }) rfl (fun K hK => ?_) AllReadyH.nil)
  go_simp
  refine hK.out _ _ ?_ (fun hHeld => ?_)
  · exact HIM.out _ HR5.out
  clear hK K
  try simp only [Act.put, List.setIfInBounds_toArray, List.set_cons_zero, List.set_cons_succ]
  refine wpAnyH_ready (rs := [10]) (by kernel_rfl) (by simp) (AllReadyH.cons (o := { dst := some 29, op := Op.build 39 #[(0, Operand.tmp 22), (1, Operand.tmp 24), (2, Operand.tmp 26), (3, Operand.tmp 28)], type := 39, pos := "cut.go:44", after := #[{ on := 3, ground := Ground.data }, { on := 5, ground := Ground.data }, { on := 7, ground := Ground.data }, { on := 9, ground := Ground.data }], guard := none }) rfl (fun K hK => ?_) AllReadyH.nil)
  go_simp
  refine hK.out _ _ ?_ (fun hHeld => ?_)
  · exact HIM.out _ HR5.out
  clear hK K
  try simp only [Act.put, List.setIfInBounds_toArray, List.set_cons_zero, List.set_cons_succ]
  refine wpAnyH_ready (rs := [11]) (by kernel_rfl) (by simp) (AllReadyH.cons (o := { dst := none, op := Op.store 39 (Operand.tmp 2) (Operand.tmp 29), type := 0, pos := "cut.go:44", after := #[{ on := 10, ground := Ground.data }, { on := 2, ground := Ground.chain }, { on := 0, ground := Ground.phase }, { on := 1, ground := Ground.phase }, { on := 2, ground := Ground.phase }, { on := 3, ground := Ground.phase }, { on := 4, ground := Ground.phase }, { on := 5, ground := Ground.phase }, { on := 6, ground := Ground.phase }, { on := 7, ground := Ground.phase }, { on := 8, ground := Ground.phase }, { on := 9, ground := Ground.phase }, { on := 10, ground := Ground.phase }], guard := none }) rfl (fun K hK => ?_) AllReadyH.nil)
  go_simp
  refine hK.out _ _ ?_ (fun hHeld => ?_)
  · exact HIM.out _ (HR5.out.set _ _ _ _)
  clear hK K
  try simp only [Act.put, List.setIfInBounds_toArray, List.set_cons_zero, List.set_cons_succ]
  refine wpAnyH_ready (rs := [12]) (by kernel_rfl) (by simp) (AllReadyH.cons (o := { dst := some 3, op := Op.assign (Operand.const (Value.int IntKind.i64 0)), type := 27, pos := "cut.go:44", after := #[{ on := 11, ground := Ground.chain }, { on := 0, ground := Ground.phase }, { on := 1, ground := Ground.phase }, { on := 2, ground := Ground.phase }, { on := 3, ground := Ground.phase }, { on := 4, ground := Ground.phase }, { on := 5, ground := Ground.phase }, { on := 6, ground := Ground.phase }, { on := 7, ground := Ground.phase }, { on := 8, ground := Ground.phase }, { on := 9, ground := Ground.phase }, { on := 10, ground := Ground.phase }, { on := 11, ground := Ground.phase }], guard := none }) rfl (fun K hK => ?_) AllReadyH.nil)
  go_simp
  refine hK.out _ _ ?_ (fun hHeld => ?_)
  · exact HIM.out _ (HR5.out.set _ _ _ _)
  clear hK K
  try simp only [Act.put, List.setIfInBounds_toArray, List.set_cons_zero, List.set_cons_succ]
  refine wpAnyH_done (by kernel_rfl) ?_ _
  refine NoPanic.normal ?_
  go_wp2
  obtain ⟨⟨x, y, z, u, hb⟩, hm⟩ := HR5.out
  exact lines_end 0 (Nat.le_succ _) hb (((HM0.out.trans HM1.out.1).trans HM5.out).then hm (fun i h1 h2 => by omega)) rfl rfl n0 n1 n2 n3
end Go.Proofs.Ytogalmkeipigeaa

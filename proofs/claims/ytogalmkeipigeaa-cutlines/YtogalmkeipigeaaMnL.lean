/- Several texts in one (a claim holds at most 60 files): each has its own words ahead of it. -/
import Derived.Test.YtogalmkeipigeaaMnC
import Derived.Test.YtogalmkeipigeaaRefR
import Derived.Test.YtogalmkeipigeaaRefI
import Derived.Test.YtogalmkeipigeaaMnR
import Derived.Test.YtogalmkeipigeaaMnF
set_option linter.unusedSimpArgs false
set_option linter.unusedVariables false

/- The document's Lines: it yields what the program's does. -/
namespace Go.Proofs.Ytogalmkeipigeaa
open Go Go.RowKit Go.Shelf

theorem lines_end23 {tmps : Array Value} {w Wj : World} {r : Nat} {x y z u : Value} (e : Int) (hr : w.heap.size ≤ r) (h0 : Wj.heap[r]? = some (.cells #[x, y, z, u] 39)) (hM : Mod noB w Wj)
    (h6 : tmps.getD 2 undef = .pointer (some ⟨r, 0, none⟩)) (h7 : tmps.getD 3 undef = .int .i64 e) (a b c d : Int) :
    bodyPost Try.prog Try.f23 (fun e' w' => e' = .returned (.tuple #[linesV (a, b, c, d), .int .i64 e]) ∧ Mod noB w w') Exit.ret { tmps := tmps, defers := [] } ((((Wj.setCell ⟨r, 0, none⟩ (.int .i64 a)).setCell ⟨r, 1, none⟩ (.int .i64 b)).setCell ⟨r, 2, none⟩ (.int .i64 c)).setCell ⟨r, 3, none⟩ (.int .i64 d)) := by
  have h1 := setCell_at (setCell_at (setCell_at (setCell_at h0 0 (.int .i64 a)) 1 (.int .i64 b)) 2 (.int .i64 c)) 3 (.int .i64 d)
  have m0 := hM.setCell (p := ⟨r, 0, none⟩) (fun h => absurd h (Nat.not_lt.2 hr)) (.int .i64 a)
  have m1 := m0.setCell (p := ⟨r, 1, none⟩) (fun h => absurd h (Nat.not_lt.2 hr)) (.int .i64 b)
  have m2 := m1.setCell (p := ⟨r, 2, none⟩) (fun h => absurd h (Nat.not_lt.2 hr)) (.int .i64 c)
  have m3 := m2.setCell (p := ⟨r, 3, none⟩) (fun h => absurd h (Nat.not_lt.2 hr)) (.int .i64 d)
  exact bodyPost_ret (v := .tuple #[linesV (a, b, c, d), .int .i64 e]) ((results_row_tmp (fn := Try.f23) rfl _ _ r _ _ h6 h1 Try.underlying39 rfl (by kernel_rfl)).trans (by rw [h7]; rfl)) rfl ⟨rfl, m3⟩

set_option maxRecDepth 100000 in
set_option maxHeartbeats 2000000 in
theorem refLines_no (W H : Int) (ao : Option Addr) (zs : List Int) (cap : Nat) (w : World) (hs : IntsAt w ao zs) (h : (checkR W H zs).2 ≠ 0) :
    Calls Try.prog 23 #[cutV W H ao zs.length cap] w fun e w' => e = .returned (.tuple #[linesV (linesR W H zs).1, .int .i64 (linesR W H zs).2]) ∧ Mod noB w w' := by
  have hR : linesR W H zs = ((0, 0, 0, 0), (checkR W H zs).2) := by unfold linesR; rw [if_pos h]
  rw [hR]
  have HO := Hold.mk (refCheck_any W H ao zs cap _ ((hs.alloc (.cells #[.int .i64 W, .int .i64 H, .slice ao zs.length cap] 24)).alloc (.cells #[.int .i64 0, .int .i64 0, .int .i64 0, .int .i64 0] 39)))
  clear hR
  generalize (checkR W H zs).1 = k1 at *
  generalize (checkR W H zs).2 = e at *
  have he : (e != 0) = true := by simpa using h
  have HM0 := Hold.mk (((Mod.refl noB w).alloc (.cells #[.int .i64 W, .int .i64 H, .slice ao zs.length cap] 24)).alloc (.cells #[.int .i64 0, .int .i64 0, .int .i64 0, .int .i64 0] 39))
  have HB := Hold.mk (lines_facts (w := w) (W := W) (H := H) (ao := ao) (n := zs.length) (cap := cap))
  clear hs h
  go_enter Try.func23, Try.ntmps23
  go_wp2_with (go_at_call 15; refine HO.out.mono ?_; rintro e w1 ⟨rfl, hM1⟩; obtain ⟨r0, r1, r2, r3, q0, q1, q2, q3⟩ := resL_of (HB.out _ hM1); have HM1 := Hold.mk hM1; clear hM1)
  exact lines_end23 _ (Nat.le_succ _) (HB.out _ HM1.out) (HM0.out.trans HM1.out) rfl rfl 0 0 0 0

theorem at_many {W H : Nat} {zs : List Int} (C : CutN W H zs) (p : Int × Int) : atG (laidG W zs zs.length) p < many zs := by
  have hm := many_eq zs
  have h0 := greatest_nonneg zs
  by_cases hp : inPic W H p
  · obtain ⟨h1, h2, h3, h4⟩ := hp
    obtain ⟨x, hx⟩ : ∃ x : Nat, p.1 = x := ⟨p.1.toNat, by omega⟩
    obtain ⟨y, hy⟩ : ∃ y : Nat, p.2 = y := ⟨p.2.toNat, by omega⟩
    have e : p = ((x : Int), (y : Int)) := by rw [← hx, ← hy]
    have hxy := xy_lt (W := W) (H := H) (x := x) (y := y) (by omega) (by omega)
    rw [e, C.g (by omega) (by omega)]
    rw [← C.len] at hxy
    rw [List.getElem?_eq_getElem hxy, Option.getD_some]
    have := le_greatest (List.getElem_mem hxy)
    omega
  · rw [C.grid.at_out hp]; omega

set_option maxRecDepth 100000 in
set_option maxHeartbeats 16000000 in
theorem refLines_yes {W H : Nat} {zs : List Int} (C : CutN W H zs) (ao : Option Addr) (cap : Nat) (w : World) (hs : IntsAt w ao zs) (h : (checkR W H zs).2 = 0) :
    Calls Try.prog 23 #[cutV W H ao zs.length cap] w fun e w' => e = .returned (.tuple #[linesV (linesR W H zs).1, .int .i64 (linesR W H zs).2]) ∧ Mod noB w w' := by
  obtain ⟨g, hg⟩ : ∃ g, laidG W zs zs.length = g := ⟨_, rfl⟩
  have G := C.grid
  rw [hg] at G
  obtain ⟨N, hN⟩ : ∃ N, many zs = N := ⟨_, rfl⟩
  have hN40 : N ≤ 40 := by rw [← hN]; exact C.many_le.2
  have hgN : ∀ p, atG g p < N := fun p => by rw [← hg, ← hN]; exact at_many C p
  have hW1 := C.w1
  have hW12 := C.w2
  have hH1 := C.h1
  have hH12 := C.h2
  have hR : linesR W H zs = (((((edgesL g W H).count true : Nat) : Int), (((pointsL g W H).count 1 : Nat) : Int), (((pointsL g W H).count 2 : Nat) : Int), (((pointsL g W H).count 3 : Nat) : Int)), 0) := by
    unfold linesR; rw [if_neg (fun h' => h' h), ← hg]; rfl
  have e0 := edges_pairs G hgN
  have e1 := points_in G (v := 1) (.inl rfl)
  have e2 := points_in G (v := 2) (.inr rfl)
  have e3 := starts_count G
  rw [hR, ← e0, e1, e2, e3]
  have HO := Hold.mk (refCheck_any W H ao zs cap _ ((hs.alloc (.cells #[.int .i64 W, .int .i64 H, .slice ao zs.length cap] 24)).alloc (.cells #[.int .i64 0, .int .i64 0, .int .i64 0, .int .i64 0] 39)))
  rw [(checkR_ok h).2, hN] at HO
  have HM0 := Hold.mk (((Mod.refl noB w).alloc (.cells #[.int .i64 W, .int .i64 H, .slice ao zs.length cap] 24)).alloc (.cells #[.int .i64 0, .int .i64 0, .int .i64 0, .int .i64 0] 39))
  have HB := Hold.mk (lines_facts (w := w) (W := W) (H := H) (ao := ao) (n := zs.length) (cap := cap))
  have HX := Hold.mk (box_facts (W := W) (H := H) (cap := cap) hs)
  have HBX : Hold (∀ w1, Mod noB ((w.alloc (.cells #[.int .i64 W, .int .i64 H, .slice ao zs.length cap] 24)).alloc (.cells #[.int .i64 0, .int .i64 0, .int .i64 0, .int .i64 0] 39)) w1 → w1.heap[w.heap.size]? = some (.cells #[.int .i64 W, .int .i64 H, .slice ao zs.length cap] 24) ∧ IntsAt w1 ao zs) := ⟨fun w1 hm => by
    have hm2 := ((Mod.refl noB (w.alloc (.cells #[.int .i64 W, .int .i64 H, .slice ao zs.length cap] 24))).alloc (.cells #[.int .i64 0, .int .i64 0, .int .i64 0, .int .i64 0] 39)).trans hm
    exact ⟨hm2.at (World.alloc_heap_new w _) id, (HX.out _ hm2).2.2.2⟩⟩
  have H37 : Hold (∀ (a b : Nat) (W' : World), IntsAt W' ao zs → Calls Try.prog 37 #[cutV W H ao zs.length cap, .int .i64 a, .int .i64 b] W' fun e w' => e = .returned (.int .i64 (edgesTo g W a b (H * W) : Nat)) ∧ Mod noB W' w') := ⟨fun a b W' hi => by rw [← hg]; exact refEdges_any C ao cap a b W' hi⟩
  have HHW : H * W ≤ 144 := Nat.le_trans (Nat.mul_le_mul hH12 hW12) (by decide)
  have hE : ∀ a b : Nat, edgesTo g W a b (H * W) ≤ 576 := fun a b => Nat.le_trans (edgesTo_le _ _ _ _ _) (by omega)
  have H55 : Hold (∀ y x : Nat, 1 ≤ y → y < H → 1 ≤ x → x < W → ∀ W' : World, IntsAt W' ao zs → Calls Try.prog 55 #[cutV W H ao zs.length cap, .int .i64 x, .int .i64 y] W' fun e w' =>
      e = .returned (.tuple #[.bool (atG g ((x : Int) - 1, (y : Int) - 1) != atG g ((x : Int), (y : Int) - 1)), .bool (atG g ((x : Int) - 1, (y : Int)) != atG g ((x : Int), (y : Int))), .bool (atG g ((x : Int) - 1, (y : Int) - 1) != atG g ((x : Int) - 1, (y : Int))), .bool (atG g ((x : Int), (y : Int) - 1) != atG g ((x : Int), (y : Int)))]) ∧ Mod noB W' w') :=
    ⟨fun y x _ hy _ hx W' hi => by rw [← hg]; exact refAround_any C ao cap x y (by omega) (by omega) (by omega) (by omega) W' hi⟩
  have H34 : Hold (∀ (x y : Int), (-1000 ≤ x ∧ x ≤ 1000) → (-1000 ≤ y ∧ y ≤ 1000) → ∀ W' : World, IntsAt W' ao zs → Calls Try.prog 34 #[cutV W H ao zs.length cap, .int .i64 x, .int .i64 y] W' fun e w' => e = .returned (.int .i64 (atG g (x, y))) ∧ Mod noB W' w') := ⟨fun x y hx hy W' hi => by rw [← hg]; exact refAt_any C ao cap x y hx hy W' hi⟩
  have HST : Hold (∀ y x, 1 ≤ y → y < H → 1 ≤ x → x < W →
      ptsN g W 1 (y * (W + 1) + (x + 1)) = ptsN g W 1 (y * (W + 1) + x) + bN (atG g ((x : Int) - 1, (y : Int) - 1) != atG g ((x : Int), (y : Int) - 1)) (atG g ((x : Int) - 1, (y : Int)) != atG g ((x : Int), (y : Int))) (atG g ((x : Int) - 1, (y : Int) - 1) != atG g ((x : Int) - 1, (y : Int))) (atG g ((x : Int), (y : Int) - 1) != atG g ((x : Int), (y : Int))) ∧
      ptsN g W 2 (y * (W + 1) + (x + 1)) = ptsN g W 2 (y * (W + 1) + x) + jN (atG g ((x : Int) - 1, (y : Int) - 1) != atG g ((x : Int), (y : Int) - 1)) (atG g ((x : Int) - 1, (y : Int)) != atG g ((x : Int), (y : Int))) (atG g ((x : Int) - 1, (y : Int) - 1) != atG g ((x : Int) - 1, (y : Int))) (atG g ((x : Int), (y : Int) - 1) != atG g ((x : Int), (y : Int)))) := ⟨fun y x hy1 hy hx1 hx => by
    rw [ptsN_step 1 (by omega), ptsN_step 2 (by omega), pointR_in G (by omega) (by omega) (by omega) (by omega)]
    generalize (atG g ((x : Int) - 1, (y : Int) - 1) != atG g ((x : Int), (y : Int) - 1)) = u
    generalize (atG g ((x : Int) - 1, (y : Int)) != atG g ((x : Int), (y : Int))) = d
    generalize (atG g ((x : Int) - 1, (y : Int) - 1) != atG g ((x : Int) - 1, (y : Int))) = l
    generalize (atG g ((x : Int), (y : Int) - 1) != atG g ((x : Int), (y : Int))) = r
    constructor <;> (congr 1; cases u <;> cases d <;> cases l <;> cases r <;> rfl)⟩
  have HBD : Hold (∀ y x, y ≤ H → x ≤ W → ptsN g W 1 (y * (W + 1) + x) ≤ 1000 ∧ ptsN g W 2 (y * (W + 1) + x) ≤ 1000) := ⟨fun y x hy hx => by
    have a := ptsN_le (g := g) (W := W) 1 (y * (W + 1) + x)
    have b := ptsN_le (g := g) (W := W) 2 (y * (W + 1) + x)
    have c : y * (W + 1) ≤ 12 * 13 := Nat.mul_le_mul (by omega) (by omega)
    omega⟩
  have HRW : Hold (∀ y, 1 ≤ y → y < H → ptsN g W 1 ((y + 1) * (W + 1) + 1) = ptsN g W 1 (y * (W + 1) + W) ∧ ptsN g W 2 ((y + 1) * (W + 1) + 1) = ptsN g W 2 (y * (W + 1) + W)) := ⟨fun y _ hy => ⟨ptsN_row G (.inl rfl) hy, ptsN_row G (.inr rfl) hy⟩⟩
  have HS0 : Hold (ptsN g W 1 (1 * (W + 1) + 1) = 0 ∧ ptsN g W 2 (1 * (W + 1) + 1) = 0) := ⟨ptsN_start G (.inl rfl), ptsN_start G (.inr rfl)⟩
  obtain ⟨T1, hT1⟩ : ∃ T1 : Nat → Nat, ∀ x, T1 x = sm (x - 1) (fun i => topN g H (i + 1)) := ⟨_, fun _ => rfl⟩
  obtain ⟨T2, hT2⟩ : ∃ T2 : Nat → Nat, ∀ y, T2 y = T1 W + sm (y - 1) (fun j => sideN g W (j + 1)) := ⟨_, fun _ => rfl⟩
  have HT1 : Hold ((∀ x, 1 ≤ x → x < W → T1 (x + 1) = T1 x + topN g H x) ∧ (∀ x, x ≤ W → T1 x ≤ 1000) ∧ T1 1 = 0) := ⟨⟨fun x hx _ => by
      rw [hT1, hT1, show x + 1 - 1 = (x - 1) + 1 by omega, sm_succ, show x - 1 + 1 = x by omega], fun x hx => by
      rw [hT1]; have := sm_le (n := x - 1) (fun i => topN_le g H (i + 1)); omega, by rw [hT1]; rfl⟩⟩
  have HT2 : Hold ((∀ x, 1 ≤ x → x < H → T2 (x + 1) = T2 x + sideN g W x) ∧ (∀ x, x ≤ H → T2 x ≤ 1000) ∧ T2 1 = T1 W) := ⟨⟨fun x hx _ => by
      rw [hT2, hT2, show x + 1 - 1 = (x - 1) + 1 by omega, sm_succ, show x - 1 + 1 = x by omega]; omega, fun x hx => by
      rw [hT2, hT1]; have := sm_le (n := x - 1) (fun i => sideN_le g W (i + 1)); have := sm_le (n := W - 1) (fun i => topN_le g H (i + 1)); omega, by rw [hT2]; rfl⟩⟩
  rw [← hT1 W, ← hT2 H]
  have HE := Hold.mk hE
  clear hs h hR e0 e1 e2 e3 hg hN hgN G C hT1 hT2 hE HX HHW
  go_enter Try.func23, Try.ntmps23
  go_upto_block 0 with (go_at_call 15; refine HO.out.mono ?_; rintro e w1 ⟨rfl, hM1⟩; have HM1 := Hold.mk hM1; clear hM1)
  have HNB : Hold (w.heap.size + 1 < w1.heap.size) := ⟨by have := HM1.out.size; simp only [World.size_alloc] at this; omega⟩
  obtain ⟨w2, hw2⟩ : ∃ w2, w1.alloc (.cells #[.int .i64 0, .int .i64 0, .int .i64 0, .int .i64 0] 39) = w2 := ⟨_, rfl⟩
  have HO2 : Hold (OutAt w1.heap.size 0 0 0 0 w2) := ⟨by rw [← hw2]; exact World.alloc_heap_new _ _⟩
  have HM2 : Hold (Mod noB ((w.alloc (.cells #[.int .i64 W, .int .i64 H, .slice ao zs.length cap] 24)).alloc (.cells #[.int .i64 0, .int .i64 0, .int .i64 0, .int .i64 0] 39)) w2) := ⟨by rw [← hw2]; exact HM1.out.alloc _⟩
  have HLT : Hold (((w.alloc (.cells #[.int .i64 W, .int .i64 H, .slice ao zs.length cap] 24)).alloc (.cells #[.int .i64 0, .int .i64 0, .int .i64 0, .int .i64 0] 39)).heap.size ≤ w1.heap.size) := ⟨HM1.out.size⟩
  have HF2 : Hold (∀ W', Mod (fun k => k = w1.heap.size) w2 W' → Mod noB ((w.alloc (.cells #[.int .i64 W, .int .i64 H, .slice ao zs.length cap] 24)).alloc (.cells #[.int .i64 0, .int .i64 0, .int .i64 0, .int .i64 0] 39)) W') := ⟨fun W' hm => HM2.out.then hm (fun i h1 h2 => by have := HLT.out; omega)⟩
  rw [hw2]
  clear hw2
  refine wp_mono (lines_len W H ao zs cap N w1.heap.size w.heap.size w2 hN40 (fun a b => edgesTo g W a b (H * W)) ⟨fun W' hm => HBX.out W' (HF2.out W' hm)⟩ H37 HE.out HO2) (then_only ?_)
  rintro a' w3 ⟨v, rfl, ho, hm⟩
  have HR3 : Hold (OutAt w1.heap.size (sm N (fun a => sm a (fun b => edgesTo g W a b (H * W)))) (ptsN g W 1 (1 * (W + 1) + 1)) (ptsN g W 2 (1 * (W + 1) + 1)) 0 w3 ∧ Mod (fun k => k = w1.heap.size) w2 w3) := ⟨by rw [HS0.out.1, HS0.out.2]; exact ho, hm⟩
  clear ho hm
  go_upto_block 4 with fail
  refine wp_mono (lines_pts W H ao zs cap N w1.heap.size w.heap.size w3 (sm N (fun a => sm a (fun b => edgesTo g W a b (H * W)))) _ _ _ _ (fun y x => ptsN g W 1 (y * (W + 1) + x)) (fun y x => ptsN g W 2 (y * (W + 1) + x)) hW1 hW12 hH1 hH12 ⟨fun W' hm => HBX.out W' (HF2.out W' (HR3.out.2.trans hm))⟩ H55 HST HBD HRW ⟨HR3.out.1⟩) (then_only ?_)
  rintro a' w4 ⟨v2, rfl, ho, hm⟩
  have HR4 : Hold (OutAt w1.heap.size (sm N (fun a => sm a (fun b => edgesTo g W a b (H * W)))) (ptsN g W 1 (H * (W + 1) + 1)) (ptsN g W 2 (H * (W + 1) + 1)) (T1 1) w4 ∧ Mod (fun k => k = w1.heap.size) w2 w4) := ⟨by rw [HT1.out.2.2]; exact ho, HR3.out.2.trans hm⟩
  clear ho hm HR3 HST HBD HRW HS0
  go_upto_block 8 with fail
  refine wp_mono (lines_top W H ao zs cap N w1.heap.size w.heap.size w4 g (sm N (fun a => sm a (fun b => edgesTo g W a b (H * W)))) (ptsN g W 1 (H * (W + 1) + 1)) (ptsN g W 2 (H * (W + 1) + 1)) T1 hW1 hH1 hW12 hH12 ⟨fun W' hm => HBX.out W' (HF2.out W' (HR4.out.2.trans hm))⟩ H34 ⟨HT1.out.1⟩ ⟨HT1.out.2.1⟩ ⟨HR4.out.1⟩) (then_only ?_)
  rintro a' w5 ⟨v3, rfl, ho, hm⟩
  have HR5 : Hold (OutAt w1.heap.size (sm N (fun a => sm a (fun b => edgesTo g W a b (H * W)))) (ptsN g W 1 (H * (W + 1) + 1)) (ptsN g W 2 (H * (W + 1) + 1)) (T2 1) w5 ∧ Mod (fun k => k = w1.heap.size) w2 w5) := ⟨by rw [HT2.out.2.2]; exact ho, HR4.out.2.trans hm⟩
  clear ho hm HR4
  go_upto_block 10 with fail
  refine wp_mono (lines_side W H ao zs cap N w1.heap.size w.heap.size w5 g (sm N (fun a => sm a (fun b => edgesTo g W a b (H * W)))) (ptsN g W 1 (H * (W + 1) + 1)) (ptsN g W 2 (H * (W + 1) + 1)) T2 hW1 hH1 hW12 hH12 ⟨fun W' hm => HBX.out W' (HF2.out W' (HR5.out.2.trans hm))⟩ H34 ⟨HT2.out.1⟩ ⟨HT2.out.2.1⟩ ⟨HR5.out.1⟩) (then_only ?_)
  rintro a' w6 ⟨v4, rfl, ho, hm⟩
  have HR6 : Hold (OutAt w1.heap.size (sm N (fun a => sm a (fun b => edgesTo g W a b (H * W)))) (ptsN g W 1 (H * (W + 1) + 1)) (ptsN g W 2 (H * (W + 1) + 1)) (T2 H) w6 ∧ Mod (fun k => k = w1.heap.size) w2 w6) := ⟨ho, HR5.out.2.trans hm⟩
  clear ho hm HR5
  have HM6 := Hold.mk (HF2.out _ HR6.out.2)
  have HR0 := Hold.mk (HB.out _ HM6.out)
  obtain ⟨r0, r1, r2, r3, q0, q1, q2, q3⟩ := resL_of HR0.out
  go_wp2_with (refine wpList_load_row rfl 39 (.tmp 6) rfl w1.heap.size rfl 39 _ (0, 0) _ HR6.out.1 Try.underlying39 rfl (by kernel_rfl) ?_)
  exact lines_end23 0 (Nat.le_succ _) HR0.out (HM0.out.trans HM6.out) rfl rfl ((sm N (fun a => sm a (fun b => edgesTo g W a b (H * W)))) : Nat) ((ptsN g W 1 (H * (W + 1) + 1)) : Nat) ((ptsN g W 2 (H * (W + 1) + 1)) : Nat) (T2 H : Nat)
end Go.Proofs.Ytogalmkeipigeaa

/- CutLines: what the lines of a cut are like, and those of a saw, are the document's, or why they are not known. -/
namespace Go.Proofs.Ytogalmkeipigeaa
open Go.RowKit

def SawTwo (e : Ending) (w w' : World) (L : List (Bool × Int × Int × Int)) (er : Int) : Prop := ∃ ao cap, e = .returned (.tuple #[.slice ao L.length cap, .int .i64 er]) ∧ RowAt w' ao (lineCells L) ∧ Mod noB w w'
theorem lines_both (W H : Int) (ao : Option Addr) (zs : List Int) (cap : Nat) :
    (∀ w, IntsAt w ao zs → Calls Try.prog 22 #[cutV W H ao zs.length cap] w fun e w' => e = .returned (.tuple #[linesV (linesR W H zs).1, .int .i64 (linesR W H zs).2]) ∧ Mod noB w w') ∧
    (∀ w, IntsAt w ao zs → Calls Try.prog 23 #[cutV W H ao zs.length cap] w fun e w' => e = .returned (.tuple #[linesV (linesR W H zs).1, .int .i64 (linesR W H zs).2]) ∧ Mod noB w w') := by
  by_cases h : (checkR W H zs).2 = 0
  · obtain ⟨W, H, rfl, rfl, C⟩ := isCutB_true (checkR_ok h).1
    exact ⟨fun w hs => lines_yes C ao cap w hs h, fun w hs => refLines_yes C ao cap w hs h⟩
  · exact ⟨fun w hs => lines_no W H ao zs cap w hs h, fun w hs => refLines_no W H ao zs cap w hs h⟩
theorem saw_both (W H : Int) (ao : Option Addr) (zs : List Int) (cap : Nat) (hL : (sawR W H zs).1.length ≤ 1000) : ∃ (L : List (Bool × Int × Int × Int)) (er : Int), L.length ≤ 1000 ∧
    (∀ w, IntsAt w ao zs → Calls Try.prog 24 #[cutV W H ao zs.length cap] w fun e w' => SawTwo e w w' L er) ∧
    (∀ w, IntsAt w ao zs → Calls Try.prog 25 #[cutV W H ao zs.length cap] w fun e w' => SawTwo e w w' L er) := by
  refine ⟨(sawR W H zs).1, (sawR W H zs).2, hL, ?_⟩
  have fin : ∀ e w w', SawsOut e w w' (sawR W H zs) → SawTwo e w w' (sawR W H zs).1 (sawR W H zs).2 := by
    rintro e w w' ⟨v, rfl, hown, hM⟩
    obtain ⟨ao', cap', rfl, hr⟩ := rowAt_of_owns hown
    exact ⟨ao', cap', rfl, hr, hM⟩
  by_cases h : (checkR W H zs).2 = 0
  · obtain ⟨W, H, rfl, rfl, C⟩ := isCutB_true (checkR_ok h).1
    exact ⟨fun w hs => (saw_yes C ao cap w hs h).mono fun e w' hh => fin _ _ _ hh, fun w hs => (refSaw_yes C ao cap w hs h).mono fun e w' hh => fin _ _ _ hh⟩
  · exact ⟨fun w hs => (saw_no W H ao zs cap w hs h).mono fun e w' hh => fin _ _ _ hh, fun w hs => (refSaw_no W H ao zs cap w hs h).mono fun e w' hh => fin _ _ _ hh⟩
theorem sawR_len (W H : Int) (zs : List Int) : (sawR W H zs).1.length ≤ 1000 := by
  unfold sawR
  by_cases h : (checkR W H zs).2 = 0
  · obtain ⟨W, H, rfl, rfl, C⟩ := isCutB_true (checkR_ok h).1
    rw [if_neg (fun h' => h' h)]
    simp only [Int.toNat_natCast]
    cases hL : sawL (laidG W zs zs.length) (W * H) 0 0 W H with
    | none => exact Nat.zero_le _
    | some L =>
      have := sawL_len C.w1 C.h1 hL
      have h2 : (W - 0) * (H - 0) ≤ 12 * 12 := Nat.mul_le_mul (by have := C.w2; omega) (by have := C.h2; omega)
      show L.length ≤ 1000
      omega
  · rw [if_pos h]; exact Nat.zero_le _

set_option maxRecDepth 100000 in
set_option maxHeartbeats 2000000 in
theorem cutLines_large (W H : Int) (ao : Option Addr) (n cap : Nat) (w : World) (hn : 288 < n) :
    Calls Try.prog 4 #[cutV W H ao n cap] w fun e w' => e = .returned (.bool true) ∧ Mod noB w w' := by
  have hd : decide (288 < (n : Int)) = true := by simp; omega
  have HL : Hold (∀ w1, Calls Try.prog 12 #[cutV W H ao n cap] w1 fun e w' => e = .returned (.bool true) ∧ Mod noB w1 w') := ⟨fun w1 => by rw [← hd]; exact large_any W H ao n cap w1⟩
  have HM0 := Hold.mk ((Mod.refl noB w).alloc (.cells #[.int .i64 W, .int .i64 H, .slice ao n cap] 24))
  clear hd hn
  go_enter Try.func4, Try.ntmps4
  go_wp2_with (first
    | (go_at_call 12; refine (HL.out _).mono ?_; rintro e w1 ⟨rfl, hM1⟩; have HM1 := Hold.mk hM1; clear hM1)
    | (go_at_call 13; refine (awake_any w1).mono ?_; rintro e w2 ⟨rfl, hM2⟩; have HM2 := Hold.mk hM2; clear hM2))
  go_ret
  exact ⟨rfl, (HM0.out.trans HM1.out).trans HM2.out⟩

set_option maxRecDepth 100000 in
set_option maxHeartbeats 4000000 in
theorem cutLines_small (W H : Int) (ao : Option Addr) (zs : List Int) (cap : Nat) (w : World) (hs : IntsAt w ao zs) (hn : zs.length ≤ 288) :
    Calls Try.prog 4 #[cutV W H ao zs.length cap] w fun e w' => e = .returned (.bool true) ∧ Mod noB w w' := by
  have hd : decide (288 < (zs.length : Int)) = false := by simp; omega
  have HL : Hold (∀ w1, Calls Try.prog 12 #[cutV W H ao zs.length cap] w1 fun e w' => e = .returned (.bool false) ∧ Mod noB w1 w') := ⟨fun w1 => by rw [← hd]; exact large_any W H ao zs.length cap w1⟩
  have HB := Hold.mk (box_facts (W := W) (H := H) (cap := cap) hs)
  have HM0 := Hold.mk ((Mod.refl noB w).alloc (.cells #[.int .i64 W, .int .i64 H, .slice ao zs.length cap] 24))
  obtain ⟨hL1, hL2⟩ := lines_both W H ao zs cap
  obtain ⟨L, es, hLl, hS1, hS2⟩ := saw_both W H ao zs cap (sawR_len W H zs)
  obtain ⟨⟨⟨l0, l1, l2, l3⟩, el⟩, hl⟩ : ∃ r, linesR W H zs = r := ⟨_, rfl⟩
  rw [hl] at hL1 hL2
  have HL1 := Hold.mk hL1
  have HL2 := Hold.mk hL2
  have HS1 := Hold.mk hS1
  have HS2 := Hold.mk hS2
  clear hd hn hs hL1 hL2 hS1 hS2 hl
  go_enter Try.func4, Try.ntmps4
  go_wp2_with (first
    | (go_at_call 12; refine (HL.out _).mono ?_; rintro e w1 ⟨rfl, hM⟩; obtain ⟨c0, c1, c2, hI⟩ := HB.out _ hM; have HW1 := Hold.mk (And.intro hM hI); clear hM hI HL)
    | (go_at_call 22; refine (HL1.out w1 HW1.out.2).mono ?_; rintro e w2 ⟨rfl, hM⟩; clear c0 c1 c2; obtain ⟨c0, c1, c2, hI⟩ := HB.out _ ((HW1.out.1.trans hM).alloc (.cells #[.int .i64 l0, .int .i64 l1, .int .i64 l2, .int .i64 l3] 39)); have HW2 := Hold.mk (And.intro ((HW1.out.1.trans hM).alloc (.cells #[.int .i64 l0, .int .i64 l1, .int .i64 l2, .int .i64 l3] 39)) (And.intro hI (World.alloc_heap_new w2 (.cells #[.int .i64 l0, .int .i64 l1, .int .i64 l2, .int .i64 l3] 39)))); clear hM hI HL1)
    | (go_at_call 23; refine (HL2.out _ HW2.out.2.1).mono ?_; rintro e w3 ⟨rfl, hM⟩; clear c0 c1 c2; obtain ⟨c0, c1, c2, hI⟩ := HB.out _ ((HW2.out.1.trans hM).alloc (.cells #[.int .i64 l0, .int .i64 l1, .int .i64 l2, .int .i64 l3] 39)); have HW3 := Hold.mk (And.intro ((HW2.out.1.trans hM).alloc (.cells #[.int .i64 l0, .int .i64 l1, .int .i64 l2, .int .i64 l3] 39)) (And.intro hI (And.intro (World.alloc_heap_new w3 (.cells #[.int .i64 l0, .int .i64 l1, .int .i64 l2, .int .i64 l3] 39)) ((hM.alloc (.cells #[.int .i64 l0, .int .i64 l1, .int .i64 l2, .int .i64 l3] 39)).at HW2.out.2.2 id)))); clear hM hI HL2)
    | (go_at_call 24; refine (HS1.out _ HW3.out.2.1).mono ?_; rintro e w4 ⟨ao4, cap4, rfl, hR4, hM⟩; clear c0 c1 c2; obtain ⟨c0, c1, c2, hI⟩ := HB.out _ (HW3.out.1.trans hM); have HW4 := Hold.mk (And.intro (HW3.out.1.trans hM) (And.intro hI (And.intro (hM.at HW3.out.2.2.1 id) (And.intro (hM.at HW3.out.2.2.2 id) hR4)))); clear hM hI hR4 HS1)
    | (go_at_call 25; refine (HS2.out w4 HW4.out.2.1).mono ?_; rintro e w5 ⟨ao5, cap5, rfl, hR5, hM⟩; clear c0 c1 c2; have HW5 := Hold.mk (And.intro (HW4.out.1.trans hM) (And.intro (hM.at HW4.out.2.2.1 id) (And.intro (hM.at HW4.out.2.2.2.1 id) (And.intro (HW4.out.2.2.2.2.mod hM) hR5)))); clear hM hR5 HS2)
    | (refine wpList_load_row rfl 39 (.tmp 3) rfl w2.heap.size rfl 39 _ (0, 0) _ HW5.out.2.2.1 Try.underlying39 rfl (by kernel_rfl) ?_)
    | (refine wpList_load_row rfl 39 (.tmp 5) rfl w3.heap.size rfl 39 _ (0, 0) _ HW5.out.2.1 Try.underlying39 rfl (by kernel_rfl) ?_)
    | (go_at_call 26; refine (lines_same ao4 ao5 L hLl cap4 cap5 w5 HW5.out.2.2.2.1 HW5.out.2.2.2.2).mono ?_; rintro e w6 ⟨rfl, hM⟩; have HW6 := Hold.mk (HW5.out.1.trans hM); clear hM)
    | (go_at_call 13; refine (awake_any w6).mono ?_; rintro e w7 ⟨rfl, hM⟩; have HW7 := Hold.mk (HW6.out.trans hM); clear hM))
  go_ret
  exact ⟨rfl, HM0.out.trans HW7.out⟩
end Go.Proofs.Ytogalmkeipigeaa

/- FitMore: the walk where there is a verdict. -/
import Derived.Test.YtnjbamikfjdofaaAnew
import Derived.Deep.DeepCutAuto
import Derived.Deep.CutRange
set_option linter.unusedSimpArgs false
set_option linter.unusedVariables false
namespace Go.Proofs.Ytnjbamikfjdofaa
open Go.RowKit Go.Shelf

set_option maxRecDepth 100000 in
set_option maxHeartbeats 16000000 in
theorem more_ok (p : Ply) (a b : Edg) (r : Int × Int) (c : Int) (w : World) (N F T e2 e3 m3 m5 m7 S L D R1 R2 R3 R4 : Int) (g : Gp) (c0 : 0 ≤ c) (c1 : c ≤ 255)
    (h3 : c.tmod 3 = m3) (h5 : c.tmod 5 = m5) (h7 : c.tmod 7 = m7) (b30 : 0 ≤ m3) (b31 : m3 ≤ 2) (b50 : 0 ≤ m5) (b51 : m5 ≤ 4) (b70 : 0 ≤ m7) (b71 : m7 ≤ 6)
    (pb1 : 0 ≤ p.slack) (pb2 : p.slack ≤ 500) (pb3 : 0 ≤ p.loose) (pb4 : p.loose ≤ 500) (pb5 : 0 ≤ p.damp.1) (pb6 : p.damp.1 ≤ p.damp.2) (pb7 : p.damp.2 ≤ 100)
    (HB : Hold (a.k ≠ 0 → (0 ≤ a.a.1 ∧ a.a.1 ≤ a.a.2 ∧ a.a.2 ≤ 10000) ∧ (1 ≤ a.w.1 ∧ a.w.1 ≤ a.w.2 ∧ a.w.2 ≤ 3000) ∧ 1 ≤ a.d.1 ∧ a.d.1 ≤ a.d.2 ∧ a.d.2 ≤ 3000))
    (HS : Hold (S = min 500 (p.slack + c))) (HL : Hold (L = min 500 (p.loose + c))) (HD : Hold (D = max p.damp.1 (p.damp.2 - m5)))
    (F1 : Hold (∀ w, Calls Try.prog 15 #[plV p, edV a, edV b] w fun e w' => e = .returned (.tuple #[.int .i64 N, .int .i64 0]) ∧ Mod noB w w'))
    (G1 : Hold (∀ w, Calls Try.prog 17 #[plV p, edV a, edV b] w fun e w' => e = .returned (.tuple #[gpV g, .int .i64 e2]) ∧ Mod noB w w'))
    (L1 : Hold (∀ w, Calls Try.prog 22 #[plV p, edV a, edV b, spV r] w fun e w' => e = .returned (.tuple #[.int .i64 F, .int .i64 T, .int .i64 e3]) ∧ Mod noB w w'))
    (F2 : Hold (∀ w, Calls Try.prog 15 #[plV p, edV b, edV a] w fun e w' => e = .returned (.tuple #[.int .i64 N, .int .i64 0]) ∧ Mod noB w w'))
    (G2 : Hold (∀ w, Calls Try.prog 17 #[plV p, edV b, edV a] w fun e w' => e = .returned (.tuple #[gpV g, .int .i64 e2]) ∧ Mod noB w w'))
    (L2 : Hold (∀ w, Calls Try.prog 22 #[plV p, edV b, edV a, spV r] w fun e w' => e = .returned (.tuple #[.int .i64 F, .int .i64 T, .int .i64 e3]) ∧ Mod noB w w'))
    (HP : Hold (∀ w, Calls Try.prog 35 #[plV p] w fun e w' => e = .returned (.bool true) ∧ Mod noB w w'))
    (Q1 : Hold (∀ w, Calls Try.prog 15 #[plV { p with slack := S }, edV a, edV b] w fun e w' => e = .returned (.tuple #[.int .i64 R1, .int .i64 0]) ∧ Mod noB w w'))
    (Q2 : Hold (∀ w, Calls Try.prog 15 #[plV { p with loose := L }, edV a, edV b] w fun e w' => e = .returned (.tuple #[.int .i64 R2, .int .i64 0]) ∧ Mod noB w w'))
    (Q3 : Hold (∀ w, Calls Try.prog 15 #[plV { p with damp := (p.damp.1, D) }, edV a, edV b] w fun e w' => e = .returned (.tuple #[.int .i64 R3, .int .i64 0]) ∧ Mod noB w w'))
    (HT : Hold (∀ x y z, (a.k ≠ 0 → x = max a.a.1 (a.a.2 - m7) ∧ y = min a.w.2 (a.w.1 + m5) ∧ z = max a.d.1 (a.d.2 - m3)) → ∀ w, Calls Try.prog 15 #[plV p, edV ⟨a.k, (a.a.1, x), (y, a.w.2), (a.d.1, z)⟩, edV b] w fun e w' => e = .returned (.tuple #[.int .i64 R4, .int .i64 0]) ∧ Mod noB w w'))
    (HN : Hold (N = 0 ∨ (N = 1 ∧ R1 ≠ 0 ∧ R2 ≠ 0) ∨ (N = 2 ∧ R1 = 2 ∧ R2 = 2 ∧ R3 = 2)))
    (HN4 : Hold (N = 1 ∨ R4 = N)) :
    Calls Try.prog 12 #[plV p, edV a, edV b, spV r, .int .u8 c] w fun e w' => e = .returned (.bool true) ∧ Mod noB w w' := by
  have HF := Hold.mk (lk_kept p a b r w)
  go_enter Try.func12, Try.ntmps12
  go_upto_region 11 with (first
    | (go_at_call 15; have Kx := F1; refine (F1.out _).mono ?_; rintro e w1 ⟨rfl, hM⟩; replace HF := Hold.mk (HF.out.later hM); obtain ⟨p0, p1, p2, p3, p4⟩ := PlayAt.of HF.out.now.1.1.1.2; have hp := at_ltS HF.out.now.1.1.1.2; obtain ⟨a0, a1, a2, a3, a4, a5, a6⟩ := EdgeAt.of HF.out.now.1.1.2; have ha := at_ltS HF.out.now.1.1.2; obtain ⟨b0, b1, b2, b3, b4, b5, b6⟩ := EdgeAt.of HF.out.now.1.2; have hb := at_ltS HF.out.now.1.2; have r0 := cellsAt HF.out.now.2 0; have r1 := cellsAt HF.out.now.2 1; have hr := at_ltS HF.out.now.2; clear hM F1 Kx)
    | (go_at_call 15; have Kx := F2; refine (F2.out _).mono ?_; rintro e w2 ⟨rfl, hM⟩; clear p0 p1 p2 p3 p4 hp a0 a1 a2 a3 a4 a5 a6 ha b0 b1 b2 b3 b4 b5 b6 hb r0 r1 hr; replace HF := Hold.mk (HF.out.later hM); obtain ⟨p0, p1, p2, p3, p4⟩ := PlayAt.of HF.out.now.1.1.1.2; have hp := at_ltS HF.out.now.1.1.1.2; obtain ⟨a0, a1, a2, a3, a4, a5, a6⟩ := EdgeAt.of HF.out.now.1.1.2; have ha := at_ltS HF.out.now.1.1.2; obtain ⟨b0, b1, b2, b3, b4, b5, b6⟩ := EdgeAt.of HF.out.now.1.2; have hb := at_ltS HF.out.now.1.2; have r0 := cellsAt HF.out.now.2 0; have r1 := cellsAt HF.out.now.2 1; have hr := at_ltS HF.out.now.2; clear hM F2 Kx)
    | (go_at_call 17; have Kx := G1; refine (G1.out _).mono ?_; rintro e w3 ⟨rfl, hM⟩; clear p0 p1 p2 p3 p4 hp a0 a1 a2 a3 a4 a5 a6 ha b0 b1 b2 b3 b4 b5 b6 hb r0 r1 hr; replace HF := Hold.mk (HF.out.later hM); obtain ⟨p0, p1, p2, p3, p4⟩ := PlayAt.of HF.out.now.1.1.1.2; have hp := at_ltS HF.out.now.1.1.1.2; obtain ⟨a0, a1, a2, a3, a4, a5, a6⟩ := EdgeAt.of HF.out.now.1.1.2; have ha := at_ltS HF.out.now.1.1.2; obtain ⟨b0, b1, b2, b3, b4, b5, b6⟩ := EdgeAt.of HF.out.now.1.2; have hb := at_ltS HF.out.now.1.2; have r0 := cellsAt HF.out.now.2 0; have r1 := cellsAt HF.out.now.2 1; have hr := at_ltS HF.out.now.2; clear hM G1 Kx)
    | (go_at_call 17; have Kx := G2; refine (G2.out _).mono ?_; rintro e w4 ⟨rfl, hM⟩; clear p0 p1 p2 p3 p4 hp a0 a1 a2 a3 a4 a5 a6 ha b0 b1 b2 b3 b4 b5 b6 hb r0 r1 hr; replace HF := Hold.mk ((HF.out.later (((Mod.refl noB w3).alloc _).trans hM)).and (kept_block (hM.at (World.alloc_heap_new w3 _) id))); obtain ⟨p0, p1, p2, p3, p4⟩ := PlayAt.of HF.out.now.1.1.1.1.2; have hp := at_ltS HF.out.now.1.1.1.1.2; obtain ⟨a0, a1, a2, a3, a4, a5, a6⟩ := EdgeAt.of HF.out.now.1.1.1.2; have ha := at_ltS HF.out.now.1.1.1.2; obtain ⟨b0, b1, b2, b3, b4, b5, b6⟩ := EdgeAt.of HF.out.now.1.1.2; have hb := at_ltS HF.out.now.1.1.2; have r0 := cellsAt HF.out.now.1.2 0; have r1 := cellsAt HF.out.now.1.2 1; have hr := at_ltS HF.out.now.1.2; clear hM G2 Kx)
    | (go_at_call 22; have Kx := L1; refine (L1.out _).mono ?_; rintro e w5 ⟨rfl, hM⟩; clear p0 p1 p2 p3 p4 hp a0 a1 a2 a3 a4 a5 a6 ha b0 b1 b2 b3 b4 b5 b6 hb r0 r1 hr; replace HF := Hold.mk ((HF.out.later (((Mod.refl noB w4).alloc _).trans hM)).and (kept_block (hM.at (World.alloc_heap_new w4 _) id))); obtain ⟨p0, p1, p2, p3, p4⟩ := PlayAt.of HF.out.now.1.1.1.1.1.2; have hp := at_ltS HF.out.now.1.1.1.1.1.2; obtain ⟨a0, a1, a2, a3, a4, a5, a6⟩ := EdgeAt.of HF.out.now.1.1.1.1.2; have ha := at_ltS HF.out.now.1.1.1.1.2; obtain ⟨b0, b1, b2, b3, b4, b5, b6⟩ := EdgeAt.of HF.out.now.1.1.1.2; have hb := at_ltS HF.out.now.1.1.1.2; have r0 := cellsAt HF.out.now.1.1.2 0; have r1 := cellsAt HF.out.now.1.1.2 1; have hr := at_ltS HF.out.now.1.1.2; clear hM L1 Kx)
    | (go_at_call 22; have Kx := L2; refine (L2.out _).mono ?_; rintro e w6 ⟨rfl, hM⟩; clear p0 p1 p2 p3 p4 hp a0 a1 a2 a3 a4 a5 a6 ha b0 b1 b2 b3 b4 b5 b6 hb r0 r1 hr; replace HF := Hold.mk (HF.out.later hM); obtain ⟨p0, p1, p2, p3, p4⟩ := PlayAt.of HF.out.now.1.1.1.1.1.2; have hp := at_ltS HF.out.now.1.1.1.1.1.2; obtain ⟨a0, a1, a2, a3, a4, a5, a6⟩ := EdgeAt.of HF.out.now.1.1.1.1.2; have ha := at_ltS HF.out.now.1.1.1.1.2; obtain ⟨b0, b1, b2, b3, b4, b5, b6⟩ := EdgeAt.of HF.out.now.1.1.1.2; have hb := at_ltS HF.out.now.1.1.1.2; have r0 := cellsAt HF.out.now.1.1.2 0; have r1 := cellsAt HF.out.now.1.1.2 1; have hr := at_ltS HF.out.now.1.1.2; have x0 := cellsAt HF.out.now.1.2 0; have x1 := cellsAt HF.out.now.1.2 1; have x2 := cellsAt HF.out.now.1.2 2; have x3 := cellsAt HF.out.now.1.2 3; have x4 := cellsAt HF.out.now.1.2 4; have x5 := cellsAt HF.out.now.1.2 5; have hx := at_ltS HF.out.now.1.2; have y0 := cellsAt HF.out.now.2 0; have y1 := cellsAt HF.out.now.2 1; have y2 := cellsAt HF.out.now.2 2; have y3 := cellsAt HF.out.now.2 3; have y4 := cellsAt HF.out.now.2 4; have y5 := cellsAt HF.out.now.2 5; have hy := at_ltS HF.out.now.2; clear hM L2 Kx)
    | (go_at_call 35; refine (HP.out _).mono ?_; rintro e w24 ⟨rfl, hM⟩; clear p0 p1 p2 p3 p4 hp a0 a1 a2 a3 a4 a5 a6 ha b0 b1 b2 b3 b4 b5 b6 hb r0 r1 hr; clear x0 x1 x2 x3 x4 x5 hx y0 y1 y2 y3 y4 y5 hy; replace HF : Hold (Kept w24 (LK p a b r w)) := ⟨(LK.kept (HF.out.later hM).now.1.1)⟩; obtain ⟨p0, p1, p2, p3, p4⟩ := PlayAt.of HF.out.now.1.1.1.2; have hp := at_ltS HF.out.now.1.1.1.2; obtain ⟨a0, a1, a2, a3, a4, a5, a6⟩ := EdgeAt.of HF.out.now.1.1.2; have ha := at_ltS HF.out.now.1.1.2; obtain ⟨b0, b1, b2, b3, b4, b5, b6⟩ := EdgeAt.of HF.out.now.1.2; have hb := at_ltS HF.out.now.1.2; have r0 := cellsAt HF.out.now.2 0; have r1 := cellsAt HF.out.now.2 1; have hr := at_ltS HF.out.now.2; clear hM; have hp1 : w.heap.size < w24.heap.size + 1 := (by omega); have hp2 : w.heap.size < w24.heap.size + 1 + 1 := (by omega)))
  go_cut [25, 26, 27] from 126 to 128 (fun s25 s26 s27 wx => ∃ x y z : Nat, s25 = .pointer (some ⟨x, 0, none⟩) ∧ s26 = .pointer (some ⟨y, 0, none⟩) ∧ s27 = .pointer (some ⟨z, 0, none⟩) ∧ Hold (Three p p p w24 wx x y z))
  case first =>
    go_region
    all_goals (go_wp2_with fail; go_meet)
    all_goals exact ⟨_, _, _, rfl, rfl, rfl, ⟨three_new p w24 _ _ _ (by omega) (by omega) (by omega) (by omega) (by omega) (by omega)⟩⟩
  case rest =>
  obtain ⟨x, y, z, rfl, rfl, rfl, h3A⟩ := hcut
  clear p0 p1 p2 p3 p4 hp a0 a1 a2 a3 a4 a5 a6 ha b0 b1 b2 b3 b4 b5 b6 hb r0 r1 hr; clear hp1 hp2
  have HFc := Hold.mk (HF.out.later h3A.out.m)
  obtain ⟨p0, p1, p2, p3, p4⟩ := PlayAt.of HFc.out.now.1.1.1.2; have hp := at_ltS HFc.out.now.1.1.1.2; obtain ⟨a0, a1, a2, a3, a4, a5, a6⟩ := EdgeAt.of HFc.out.now.1.1.2; have ha := at_ltS HFc.out.now.1.1.2; obtain ⟨b0, b1, b2, b3, b4, b5, b6⟩ := EdgeAt.of HFc.out.now.1.2; have hb := at_ltS HFc.out.now.1.2; have r0 := cellsAt HFc.out.now.2 0; have r1 := cellsAt HFc.out.now.2 1; have hr := at_ltS HFc.out.now.2; 
  have fx := frozen_at h3A.out.hx 1
  have fy := frozen_at h3A.out.hy 2
  have lx := at_ltS h3A.out.hx
  have ly := at_ltS h3A.out.hy
  have xs1 := cellsAt h3A.out.hx 1
  have ys2 := cellsAt h3A.out.hy 2
  have nxy := h3A.out.xy
  have nyx := h3A.out.xy.symm
  have x0n : w.heap.size ≠ x := by have := h3A.out.x0; have := at_ltS HF.out.now.1.1.1.2; omega
  have y0n : w.heap.size ≠ y := by have := h3A.out.y0; have := at_ltS HF.out.now.1.1.1.2; omega
  go_upto_region 12 with fail
  go_cut [] from 129 to 142 (fun wy => Hold (Three { p with slack := S } { p with loose := L } p w24 wy x y z))
  case first =>
    go_region
    all_goals go_wp2_with fail
    all_goals go_meet
    all_goals exact ⟨h3A.out.both (by have := HS.out; omega) (by have := HL.out; omega)⟩
  case rest =>
  have h3B := hcut
  clear hcut h3A HFc fx fy lx ly xs1 ys2 nxy nyx x0n y0n
  clear p0 p1 p2 p3 p4 hp a0 a1 a2 a3 a4 a5 a6 ha b0 b1 b2 b3 b4 b5 b6 hb r0 r1 hr; 
  have HFd := Hold.mk (HF.out.later h3B.out.m)
  obtain ⟨p0, p1, p2, p3, p4⟩ := PlayAt.of HFd.out.now.1.1.1.2; have hp := at_ltS HFd.out.now.1.1.1.2; obtain ⟨a0, a1, a2, a3, a4, a5, a6⟩ := EdgeAt.of HFd.out.now.1.1.2; have ha := at_ltS HFd.out.now.1.1.2; obtain ⟨b0, b1, b2, b3, b4, b5, b6⟩ := EdgeAt.of HFd.out.now.1.2; have hb := at_ltS HFd.out.now.1.2; have r0 := cellsAt HFd.out.now.2 0; have r1 := cellsAt HFd.out.now.2 1; have hr := at_ltS HFd.out.now.2; 
  have fz := frozen_at h3B.out.hz 4
  have lz := at_ltS h3B.out.hz
  have zs4 := cellsAt h3B.out.hz 4
  have z0n : w.heap.size ≠ z := by have := h3B.out.z0; have := at_ltS HF.out.now.1.1.1.2; omega
  go_upto_region 13 with fail
  go_cut [] from 143 to 155 (fun wy => Hold (Three { p with slack := S } { p with loose := L } { p with damp := (p.damp.1, D) } w24 wy x y z))
  case first =>
    all_goals go_wp2_with fail
    all_goals go_meet
    all_goals exact ⟨h3B.out.third (by have := HD.out; omega)⟩
  case rest =>
  have h3C := hcut
  clear hcut h3B HFd fz lz zs4 z0n
  clear p0 p1 p2 p3 p4 hp a0 a1 a2 a3 a4 a5 a6 ha b0 b1 b2 b3 b4 b5 b6 hb r0 r1 hr; 
  have lx := at_ltS h3C.out.hx
  have ly := at_ltS h3C.out.hy
  have lz := at_ltS h3C.out.hz
  obtain ⟨x0, x1, x2, x3, x4⟩ := PlayAt.of h3C.out.hx
  obtain ⟨y0, y1, y2, y3, y4⟩ := PlayAt.of h3C.out.hy
  obtain ⟨z0, z1, z2, z3, z4⟩ := PlayAt.of h3C.out.hz
  go_wp2_with fail
  have HK := Hold.mk (loop_at HF.out h3C.out)
  clear x0 x1 x2 x3 x4 y0 y1 y2 y3 y4 z0 z1 z2 z3 z4 lx ly lz
  go_loopw [161] (fun i wr => ∃ k : Int, 0 ≤ k ∧ k ≤ 3 ∧ i = .int .i64 k ∧ Hold (Kept wr (LoopAt p a b r w z wc.heap.size { p with slack := S } { p with loose := L } { p with damp := (p.damp.1, D) }))) (fun i _ => 3 - (intOf i).toNat)
  case atStart => exact ⟨0, by omega, by omega, rfl, HK⟩
  case round =>
    clear HK
    obtain ⟨k, hk0, hk, rfl, HK⟩ := hrel
    obtain ⟨p0, p1, p2, p3, p4⟩ := PlayAt.of HK.out.now.1.1.1.1.1.2; have hp := at_ltS HK.out.now.1.1.1.1.1.2; obtain ⟨a0, a1, a2, a3, a4, a5, a6⟩ := EdgeAt.of HK.out.now.1.1.1.1.2; have ha := at_ltS HK.out.now.1.1.1.1.2; obtain ⟨b0, b1, b2, b3, b4, b5, b6⟩ := EdgeAt.of HK.out.now.1.1.1.2; have hb := at_ltS HK.out.now.1.1.1.2; have r0 := cellsAt HK.out.now.1.1.2 0; have r1 := cellsAt HK.out.now.1.1.2 1; have hr := at_ltS HK.out.now.1.1.2; 
    have hB := at_ltS HK.out.now.2
    rcases (by omega : k = 0 ∨ k = 1 ∨ k = 2 ∨ k = 3) with rfl | rfl | rfl | rfl
    · have c0 := cellsAt HK.out.now.2 0; have c1 := cellsAt HK.out.now.2 1; have c2 := cellsAt HK.out.now.2 2; have c3 := cellsAt HK.out.now.2 3; have c4 := cellsAt HK.out.now.2 4
      rcases HN.out with rfl | ⟨rfl, n1, n2⟩ | ⟨rfl, rfl, rfl, rfl⟩
      all_goals (go_wp2_with (go_at_call 15; refine (Q1.out _).mono ?_; rintro e w7 ⟨rfl, hM⟩; clear p0 p1 p2 p3 p4 hp a0 a1 a2 a3 a4 a5 a6 ha b0 b1 b2 b3 b4 b5 b6 hb r0 r1 hr; clear c0 c1 c2 c3 c4 hB; replace HK := Hold.mk (HK.out.later (((Mod.refl noB wr).alloc _).trans hM)); clear hM); go_roundw; (case rel => exact ⟨1, by omega, by omega, rfl, HK⟩); (case measure => simp [intOf]))
    · have c0 := cellsAt HK.out.now.2 5; have c1 := cellsAt HK.out.now.2 6; have c2 := cellsAt HK.out.now.2 7; have c3 := cellsAt HK.out.now.2 8; have c4 := cellsAt HK.out.now.2 9
      rcases HN.out with rfl | ⟨rfl, n1, n2⟩ | ⟨rfl, rfl, rfl, rfl⟩
      all_goals (go_wp2_with (go_at_call 15; refine (Q2.out _).mono ?_; rintro e w7 ⟨rfl, hM⟩; clear p0 p1 p2 p3 p4 hp a0 a1 a2 a3 a4 a5 a6 ha b0 b1 b2 b3 b4 b5 b6 hb r0 r1 hr; clear c0 c1 c2 c3 c4 hB; replace HK := Hold.mk (HK.out.later (((Mod.refl noB wr).alloc _).trans hM)); clear hM); go_roundw; (case rel => exact ⟨2, by omega, by omega, rfl, HK⟩); (case measure => simp [intOf]))
    · have c0 := cellsAt HK.out.now.2 10; have c1 := cellsAt HK.out.now.2 11; have c2 := cellsAt HK.out.now.2 12; have c3 := cellsAt HK.out.now.2 13; have c4 := cellsAt HK.out.now.2 14
      rcases HN.out with rfl | ⟨rfl, n1, n2⟩ | ⟨rfl, rfl, rfl, rfl⟩
      · (go_wp2_with (go_at_call 15; refine (Q3.out _).mono ?_; rintro e w7 ⟨rfl, hM⟩; clear p0 p1 p2 p3 p4 hp a0 a1 a2 a3 a4 a5 a6 ha b0 b1 b2 b3 b4 b5 b6 hb r0 r1 hr; clear c0 c1 c2 c3 c4 hB; replace HK := Hold.mk (HK.out.later (((Mod.refl noB wr).alloc _).trans hM)); clear hM); go_roundw; (case rel => exact ⟨3, by omega, by omega, rfl, HK⟩); (case measure => simp [intOf]))
      · by_cases hr3 : R3 = 0
        · subst hr3
          (go_wp2_with (go_at_call 15; refine (Q3.out _).mono ?_; rintro e w7 ⟨rfl, hM⟩; clear p0 p1 p2 p3 p4 hp a0 a1 a2 a3 a4 a5 a6 ha b0 b1 b2 b3 b4 b5 b6 hb r0 r1 hr; clear c0 c1 c2 c3 c4 hB; replace HK := Hold.mk (HK.out.later (((Mod.refl noB wr).alloc _).trans hM)); have hh := hM.at (World.alloc_heap_new wr _) id; have hh2 : w7.heap[wr.heap.size]? = some (.cells (plC { p with damp := (p.damp.1, D) }) 25) := hh; obtain ⟨t0, t1, t2, t3, t4⟩ := PlayAt.of hh2; have ht := at_ltS hh; clear hh hh2; obtain ⟨z0, z1, z2, z3, z4⟩ := PlayAt.of HK.out.now.1.2; have hz := at_ltS HK.out.now.1.2; clear hM); go_roundw; (case rel => exact ⟨3, by omega, by omega, rfl, HK⟩); (case measure => simp [intOf]))
        · (go_wp2_with (go_at_call 15; refine (Q3.out _).mono ?_; rintro e w7 ⟨rfl, hM⟩; clear p0 p1 p2 p3 p4 hp a0 a1 a2 a3 a4 a5 a6 ha b0 b1 b2 b3 b4 b5 b6 hb r0 r1 hr; clear c0 c1 c2 c3 c4 hB; replace HK := Hold.mk (HK.out.later (((Mod.refl noB wr).alloc _).trans hM)); clear hM); go_roundw; (case rel => exact ⟨3, by omega, by omega, rfl, HK⟩); (case measure => simp [intOf]))
      · (go_wp2_with (go_at_call 15; refine (Q3.out _).mono ?_; rintro e w7 ⟨rfl, hM⟩; clear p0 p1 p2 p3 p4 hp a0 a1 a2 a3 a4 a5 a6 ha b0 b1 b2 b3 b4 b5 b6 hb r0 r1 hr; clear c0 c1 c2 c3 c4 hB; replace HK := Hold.mk (HK.out.later (((Mod.refl noB wr).alloc _).trans hM)); clear hM); go_roundw; (case rel => exact ⟨3, by omega, by omega, rfl, HK⟩); (case measure => simp [intOf]))
    · clear hB
      have h1 := Hold.mk (one_new a wr)
      have HV := Hold.mk True.intro
      have hfz := frozen_at h1.out.hb 2
      have hc1 := cellsAt h1.out.hb 2
      have hlt := at_ltS h1.out.hb
      go_upto_region 22 with fail
      go_cut [] from 198 to 210 (fun wy => ∃ v, (a.k ≠ 0 → v = max a.a.1 (a.a.2 - m7)) ∧ Hold (One { a with a := (a.a.1, v) } wr wy wr.heap.size))
      case first =>
        by_cases hk : a.k = 0
        · replace hk := Hold.mk hk
          go_wp2_with fail
          all_goals go_meet
          all_goals refine ⟨_, fun h => absurd hk.out h, ⟨one_a a _ wr⟩⟩
        · obtain ⟨⟨q1, q2, q3⟩, _, _⟩ := HB.out hk
          clear hk
          go_wp2_with fail
          all_goals go_meet
          all_goals refine ⟨_, fun _ => ?_, ⟨one_a a _ wr⟩⟩
          all_goals omega
      case rest =>
      obtain ⟨v1, hv1, h2⟩ := hcut
      clear p0 p1 p2 p3 p4 hp a0 a1 a2 a3 a4 a5 a6 ha b0 b1 b2 b3 b4 b5 b6 hb r0 r1 hr; clear hfz hc1 hlt
      replace HV := Hold.mk (And.intro HV.out hv1)
      clear hv1
      have HG := Hold.mk (LK.kept (HK.out.now.1.1.later h2.out.m))
      obtain ⟨p0, p1, p2, p3, p4⟩ := PlayAt.of HG.out.now.1.1.1.2; have hp := at_ltS HG.out.now.1.1.1.2; obtain ⟨a0, a1, a2, a3, a4, a5, a6⟩ := EdgeAt.of HG.out.now.1.1.2; have ha := at_ltS HG.out.now.1.1.2; obtain ⟨b0, b1, b2, b3, b4, b5, b6⟩ := EdgeAt.of HG.out.now.1.2; have hb := at_ltS HG.out.now.1.2; have r0 := cellsAt HG.out.now.2 0; have r1 := cellsAt HG.out.now.2 1; have hr := at_ltS HG.out.now.2; 
      have hfz := frozen_at h2.out.hb 3
      have hc1 := cellsAt h2.out.hb 3
      have hlt := at_ltS h2.out.hb
      go_upto_region 23 with fail
      go_cut [] from 211 to 223 (fun wy => ∃ v, (a.k ≠ 0 → v = min a.w.2 (a.w.1 + m5)) ∧ Hold (One { a with a := (a.a.1, v1), w := (v, a.w.2) } wr wy wr.heap.size))
      case first =>
        by_cases hk : a.k = 0
        · replace hk := Hold.mk hk
          go_wp2_with fail
          all_goals go_meet
          all_goals refine ⟨_, fun h => absurd hk.out h, ⟨h2.out.set2 _⟩⟩
        · obtain ⟨_, ⟨q1, q2, q3⟩, _⟩ := HB.out hk
          clear hk
          go_wp2_with fail
          all_goals go_meet
          all_goals refine ⟨_, fun _ => ?_, ⟨h2.out.set2 _⟩⟩
          all_goals omega
      case rest =>
      obtain ⟨v2, hv2, h3⟩ := hcut
      clear p0 p1 p2 p3 p4 hp a0 a1 a2 a3 a4 a5 a6 ha b0 b1 b2 b3 b4 b5 b6 hb r0 r1 hr; clear hfz hc1 hlt
      replace HV := Hold.mk (And.intro HV.out hv2)
      clear hv2
      clear HG
      have HG := Hold.mk (LK.kept (HK.out.now.1.1.later h3.out.m))
      obtain ⟨p0, p1, p2, p3, p4⟩ := PlayAt.of HG.out.now.1.1.1.2; have hp := at_ltS HG.out.now.1.1.1.2; obtain ⟨a0, a1, a2, a3, a4, a5, a6⟩ := EdgeAt.of HG.out.now.1.1.2; have ha := at_ltS HG.out.now.1.1.2; obtain ⟨b0, b1, b2, b3, b4, b5, b6⟩ := EdgeAt.of HG.out.now.1.2; have hb := at_ltS HG.out.now.1.2; have r0 := cellsAt HG.out.now.2 0; have r1 := cellsAt HG.out.now.2 1; have hr := at_ltS HG.out.now.2; 
      have hfz := frozen_at h3.out.hb 6
      have hc1 := cellsAt h3.out.hb 6
      have hlt := at_ltS h3.out.hb
      go_upto_region 24 with fail
      go_cut [] from 224 to 236 (fun wy => ∃ v, (a.k ≠ 0 → v = max a.d.1 (a.d.2 - m3)) ∧ Hold (One { a with a := (a.a.1, v1), w := (v2, a.w.2), d := (a.d.1, v) } wr wy wr.heap.size))
      case first =>
        by_cases hk : a.k = 0
        · replace hk := Hold.mk hk
          go_wp2_with fail
          all_goals go_meet
          all_goals refine ⟨_, fun h => absurd hk.out h, ⟨h3.out.set3 _⟩⟩
        · obtain ⟨_, _, ⟨q1, q2, q3⟩⟩ := HB.out hk
          clear hk
          go_wp2_with fail
          all_goals go_meet
          all_goals refine ⟨_, fun _ => ?_, ⟨h3.out.set3 _⟩⟩
          all_goals omega
      case rest =>
      obtain ⟨v3, hv3, h4⟩ := hcut
      clear p0 p1 p2 p3 p4 hp a0 a1 a2 a3 a4 a5 a6 ha b0 b1 b2 b3 b4 b5 b6 hb r0 r1 hr; clear hfz hc1 hlt
      replace HV := Hold.mk (And.intro HV.out hv3)
      clear hv3
      clear HG
      have HG := Hold.mk (LK.kept (HK.out.now.1.1.later h4.out.m))
      obtain ⟨p0, p1, p2, p3, p4⟩ := PlayAt.of HG.out.now.1.1.1.2; have hp := at_ltS HG.out.now.1.1.1.2; obtain ⟨a0, a1, a2, a3, a4, a5, a6⟩ := EdgeAt.of HG.out.now.1.1.2; have ha := at_ltS HG.out.now.1.1.2; obtain ⟨b0, b1, b2, b3, b4, b5, b6⟩ := EdgeAt.of HG.out.now.1.2; have hb := at_ltS HG.out.now.1.2; have r0 := cellsAt HG.out.now.2 0; have r1 := cellsAt HG.out.now.2 1; have hr := at_ltS HG.out.now.2; 
      obtain ⟨t0, t1, t2, t3, t4, t5, t6⟩ := EdgeAt.of h4.out.hb
      have hlt := at_ltS h4.out.hb
      have HT2 := Hold.mk (HT.out v1 v2 v3 fun h => ⟨HV.out.1.1.2 h, HV.out.1.2 h, HV.out.2 h⟩)
      clear HV HT
      rcases HN4.out with rfl | rfl
      all_goals
        go_wp2_with (first
          | (go_at_call 15; refine (HT2.out _).mono ?_; rintro e w7 ⟨rfl, hM⟩; clear t0 t1 t2 t3 t4 t5 t6 hlt; clear p0 p1 p2 p3 p4 hp a0 a1 a2 a3 a4 a5 a6 ha b0 b1 b2 b3 b4 b5 b6 hb r0 r1 hr; replace HG := Hold.mk (HG.out.later hM); clear hM)
          | (go_at_call 21; refine (alive_any _).mono ?_; rintro e w9 ⟨rfl, hM⟩; replace HG := Hold.mk (HG.out.later hM); clear hM))
        all_goals (go_ret; exact ⟨rfl, HG.out.now.1.1.1.1⟩)
end Go.Proofs.Ytnjbamikfjdofaa

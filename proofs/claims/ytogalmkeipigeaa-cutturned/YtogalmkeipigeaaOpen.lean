/- open: the picture of a good cut, or the error of Check. -/
import Derived.Test.YtogalmkeipigeaaCheck
import Derived.Laws.ResultCell
set_option linter.unusedSimpArgs false
set_option linter.unusedVariables false
namespace Go.Proofs.Ytogalmkeipigeaa
open Go.RowKit

@[reducible] def zeroPic : Value := .agg #[.int .i64 0, .int .i64 0, .int .i64 0, .map none]

theorem results_row_tmp {P : Program} {fn : Func} {p u : Tmp} {ty t : TypeId} (h : fn.results = #[.cell p ty, .tmp u]) (tmps : Array Value) (w : World) (b : Nat) (cs : Array Value) (d : TypeDesc)
    (hp : tmps.getD p undef = .pointer (some ⟨b, 0, none⟩)) (hb : w.heap[b]? = some (.cells cs t)) (hu : P.underlying ty = some d) (hd : (match d with | .struct _ | .array _ _ => true | _ => false) = true) (hi : (P.info? ty).map (·.size) = some cs.size) :
    (results fn tmps).run P w = .ok (.tuple #[.agg cs, tmps.getD u undef]) w := by
  rw [results_cell_tmp h tmps P w, hp]
  simp [asAddr, Result.andThen, run_loadVar_row w b t ty cs (0, 0) d hb hu hd hi]

set_option maxRecDepth 100000 in
set_option maxHeartbeats 2000000 in
theorem open_bad (W H : Int) (ao : Option Addr) (zs : List Int) (cap : Nat) (w : World) (hs : IntsAt w ao zs) (hb : isCutB W H zs = false) :
    Calls Try.prog 46 #[cutV W H ao zs.length cap] w fun e w' => e = .returned (.tuple #[zeroPic, .int .i64 1]) ∧ Mod noB w w' := by
  have HC : Hold (∀ w', IntsAt w' ao zs → Calls Try.prog 41 #[.agg #[.int .i64 W, .int .i64 H, .slice ao zs.length cap]] w' fun e w'' => e = .returned (.bool false) ∧ Mod noB w' w'') :=
    ⟨fun w' h => by rw [← hb]; exact isCut_any W H ao zs cap w' h⟩
  have HI := Hold.mk ((hs.alloc (.cells #[.int .i64 W, .int .i64 H, .slice ao zs.length cap] 24)).alloc (.cells #[.int .i64 0, .int .i64 0, .int .i64 0, .map none] 71))
  clear hs hb
  go_enter Try.func46, Try.ntmps46
  go_wp2_with (go_at_call 41; refine (HC.out _ HI.out).mono ?_; rintro e w1 ⟨rfl, hM1⟩; have hrr : w1.heap[w.heap.size + 1]? = some (.cells #[.int .i64 0, .int .i64 0, .int .i64 0, .map none] 71) := (by have := hM1.at (World.alloc_heap_new (w.alloc (.cells #[.int .i64 W, .int .i64 H, .slice ao zs.length cap] 24)) _) id; simpa using this); have r0 : w1.cell? ⟨w.heap.size + 1, 0, none⟩ = some (.int .i64 0) := (by simp [World.cell?, hrr]); have r1 : w1.cell? ⟨w.heap.size + 1, 1, none⟩ = some (.int .i64 0) := (by simp [World.cell?, hrr]); have r2 : w1.cell? ⟨w.heap.size + 1, 2, none⟩ = some (.int .i64 0) := (by simp [World.cell?, hrr]); have r3 : w1.cell? ⟨w.heap.size + 1, 3, none⟩ = some (.map none) := (by simp [World.cell?, hrr]); have q0 := cells_frozen hrr 0; have q1 := cells_frozen hrr 1; have q2 := cells_frozen hrr 2; have q3 := cells_frozen hrr 3; have HM1 := Hold.mk (And.intro hM1 hrr); clear hM1 hrr)
  obtain ⟨hM1, hrr⟩ := HM1.out
  have t3 := setCell_at (setCell_at (setCell_at (setCell_at hrr 0 (.int .i64 0)) 1 (.int .i64 0)) 2 (.int .i64 0)) 3 (.map none)
  refine bodyPost_ret (v := .tuple #[zeroPic, .int .i64 1]) (results_row_tmp (fn := Try.f46) rfl _ _ (w.heap.size + 1) _ _ rfl t3 Try.underlying71 rfl (by kernel_rfl)) rfl ?_
  refine ⟨rfl, (((((((Mod.refl noB w).alloc _).alloc _).trans hM1).setCell (p := ⟨w.heap.size + 1, 0, none⟩) ?_ _).setCell (p := ⟨w.heap.size + 1, 1, none⟩) ?_ _).setCell (p := ⟨w.heap.size + 1, 2, none⟩) ?_ _).setCell (p := ⟨w.heap.size + 1, 3, none⟩) ?_ _⟩ <;> exact fun h => absurd h (by simp)

set_option maxRecDepth 100000 in
set_option maxHeartbeats 2000000 in
theorem open_good {W H : Nat} {zs : List Int} (C : CutN W H zs) (ao : Option Addr) (cap : Nat) (w : World) (hs : IntsAt w ao zs) (hb : isCutB W H zs = true) :
    Calls Try.prog 46 #[cutV W H ao zs.length cap] w fun e w' => ∃ f : Nat → Int, PartsOf (laidG W zs zs.length) W H f ∧ Mod noB w w' ∧
      (((countR f (many zs)).2 ≠ 0 ∧ e = .returned (.tuple #[zeroPic, .int .i64 (countR f (many zs)).2])) ∨
       ((countR f (many zs)).2 = 0 ∧ ∃ mb, e = .returned (.tuple #[picV W H (many zs) mb, .int .i64 0]) ∧ MapIs Try.prog 106 cellV w' mb (laidG W zs zs.length))) := by
  have HC : Hold (∀ w', IntsAt w' ao zs → Calls Try.prog 41 #[.agg #[.int .i64 W, .int .i64 H, .slice ao zs.length cap]] w' fun e w'' => e = .returned (.bool true) ∧ Mod noB w' w'') :=
    ⟨fun w' h => by rw [← hb]; exact isCut_any W H ao zs cap w' h⟩
  have HI := Hold.mk ((hs.alloc (.cells #[.int .i64 W, .int .i64 H, .slice ao zs.length cap] 24)).alloc (.cells #[.int .i64 0, .int .i64 0, .int .i64 0, .map none] 71))
  have HL := Hold.mk (fun (w' : World) (h : IntsAt w' ao zs) => layOut_n C ao cap w' h)
  have HP := Hold.mk C
  have HB : Hold (∀ w1 : World, Mod noB ((w.alloc (.cells #[.int .i64 W, .int .i64 H, .slice ao zs.length cap] 24)).alloc (.cells #[.int .i64 0, .int .i64 0, .int .i64 0, .map none] 71)) w1 → w1.cell? ⟨w.heap.size, 0, none⟩ = some (.int .i64 W) ∧ w1.cell? ⟨w.heap.size, 1, none⟩ = some (.int .i64 H) ∧ w1.cell? ⟨w.heap.size, 2, none⟩ = some (.slice ao zs.length cap) ∧ w1.heap[w.heap.size + 1]? = some (.cells #[.int .i64 0, .int .i64 0, .int .i64 0, .map none] 71)) :=
    ⟨fun w1 h => by
      have e1 := h.at ((Below.heap_alloc _ (.cells #[.int .i64 0, .int .i64 0, .int .i64 0, .map none] 71) _ (by simp)).trans (World.alloc_heap_new w (.cells #[.int .i64 W, .int .i64 H, .slice ao zs.length cap] 24))) id
      have e2 := h.at (World.alloc_heap_new (w.alloc (.cells #[.int .i64 W, .int .i64 H, .slice ao zs.length cap] 24)) (.cells #[.int .i64 0, .int .i64 0, .int .i64 0, .map none] 71)) id
      refine ⟨?_, ?_, ?_, by simpa using e2⟩ <;> simp [World.cell?, e1]⟩
  have HM0 := Hold.mk (((Mod.refl noB w).alloc (.cells #[.int .i64 W, .int .i64 H, .slice ao zs.length cap] 24)).alloc (.cells #[.int .i64 0, .int .i64 0, .int .i64 0, .map none] 71))
  clear hs hb C
  go_enter Try.func46, Try.ntmps46
  go_wp2_with (first
    | (go_at_call 41; refine (HC.out _ HI.out).mono ?_; rintro e w1 ⟨rfl, hM1⟩; obtain ⟨b0, b1, b2, _⟩ := HB.out w1 hM1; have HM1 := Hold.mk hM1; clear hM1)
    | (go_at_call 42; refine (HL.out _ (HI.out.mono (HM1.out.below))).mono ?_; rintro e w2 ⟨mb, rfl, hM2, hmp⟩; have HM2 := Hold.mk (And.intro hM2 hmp); clear hM2 hmp)
    | (go_at_call 43; refine (count_any _ W H (many zs) HP.out.grid HP.out.many_le.1 HP.out.many_le.2 mb _ (HM2.out.2.alloc (.cells #[.int .i64 W, .int .i64 H, .int .i64 (many zs), .map (some mb)] 71))).mono ?_; rintro e w3 ⟨f, hf, rfl, hM3⟩; have hM4 := (HM1.out.trans HM2.out.1).trans (((Mod.refl noB w2).alloc (.cells #[.int .i64 W, .int .i64 H, .int .i64 (many zs), .map (some mb)] 71)).trans hM3); obtain ⟨_, _, _, hrr⟩ := HB.out w3 hM4; have hpp := hM3.at (World.alloc_heap_new w2 (.cells #[.int .i64 W, .int .i64 H, .int .i64 (many zs), .map (some mb)] 71)) id; have r0 : w3.cell? ⟨w.heap.size + 1, 0, none⟩ = some (.int .i64 0) := (by simp [World.cell?, hrr]); have r1 : w3.cell? ⟨w.heap.size + 1, 1, none⟩ = some (.int .i64 0) := (by simp [World.cell?, hrr]); have r2 : w3.cell? ⟨w.heap.size + 1, 2, none⟩ = some (.int .i64 0) := (by simp [World.cell?, hrr]); have r3 : w3.cell? ⟨w.heap.size + 1, 3, none⟩ = some (.map none) := (by simp [World.cell?, hrr]); have q0 := cells_frozen hrr 0; have q1 := cells_frozen hrr 1; have q2 := cells_frozen hrr 2; have q3 := cells_frozen hrr 3; have p0 : w3.cell? ⟨w2.heap.size, 0, none⟩ = some (.int .i64 W) := (by simp [World.cell?, hpp]); have p1 : w3.cell? ⟨w2.heap.size, 1, none⟩ = some (.int .i64 H) := (by simp [World.cell?, hpp]); have p2 : w3.cell? ⟨w2.heap.size, 2, none⟩ = some (.int .i64 (many zs)) := (by simp [World.cell?, hpp]); have p3 : w3.cell? ⟨w2.heap.size, 3, none⟩ = some (.map (some mb)) := (by simp [World.cell?, hpp]); have HM3 := Hold.mk (And.intro hf (And.intro hM3 (And.intro hM4 hrr))); obtain ⟨c1, hc1⟩ : ∃ c, (countR f (many zs)).1 = c := ⟨_, rfl⟩; obtain ⟨c2, hc2⟩ : ∃ c, (countR f (many zs)).2 = c := ⟨_, rfl⟩; have HC1 := Hold.mk hc1; have HC2 := Hold.mk hc2; rw [hc1, hc2]; clear hc1 hc2 hf hM3 hM4 hrr hpp))
  · have hc : (c2 != 0) = true := by assumption
    obtain ⟨hf, hM3, hM4, hrr⟩ := HM3.out
    have t3 := setCell_at (setCell_at (setCell_at (setCell_at hrr 0 (.int .i64 0)) 1 (.int .i64 0)) 2 (.int .i64 0)) 3 (.map none)
    refine bodyPost_ret (v := .tuple #[zeroPic, .int .i64 c2]) (results_row_tmp (fn := Try.f46) rfl _ _ (w.heap.size + 1) _ _ rfl t3 Try.underlying71 rfl (by kernel_rfl)) rfl ?_
    exact ⟨f, hf, (((((Mod.refl noB w).trans HM0.out).trans hM4).setCell (p := ⟨w.heap.size + 1, 0, none⟩) (fun h => absurd h (by simp)) _).setCell (p := ⟨w.heap.size + 1, 1, none⟩) (fun h => absurd h (by simp)) _).setCell (p := ⟨w.heap.size + 1, 2, none⟩) (fun h => absurd h (by simp)) _ |>.setCell (p := ⟨w.heap.size + 1, 3, none⟩) (fun h => absurd h (by simp)) _, .inl ⟨by rw [HC2.out]; simpa using hc, by rw [HC2.out]⟩⟩
  · have hc : (c2 != 0) = false := by assumption
    obtain ⟨hf, hM3, hM4, hrr⟩ := HM3.out
    have t3 := setCell_at (setCell_at (setCell_at (setCell_at hrr 0 (.int .i64 W)) 1 (.int .i64 H)) 2 (.int .i64 (many zs))) 3 (.map (some mb))
    have hMs : Mod (fun b => b = w.heap.size + 1) w3 ((((w3.setCell ⟨w.heap.size + 1, 0, none⟩ (.int .i64 W)).setCell ⟨w.heap.size + 1, 1, none⟩ (.int .i64 H)).setCell ⟨w.heap.size + 1, 2, none⟩ (.int .i64 (many zs))).setCell ⟨w.heap.size + 1, 3, none⟩ (.map (some mb))) :=
      ((((Mod.refl (fun b => b = w.heap.size + 1) w3).setCell (p := ⟨w.heap.size + 1, 0, none⟩) (fun _ => rfl) _).setCell (p := ⟨w.heap.size + 1, 1, none⟩) (fun _ => rfl) _).setCell (p := ⟨w.heap.size + 1, 2, none⟩) (fun _ => rfl) _).setCell (p := ⟨w.heap.size + 1, 3, none⟩) (fun _ => rfl) _
    have hmp := HM2.out.2
    have hge : mb ≠ w.heap.size + 1 := by
      intro e
      have h1 := HM1.out.at (World.alloc_heap_new (w.alloc (.cells #[.int .i64 W, .int .i64 H, .slice ao zs.length cap] 24)) (.cells #[.int .i64 0, .int .i64 0, .int .i64 0, .map none] 71)) id
      have h2 := HM2.out.1.at h1 id
      obtain ⟨es, cl, hh, _⟩ := hmp
      rw [e] at hh
      simp only [World.size_alloc] at h2
      rw [h2] at hh
      cases hh
    have hmp3 := (hmp.alloc (.cells #[.int .i64 W, .int .i64 H, .int .i64 (many zs), .map (some mb)] 71))
    have hmp4 := (hmp3.same (hM3.block mb hmp3.lt id))
    have hmp5 := hmp4.same (hMs.block mb hmp4.lt hge)
    refine bodyPost_ret (v := .tuple #[picV W H (many zs) mb, .int .i64 0]) (results_row_tmp (fn := Try.f46) rfl _ _ (w.heap.size + 1) _ _ rfl t3 Try.underlying71 rfl (by kernel_rfl)) rfl ?_
    exact ⟨f, hf, (((((Mod.refl noB w).trans HM0.out).trans hM4).setCell (p := ⟨w.heap.size + 1, 0, none⟩) (fun h => absurd h (by simp)) _).setCell (p := ⟨w.heap.size + 1, 1, none⟩) (fun h => absurd h (by simp)) _).setCell (p := ⟨w.heap.size + 1, 2, none⟩) (fun h => absurd h (by simp)) _ |>.setCell (p := ⟨w.heap.size + 1, 3, none⟩) (fun h => absurd h (by simp)) _, .inr ⟨by rw [HC2.out]; simpa using hc, mb, rfl, hmp5⟩⟩
end Go.Proofs.Ytogalmkeipigeaa

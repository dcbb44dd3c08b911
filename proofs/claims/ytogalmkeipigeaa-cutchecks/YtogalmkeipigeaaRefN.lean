/- The document's Inside. -/
import Derived.Test.YtogalmkeipigeaaRefI
set_option linter.unusedSimpArgs false
set_option linter.unusedVariables false
namespace Go.Proofs.Ytogalmkeipigeaa
open Go.RowKit

theorem beyond_facts {w w3 : World} {W H : Int} {ao : Option Addr} {zs : List Int} {cap : Nat} (hs : IntsAt w ao zs) (h3 : Mod noB (w.alloc (.cells #[.int .i64 W, .int .i64 H, .slice ao zs.length cap] 24)) w3) (o : Obj) : ∀ w1 : World, Mod (fun j => j = w3.heap.size) (w3.alloc o) w1 →
    w1.cell? ⟨w.heap.size, 0, none⟩ = some (.int .i64 W) ∧ w1.cell? ⟨w.heap.size, 1, none⟩ = some (.int .i64 H) ∧ w1.cell? ⟨w.heap.size, 2, none⟩ = some (.slice ao zs.length cap) ∧ IntsAt w1 ao zs := fun w1 h => by
  have e3 := h3.at (World.alloc_heap_new w (.cells #[.int .i64 W, .int .i64 H, .slice ao zs.length cap] 24)) id
  have hz := h3.size
  rw [World.size_alloc] at hz
  have hI3 : IntsAt w3 ao zs := (hs.alloc _).mod h3 (fun _ _ _ _ h => h)
  have e4 := ((Mod.refl noB w3).alloc o).at e3 id
  have e1 := h.at e4 (by omega)
  refine ⟨?_, ?_, ?_, (hI3.alloc o).mod h (fun b off hne e hb => ?_)⟩
  · simp [World.cell?, e1]
  · simp [World.cell?, e1]
  · simp [World.cell?, e1]
  · obtain ⟨b', off', h1, h2, _⟩ := hI3.lies hne
    rw [e] at h1
    simp only [Option.some.injEq, Addr.mk.injEq] at h1
    have := h1.1
    omega
theorem one_cell (w : World) (n : Int) : ∀ (j : Nat) (u : Value), [Value.int .i64 n][j]? = some u → (w.alloc (.cells #[.int .i64 n] 3)).cell? (Addr.add ⟨w.heap.size, 0, none⟩ j) = some u := fun j u hj => by
  have hnw := World.alloc_heap_new w (.cells #[.int .i64 n] 3)
  have ea : Addr.add ⟨w.heap.size, 0, none⟩ j = ⟨w.heap.size, j, none⟩ := by simp [Addr.add]; omega
  rw [ea]
  simp only [World.cell?, hnw]
  rcases j with _ | j
  · simpa using hj
  · simp at hj
theorem boolCells_keep {W : World} {b n : Nat} {R : Nat → Bool} {T : TypeId} (h : W.heap[b]? = some (.cells (boolCells n R) T)) {k : Nat} (hk : R k = false) :
    (W.setCell ⟨b, k, none⟩ (.bool false)).heap[b]? = some (.cells (boolCells n R) T) := by
  unfold boolCells at *
  rw [fcells_store h]
  congr 2
  congr 1
  funext j
  by_cases e : j = k
  · subst e; simp [hk]
  · simp [e]

set_option maxRecDepth 100000 in
set_option maxHeartbeats 4000000 in
theorem refInside_yes {W H : Nat} {zs : List Int} (C : CutN W H zs) (ao : Option Addr) (cap : Nat) (p : Int) (w : World) (hs : IntsAt w ao zs) (h : (checkR W H zs).2 = 0) (hp1 : 0 ≤ p) (hp2 : p < many zs) :
    Calls Try.prog 19 #[cutV W H ao zs.length cap, .int .i64 p] w fun e w' => ∃ v R, e = .returned (.tuple #[v, .int .i64 0]) ∧ (∀ j, j < many zs → (R j = true ↔ OutsP (laidG W zs zs.length) W H p (many zs) j)) ∧
      w'.ownsRow w.heap.size 3 1 v (insideTo R p (many zs)).length ((insideTo R p (many zs)).map (Value.int .i64)) ∧ Mod noB w w' := by
  have hmk := fun w => run_make_row' (P := Try.prog) 55 4 (.bool false) 1 Try.underlying55 info4 rfl .i64 .i64 (many zs) (by have := C.many_le.2; omega) (by have := C.many_le.2; omega) w
  rw [madeCells_one] at hmk
  have HO := Hold.mk (piece_at C ao cap p _ (hs.alloc (.cells #[.int .i64 W, .int .i64 H, .slice ao zs.length cap] 24)) h true (by simp; omega))
  have HB := Hold.mk (box_facts (W := W) (H := H) (cap := cap) hs)
  have HBX := Hold.mk (fun w3 => beyond_facts (w3 := w3) (W := W) (H := H) (cap := cap) hs)
  have HM0 := Hold.mk ((Mod.refl noB w).alloc (.cells #[.int .i64 W, .int .i64 H, .slice ao zs.length cap] 24))
  have hN1 := C.many_le.1
  have hN2 := C.many_le.2
  have HE : Hold (∀ a o : Int, ∃ n : Nat, (o ≠ a → n = (facedL (laidG W zs zs.length) W H a).count o) ∧ ∀ w1, IntsAt w1 ao zs → Calls Try.prog 37 #[cutV W H ao zs.length cap, .int .i64 a, .int .i64 o] w1 fun e w' => e = .returned (.int .i64 (n : Nat)) ∧ Mod noB w1 w') :=
    ⟨fun a o => ⟨_, fun ho => edgesTo_faced _ W H a o ho, fun w1 h1 => refEdges_any C ao cap a o w1 h1⟩⟩
  have HG : Hold (∀ w1 : World, IntsAt w1 ao zs → Calls Try.prog 44 #[cutV W H ao zs.length cap] w1 fun e w' => e = .returned (.int .i64 (greatest zs)) ∧ Mod noB w1 w') := ⟨fun w1 h1 => refGreatest_any W H ao zs cap w1 h1⟩
  have HGr := Hold.mk C.grid
  have HFm := Hold.mk (faced_many C)
  have hM := many_eq zs
  have hM0 := greatest_nonneg zs
  generalize laidG W zs zs.length = g at *
  generalize greatest zs = M at *
  generalize many zs = N at *
  obtain ⟨i0, hi, hz0, hz1, hz2⟩ := info_parts info3
  clear hs h C
  have hNi : (N : Int) ≤ 40 := by omega
  go_enter Try.func19, Try.ntmps19
  go_wp2_with (first
    | (go_at_call 50; refine HO.out.mono ?_; rintro e w2 ⟨rfl, hM2⟩; obtain ⟨c0, c1, c2, hI2⟩ := HB.out w2 hM2; have HG2 := Hold.mk (HG.out w2 hI2); have HM2 := Hold.mk hM2; clear hM2 hI2)
    | (go_at_call 44; refine HG2.out.mono ?_; rintro e w3 ⟨rfl, hM3⟩; have HM3 := Hold.mk (HM2.out.trans hM3); clear hM3 c0 c1 c2))
  clear hmk HG2
  have hrb0 : (w3.alloc (.cells (fcells N fun _ => .bool false) 4)).heap[w3.heap.size]? = some (.cells (boolCells N fun _ => false) 4) := World.alloc_heap_new w3 _
  have HX := Hold.mk (HBX.out w3 HM3.out (.cells (fcells N fun _ => .bool false) 4))
  have HM1 : Hold (Mod noB w (w3.alloc (.cells (fcells N fun _ => .bool false) 4))) := ⟨(HM0.out.trans HM3.out).alloc _⟩
  have hrbw : w.heap.size < w3.heap.size := by have := HM3.out.size; simp at this; omega
  have hrbz : w3.heap.size < (w3.alloc (.cells (fcells N fun _ => .bool false) 4)).heap.size := by simp
  generalize w3.alloc (.cells (fcells N fun _ => .bool false) 4) = W1 at *
  generalize w3.heap.size = rb at *
  have HW1 := Hold.mk hrb0
  clear hrb0
  go_loopw [9] (fun more wr => ∃ (b : Bool) (R : Nat → Bool), more = .bool b ∧ InInv g W H p N R N b ∧ wr.heap[rb]? = some (.cells (boolCells N R) 4) ∧ Mod (fun j => j = rb) W1 wr)
    (fun more wr => 2 * unset N wr rb + (match more with | .bool true => 1 | _ => 0))
  case atStart => exact ⟨true, _, rfl, InInv.begin, HW1.out, Mod.refl _ _⟩
  case round =>
    obtain ⟨b, R0, rfl, hinv, hrr, hmr⟩ := hrel
    have HR := Hold.mk (And.intro hinv (And.intro hrr hmr))
    cases b with
    | false =>
      clear hinv hrr hmr
      go_wp2
      generalize wr = Wx at *
      go_loopw [13, 14] (fun v i w9 => ∃ k : Nat, k ≤ N ∧ i = .int .i64 k ∧ w9.ownsRow Wx.heap.size 3 1 v (insideTo R0 p k).length ((insideTo R0 p k).map (Value.int .i64)) ∧ Mod noB Wx w9) (fun _ i _ => N - (intOf i).toNat)
      case atStart => exact ⟨0, Nat.zero_le _, rfl, World.ownsRow_nil _ _ _ _, Mod.refl _ _⟩
      case round =>
        obtain ⟨k, hk, rfl, hown, hmr⟩ := hrel
        have HMR := Hold.mk hmr
        have hcl : (insideTo R0 p k).length ≤ 40 := by have := insideTo_len R0 p k; omega
        have HOW := Hold.mk hown
        clear hown
        by_cases c1 : k < N
        · have c0 : wr.cell? ⟨rb, k, none⟩ = some (.bool (R0 k)) := fcells_cell (f := fun k => Value.bool (R0 k)) (hmr.at HR.out.2.1 id) c1
          clear hmr
          by_cases c2 : (k : Int) = p
          · have hb : ((k : Int) != p) = false := by simp [c2]
            have HC2 := Hold.mk c2
            clear c2 c0
            go_wp2
            go_roundw
            case rel => exact ⟨k + 1, by omega, by go_num, by rw [insideTo_no (.inl HC2.out)]; exact HOW.out, HMR.out⟩
            case measure => simp [intOf]; omega
          · have hb : ((k : Int) != p) = true := by simp [c2]
            have HC2 := Hold.mk c2
            clear c2
            cases hRk : R0 k with
            | true =>
              rw [hRk] at c0
              have HRk := Hold.mk hRk
              clear hRk
              go_wp2
              go_roundw
              case rel => exact ⟨k + 1, by omega, by go_num, by rw [insideTo_no (.inr HRk.out)]; exact HOW.out, HMR.out⟩
              case measure => simp [intOf]; omega
            | false =>
              rw [hRk] at c0
              have HRk := Hold.mk hRk
              clear hRk
              go_wp2_with (at_builtin; refine wpList_append_own _ rfl (.tmp 87) (.tmp 89) 22 rfl Wx.heap.size 3 i0 (.int .i64 0) 1 8 Try.underlying22 hi hz0 hz1 hz2 rfl (by decide) _ _ _ rfl (HOW.out.alloc _) ⟨wr.heap.size, 0, none⟩ 1 1 [.int .i64 k] rfl rfl (one_cell wr k) (by simp [Value.oneCell']) (by unfold maxLen; omega) (by omega) (by have := HMR.out.size; simp; omega) ?_; intro v' wa hown' hgr _; have HW := Hold.mk (And.intro hown' hgr); clear hown' hgr)
              go_roundw
              case rel =>
                obtain ⟨hown', hgr⟩ := HW.out
                refine ⟨k + 1, by omega, by go_num, ?_, ?_⟩
                · rw [insideTo_yes HC2.out HRk.out, List.map_append, List.length_append]; exact hown'
                · exact HMR.out.then (((Mod.refl (fun b => Wx.heap.size ≤ b) wr).alloc _).trans (Mod.of_grownBy hgr (fun r hr _ => own_ge HOW.out hr))) (fun i h1 h2 => absurd h1 (Nat.not_lt.2 h2))
              case measure => simp [intOf]; omega
        · obtain rfl : k = N := by omega
          go_wp2
          go_ret2
          have hMw : Mod noB w Wx := HM1.out.then HR.out.2.2 (fun i h1 h2 => by omega)
          exact ⟨_, R0, rfl, HR.out.1.is HGr.out HFm.out, own_mono HOW.out hMw.size, hMw.trans HMR.out⟩
    | true =>
      clear hinv hrr hmr
      go_wp2
      go_loopw [9, 10] (fun more i wr => ∃ (kk : Nat) (b : Bool) (R : Nat → Bool), more = .bool b ∧ i = .int .i64 kk ∧ kk ≤ N ∧ InInv g W H p N R kk b ∧ (b = true → cntN N R0 < cntN N R) ∧ (b = false → R = R0) ∧
          wr.heap[rb]? = some (.cells (boolCells N R) 4) ∧ Mod (fun j => j = rb) W1 wr)
        (fun _ i _ => N - (intOf i).toNat)
      case atStart => exact ⟨0, false, R0, rfl, rfl, Nat.zero_le _, HR.out.1.anew, by simp, by simp, HR.out.2.1, HR.out.2.2⟩
      case round =>
        obtain ⟨kk, b, R, rfl, rfl, hkk, hinv, hb1, hb2, hrr, hmr⟩ := hrel
        have HR2 := Hold.mk (And.intro hinv (And.intro hb1 (And.intro hb2 (And.intro hrr hmr))))
        obtain ⟨c0, c1, c2, hIr⟩ := HX.out wr hmr
        clear hinv hb1 hb2
        by_cases hlt : kk < N
        · have hrc : wr.cell? ⟨rb, kk, none⟩ = some (.bool (R kk)) := fcells_cell (f := fun k => Value.bool (R k)) hrr hlt
          by_cases hkp : (kk : Int) = p
          · have hb : ((kk : Int) == p) = true := by simp [hkp]
            have HKP := Hold.mk hkp
            clear hkp hIr hrr hmr c0 c1 c2 hrc
            go_wp2
            go_roundw
            case rel =>
              obtain ⟨hinv, hb1, hb2, hrr, hmr⟩ := HR2.out
              exact ⟨kk + 1, b, R, rfl, by go_num, by omega, hinv.skip (.inl HKP.out), hb1, hb2, hrr, hmr⟩
            case measure => simp [intOf]; omega
          · have hb : ((kk : Int) == p) = false := by simp [hkp]
            have HKP := Hold.mk hkp
            clear hkp
            cases hRk : R kk with
            | true =>
              rw [hRk] at hrc
              have HRk := Hold.mk hRk
              clear hRk hIr hrr hmr c0 c1 c2
              go_wp2
              go_roundw
              case rel =>
                obtain ⟨hinv, hb1, hb2, hrr, hmr⟩ := HR2.out
                exact ⟨kk + 1, b, R, rfl, by go_num, by omega, hinv.skip (.inr HRk.out), hb1, hb2, hrr, hmr⟩
              case measure => simp [intOf]; omega
            | false =>
              rw [hRk] at hrc
              have HRk := Hold.mk hRk
              obtain ⟨n0, hn0, hC0⟩ := HE.out kk (-1)
              have HN0 : Hold (n0 = (facedL g W H kk).count (-1)) := ⟨hn0 (by omega)⟩
              have HC0 := Hold.mk (hC0 wr hIr)
              clear hRk hIr hrr hmr hn0 hC0
              go_wp2_with (go_at_call 37; refine HC0.out.mono ?_; rintro e w5 ⟨rfl, hM5⟩; have HM5 := Hold.mk hM5; clear hM5 c0 c1 c2 hrc)
              have HMC := Hold.mk (show Mod (fun j => j = rb) W1 w5 from HR2.out.2.2.2.2.trans (HM5.out.wider (fun i _ h => h.elim)))
              have HRb5 := Hold.mk (HM5.out.at HR2.out.2.2.2.1 id)
              go_loopw [11, 12] (fun is m w9 => ∃ mm : Nat, m = .int .i64 mm ∧ mm ≤ N ∧ is = .bool (isTo (facedL g W H kk) R mm) ∧ Mod noB w5 w9) (fun _ m _ => N - (intOf m).toNat)
              case atStart => exact ⟨0, rfl, Nat.zero_le _, by simp [isTo, HN0.out], Mod.refl _ _⟩
              case round =>
                obtain ⟨mm, rfl, hmm, rfl, hm6⟩ := hrel
                have HM6 := Hold.mk hm6
                have hr6 := hm6.at HRb5.out id
                have HR6 := Hold.mk hr6
                clear hm6
                by_cases hlt2 : mm < N
                · have hrm : wr.cell? ⟨rb, mm, none⟩ = some (.bool (R mm)) := fcells_cell (f := fun k => Value.bool (R k)) hr6 hlt2
                  clear hr6
                  cases hI : isTo (facedL g W H kk) R mm with
                  | true =>
                    have HIt := Hold.mk hI
                    clear hI hrm
                    go_wp2
                    go_roundw
                    case rel => exact ⟨mm + 1, by go_num, by omega, by simp [isTo, HIt.out], HM6.out⟩
                    case measure => simp [intOf]; omega
                  | false =>
                    have HIt := Hold.mk hI
                    clear hI
                    cases hRm : R mm with
                    | false =>
                      rw [hRm] at hrm
                      have HRm := Hold.mk hRm
                      clear hRm
                      go_wp2
                      go_roundw
                      case rel => exact ⟨mm + 1, by go_num, by omega, by simp [isTo, HIt.out, HRm.out], HM6.out⟩
                      case measure => simp [intOf]; omega
                    | true =>
                      rw [hRm] at hrm
                      have HRm := Hold.mk hRm
                      obtain ⟨c0, c1, c2, hI6⟩ := HX.out wr (HMC.out.trans (HM6.out.wider (fun i _ h => h.elim)))
                      obtain ⟨n1, hn1, hC1⟩ := HE.out kk mm
                      have HN1 : Hold (n1 = (facedL g W H kk).count (mm : Int)) := ⟨hn1 (fun e => by
                        have e' : mm = kk := by omega
                        subst e'
                        rw [HRk.out] at hRm; cases hRm)⟩
                      have HC1 := Hold.mk (hC1 wr hI6)
                      clear hRm hn1 hC1 hI6
                      go_wp2_with (go_at_call 37; refine HC1.out.mono ?_; rintro e w7 ⟨rfl, hM7⟩; have HM7 := Hold.mk hM7; clear hM7 c0 c1 c2 hrm)
                      go_roundw
                      case rel => exact ⟨mm + 1, by go_num, by omega, by simp [isTo, HIt.out, HRm.out, HN1.out], HM6.out.trans HM7.out⟩
                      case measure => simp [intOf]; omega
                · obtain rfl : mm = N := by omega
                  have hrm : wr.cell? ⟨rb, kk, none⟩ = some (.bool (R kk)) := fcells_cell (f := fun k => Value.bool (R k)) hr6 hlt
                  rw [HRk.out] at hrm
                  have hfz := cells_frozen hr6 kk
                  clear hr6
                  have HMX := Hold.mk (show Mod (fun j => j = rb) W1 wr from HMC.out.trans (HM6.out.wider (fun i _ h => h.elim)))
                  cases hI : isTo (facedL g W H kk) R mm with
                  | true =>
                    have HIt := Hold.mk hI
                    clear hI
                    have HLt : Hold (cntN mm R0 < cntN mm (mark R kk)) := ⟨by
                      obtain ⟨hinv, hb1, hb2, _⟩ := HR2.out
                      rw [cntN_mark hlt HRk.out]
                      cases b with
                      | true => have := hb1 rfl; omega
                      | false => have := hb2 rfl; subst this; omega⟩
                    cases b with
                    | true =>
                      go_wp2
                      go_roundw
                      case rel => exact ⟨kk + 1, true, mark R kk, rfl, by go_num, by omega, HR2.out.1.yes HGr.out hlt HKP.out HIt.out, fun _ => HLt.out, by simp, boolCells_store HR6.out kk, HMX.out.setCell (fun _ => rfl) _⟩
                      case measure => simp [intOf]; omega
                    | false =>
                      go_wp2
                      go_roundw
                      case rel => exact ⟨kk + 1, true, mark R kk, rfl, by go_num, by omega, HR2.out.1.yes HGr.out hlt HKP.out HIt.out, fun _ => HLt.out, by simp, boolCells_store HR6.out kk, HMX.out.setCell (fun _ => rfl) _⟩
                      case measure => simp [intOf]; omega
                  | false =>
                    have HIt := Hold.mk hI
                    clear hI
                    cases b with
                    | true =>
                      go_wp2
                      go_roundw
                      case rel => exact ⟨kk + 1, true, R, rfl, by go_num, by omega, HR2.out.1.no HIt.out, HR2.out.2.1, by simp, boolCells_keep HR6.out HRk.out, HMX.out.setCell (fun _ => rfl) _⟩
                      case measure => simp [intOf]; omega
                    | false =>
                      go_wp2
                      go_roundw
                      case rel => exact ⟨kk + 1, false, R, rfl, by go_num, by omega, HR2.out.1.no HIt.out, by simp, HR2.out.2.2.1, boolCells_keep HR6.out HRk.out, HMX.out.setCell (fun _ => rfl) _⟩
                      case measure => simp [intOf]; omega
        · obtain rfl : kk = N := by omega
          clear hIr hrr hmr c0 c1 c2
          go_wp2
          go_roundw
          case rel =>
            obtain ⟨hinv, hb1, hb2, hrr, hmr⟩ := HR2.out
            exact ⟨b, R, rfl, hinv, hrr, hmr⟩
          case measure =>
            obtain ⟨hinv, hb1, hb2, hrr, hmr⟩ := HR2.out
            rw [unset_is hrr, unset_is HR.out.2.1]
            have hle := cntN_le kk R
            cases b with
            | true => have := hb1 rfl; simp; omega
            | false => have := hb2 rfl; subst this; simp
end Go.Proofs.Ytogalmkeipigeaa

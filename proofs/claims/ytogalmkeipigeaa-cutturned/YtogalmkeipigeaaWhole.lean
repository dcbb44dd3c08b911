/- The document's Whole: do all cells of a piece hang together? -/
import Derived.Test.YtogalmkeipigeaaRefA
import Derived.Test.YtogalmkeipigeaaNext
import Derived.Test.YtogalmkeipigeaaOutside
import Derived.Deep.OwnRows
set_option linter.unusedSimpArgs false
set_option linter.unusedVariables false
namespace Go.Proofs.Ytogalmkeipigeaa
open Go.RowKit

theorem info4 : (Try.prog.info? 4).map (fun i => (i.zero, i.size, i.bytes)) = some (some (.bool false), 1, 1) := by kernel_rfl
theorem madeCells_one (z : Value) (n : Nat) : madeCells #[z] n = fcells n (fun _ => z) := by
  apply Array.ext
  · simp [madeCells, fcells]
  · intro i h1 h2
    simp [madeCells, fcells, Nat.mod_one]

theorem IntsAt.mod {T : Nat → Prop} {w w' : World} {ao : Option Addr} {zs : List Int} (h : IntsAt w ao zs) (hm : Mod T w w') (hT : ∀ b off, zs ≠ [] → ao = some ⟨b, off, none⟩ → ¬ T b) : IntsAt w' ao zs :=
  ⟨fun hne => by
    obtain ⟨b, off, h1, h2, h3⟩ := h.lies hne
    exact ⟨b, off, h1, Nat.lt_of_lt_of_le h2 hm.size, fun j hj => (cell_same (hm.block b h2 (hT b off hne h1)) _).trans (h3 j hj)⟩, h.small⟩

theorem next_any {W H : Nat} {zs : List Int} (C : CutN W H zs) (i rb cap cap' : Nat) (ao : Option Addr) (R : Nat → Bool) (hi : i < zs.length) (w : World) (hrb : w.heap[rb]? = some (.cells (boolCells zs.length R) 4)) :
    Calls Try.prog 68 #[cutV W H ao zs.length cap, .slice (some ⟨rb, 0, none⟩) zs.length cap', .int .i64 i] w fun e w' => e = .returned (.bool (nextB W H R i)) ∧ Mod noB w w' := by
  have hl := C.len
  obtain ⟨x, y, hx, hy, e⟩ := xy_of C.w1 (hl ▸ hi)
  have e1 : i % W = x := by rw [e, Nat.mul_comm, Nat.mul_add_mod]; exact Nat.mod_eq_of_lt hx
  have e2 : i / W = y := by rw [e, Nat.mul_comm, Nat.mul_add_div (by omega), Nat.div_eq_of_lt hx]; rfl
  refine next_walk W H zs.length i x y rb cap cap' ao R e1 e2 C.w1 C.w2 C.h1 C.h2 (by rw [hl]; exact Nat.mul_le_mul C.w2 C.h2) hi (fun h => by omega) (fun h => ?_) (fun h => ?_) (fun h => ?_) w hrb
  · have := xy_lt (H := H) h hy; omega
  · have : 1 * W ≤ y * W := Nat.mul_le_mul_right _ h
    omega
  · have := xy_lt (W := W) hx h
    rw [Nat.succ_mul] at this
    omega

theorem WInv.le {W H : Nat} {zs : List Int} {k : Int} {R : Nat → Bool} {m i : Nat} {more : Bool} (h : WInv W H zs k R m i more) : m ≤ zs.length := by rw [h.num]; exact cntN_le _ _
theorem WInv.any {W H : Nat} {zs : List Int} {k : Int} : WInv W H zs k (fun _ => false) 0 zs.length true :=
  ⟨by simp [cntN], fun _ _ h => (by cases h), fun _ _ _ _ h => (by cases h), fun h => by cases h⟩

set_option maxRecDepth 100000 in
set_option maxHeartbeats 4000000 in
theorem whole_any {W H : Nat} {zs : List Int} (C : CutN W H zs) (ao : Option Addr) (cap : Nat) (k : Int) (w : World) (hs : IntsAt w ao zs) :
    Calls Try.prog 45 #[cutV W H ao zs.length cap, .int .i64 k] w fun e w' => ∃ b, e = .returned (.bool b) ∧ (b = true ↔ WholeP (laidG W zs zs.length) W H k) ∧ Mod noB w w' := by
  have hmk := fun w => run_make_row' (P := Try.prog) 55 4 (.bool false) 1 Try.underlying55 info4 rfl .i64 .i64 zs.length (by have := hs.small; omega) (by have := hs.small; omega) w
  rw [madeCells_one] at hmk
  have hn : zs.length ≤ 144 := by rw [C.len]; exact Nat.mul_le_mul C.w2 C.h2
  have HI := Hold.mk (hs.alloc (.cells #[.int .i64 W, .int .i64 H, .slice ao zs.length cap] 24))
  have HC := Hold.mk C
  clear hs C
  go_enter Try.func45, Try.ntmps45
  go_wp2
  clear hmk
  obtain ⟨W1, hW1⟩ : ∃ W1, (w.alloc (.cells #[.int .i64 W, .int .i64 H, .slice ao zs.length cap] 24)).alloc (.cells (fcells zs.length fun _ => .bool false) 4) = W1 := ⟨_, rfl⟩
  rw [hW1]
  have hM1 : Mod noB w W1 := by rw [← hW1]; exact ((Mod.refl _ _).alloc _).alloc _
  have hz1 : W1.heap.size = w.heap.size + 2 := by rw [← hW1]; simp
  have bc : W1.heap[w.heap.size]? = some (.cells #[.int .i64 W, .int .i64 H, .slice ao zs.length cap] 24) := by
    rw [← hW1, Below.heap_alloc _ _ _ (by simp)]; exact World.alloc_heap_new w _
  have br : W1.heap[w.heap.size + 1]? = some (.cells (boolCells zs.length fun _ => false) 4) := by
    rw [← hW1]; have := World.alloc_heap_new (w.alloc (.cells #[.int .i64 W, .int .i64 H, .slice ao zs.length cap] 24)) (.cells (fcells zs.length fun _ => .bool false) 4); rw [World.size_alloc] at this; exact this
  have hI1 : IntsAt W1 ao zs := by rw [← hW1]; exact HI.out.alloc _
  have hIl : ∀ b off, zs ≠ [] → ao = some ⟨b, off, none⟩ → b < w.heap.size + 1 := fun b off hne e => by
    obtain ⟨b', off', h1, h2, _⟩ := HI.out.lies hne
    rw [e] at h1
    simp only [Option.some.injEq, Addr.mk.injEq] at h1
    have := h1.1
    simp at h2
    omega
  clear hW1
  have HB := Hold.mk (And.intro hM1 (And.intro bc (And.intro hI1 (And.intro hIl br))))
  clear hM1 bc hI1 hIl br
  go_loopw [6, 7] (fun m more wr => ∃ (mm : Nat) (b : Bool) (R : Nat → Bool), m = .int .i64 mm ∧ more = .bool b ∧ WInv W H zs k R mm zs.length b ∧ wr.heap[w.heap.size + 1]? = some (.cells (boolCells zs.length R) 4) ∧ Mod (fun j => j = w.heap.size + 1) W1 wr)
    (fun m more _ => 2 * (zs.length - (intOf m).toNat) + (match more with | .bool true => 1 | _ => 0))
  case atStart => exact ⟨0, true, _, rfl, rfl, WInv.any, HB.out.2.2.2.2, Mod.refl _ _⟩
  case round =>
    obtain ⟨m0, b, R0, rfl, rfl, hinv, hrr, hmr⟩ := hrel
    have hm0 := hinv.le
    have hbc := hmr.at HB.out.2.1 (by omega)
    have c0 : wr.cell? ⟨w.heap.size, 0, none⟩ = some (.int .i64 W) := by simp [World.cell?, hbc]
    have c1 : wr.cell? ⟨w.heap.size, 1, none⟩ = some (.int .i64 H) := by simp [World.cell?, hbc]
    have c2 : wr.cell? ⟨w.heap.size, 2, none⟩ = some (.slice ao zs.length cap) := by simp [World.cell?, hbc]
    have HR := Hold.mk (And.intro hinv (And.intro hrr (And.intro hmr hbc)))
    clear hinv hrr hmr hbc
    cases b with
    | false =>
      have HCe := Hold.mk (refCells_any W H ao zs cap k wr (HB.out.2.2.1.mod HR.out.2.2.1 (fun b off hne e hb => by have := HB.out.2.2.2.1 b off hne e; omega)))
      go_wp2_with (go_at_call 31; refine HCe.out.mono ?_; rintro e w' ⟨rfl, hMw⟩)
      go_ret
      obtain ⟨hinv, hrr, hmr, hbc⟩ := HR.out
      have hM := (HB.out.1.then hmr (fun i h1 h2 => by omega)).trans hMw
      refine ⟨_, rfl, ?_, hM⟩
      rw [← hinv.whole HC.out]
      simp only [beq_iff_eq]
      omega
    | true =>
      clear c0 c1 c2
      go_wp2
      go_loopw [6, 7, 8] (fun m more i wr => ∃ (mm ii : Nat) (b : Bool) (R : Nat → Bool), m = .int .i64 mm ∧ more = .bool b ∧ i = .int .i64 ii ∧ ii ≤ zs.length ∧ WInv W H zs k R mm ii b ∧ (b = true → m0 < mm) ∧ (b = false → mm = m0) ∧
          wr.heap[w.heap.size + 1]? = some (.cells (boolCells zs.length R) 4) ∧ Mod (fun j => j = w.heap.size + 1) W1 wr)
        (fun _ _ i _ => zs.length - (intOf i).toNat)
      case atStart => exact ⟨m0, 0, false, R0, rfl, rfl, rfl, Nat.zero_le _, HR.out.1.anew, by simp, by simp, HR.out.2.1, HR.out.2.2.1⟩
      case round =>
        obtain ⟨mm, ii, b, R, rfl, rfl, rfl, hii, hinv, hb1, hb2, hrr, hmr⟩ := hrel
        have hmm := hinv.le
        have hbc := hmr.at HB.out.2.1 (by omega)
        have c0 : wr.cell? ⟨w.heap.size, 0, none⟩ = some (.int .i64 W) := by simp [World.cell?, hbc]
        have c1 : wr.cell? ⟨w.heap.size, 1, none⟩ = some (.int .i64 H) := by simp [World.cell?, hbc]
        have c2 : wr.cell? ⟨w.heap.size, 2, none⟩ = some (.slice ao zs.length cap) := by simp [World.cell?, hbc]
        have hIr := HB.out.2.2.1.mod hmr (fun b off hne e hb => by have := HB.out.2.2.2.1 b off hne e; omega)
        have HR2 := Hold.mk (And.intro hinv (And.intro hb1 (And.intro hb2 (And.intro hrr (And.intro hmr hbc)))))
        by_cases hlt : ii < zs.length
        · obtain ⟨bi, off, rfl, _, hc⟩ := hIr.lies (fun e => by simp [e] at hlt)
          obtain ⟨z, hz⟩ : ∃ z, z = zs[ii]?.getD 0 := ⟨_, rfl⟩
          have hcell := hc ii hlt
          rw [← hz] at hcell
          have HZ := Hold.mk hz
          clear hc hz hIr hinv hb1 hb2 hmr hbc
          by_cases hzk : z = k
          · have hzb : (z == k) = true := by simpa using hzk
            have HK := Hold.mk (HZ.out.symm.trans hzk)
            clear hzk
            have hrc : wr.cell? ⟨w.heap.size + 1, ii, none⟩ = some (.bool (R ii)) := fcells_cell (f := fun k => Value.bool (R k)) hrr hlt
            have hfz := cells_frozen hrr ii
            have HN := Hold.mk (next_any HC.out ii (w.heap.size + 1) cap zs.length (some ⟨bi, off, none⟩) R hlt wr hrr)
            clear hrr
            cases hRi : R ii with
            | true =>
              have HX : Hold (¬ mayB W H zs k R mm ii) := ⟨fun h => by rw [h.2.1] at hRi; cases hRi⟩
              rw [hRi] at hrc
              clear hRi
              go_wp2
              go_roundw
              case rel =>
                obtain ⟨hinv, hb1, hb2, hrr, hmr, hbc⟩ := HR2.out
                exact ⟨mm, ii + 1, b, R, rfl, rfl, by go_num, by omega, hinv.skip HX.out, hb1, hb2, hrr, hmr⟩
              case measure => simp [intOf]; omega
            | false =>
              have HX := Hold.mk hRi
              rw [hRi] at hrc
              clear hRi
              have HA : Hold (WInv W H zs k (mark R ii) (mm + 1) (ii + 1) true ∨ True) := ⟨.inr trivial⟩
              have add : mayB W H zs k R mm ii → Hold (∃ mm' ii' : Nat, ∃ b' R', mm' = mm + 1 ∧ ii' = ii + 1 ∧ b' = true ∧ R' = mark R ii ∧ WInv W H zs k R' mm' ii' b' ∧ m0 < mm') := fun h => ⟨_, _, _, _, rfl, rfl, rfl, rfl, HR2.out.1.add HC.out hlt h, by
                obtain ⟨hinv, hb1, hb2, _⟩ := HR2.out
                cases b with
                | true => have := hb1 rfl; omega
                | false => have := hb2 rfl; omega⟩
              clear HA
              by_cases hm0' : mm = 0
              · have hmb : ((mm : Int) == 0) = true := by simpa using hm0'
                have HA := add ⟨HK.out, HX.out, .inl hm0'⟩
                clear hm0' add
                go_wp2
                go_roundw
                case rel =>
                  obtain ⟨hinv, hb1, hb2, hrr, hmr, hbc⟩ := HR2.out
                  obtain ⟨mm', ii', b', R', rfl, rfl, rfl, rfl, h1, h2⟩ := HA.out
                  exact ⟨mm + 1, ii + 1, true, _, by go_num, rfl, by go_num, by omega, h1, fun _ => h2, by simp, boolCells_store hrr ii, hmr.setCell (fun _ => rfl) _⟩
                case measure => simp [intOf]; omega
              · have hmb : ((mm : Int) == 0) = false := by simp; omega
                have HM0 := Hold.mk hm0'
                clear hm0'
                cases hnx : nextB W H R ii with
                | true =>
                  have HA := add ⟨HK.out, HX.out, .inr hnx⟩
                  rw [hnx] at HN
                  clear hnx add
                  go_wp2_with (go_at_call 68; refine HN.out.mono ?_; rintro e w' ⟨rfl, hMw⟩; have hrw := hMw.at HR2.out.2.2.2.1 id; have hfw := cells_frozen hrw ii; have hrcw : w'.cell? ⟨w.heap.size + 1, ii, none⟩ = some (.bool false) := (by have := fcells_cell (f := fun k => Value.bool (R k)) hrw hlt; rw [HX.out] at this; exact this); have HMw := Hold.mk (And.intro hMw hrw); clear hMw hrw)
                  go_roundw
                  case rel =>
                    obtain ⟨hinv, hb1, hb2, hrr, hmr, hbc⟩ := HR2.out
                    obtain ⟨mm', ii', b', R', rfl, rfl, rfl, rfl, h1, h2⟩ := HA.out
                    exact ⟨mm + 1, ii + 1, true, _, by go_num, rfl, by go_num, by omega, h1, fun _ => h2, by simp, boolCells_store HMw.out.2 ii, (hmr.trans (HMw.out.1.wider (fun i _ h => h.elim))).setCell (fun _ => rfl) _⟩
                  case measure => simp [intOf]; omega
                | false =>
                  have HX2 : Hold (¬ mayB W H zs k R mm ii) := ⟨fun h => by
                    rcases h.2.2 with e | e
                    · exact HM0.out e
                    · rw [hnx] at e; cases e⟩
                  rw [hnx] at HN
                  clear hnx add
                  go_wp2_with (go_at_call 68; refine HN.out.mono ?_; rintro e w' ⟨rfl, hMw⟩; have HMw := Hold.mk hMw; clear hMw)
                  go_roundw
                  case rel =>
                    obtain ⟨hinv, hb1, hb2, hrr, hmr, hbc⟩ := HR2.out
                    exact ⟨mm, ii + 1, b, R, rfl, rfl, by go_num, by omega, hinv.skip HX2.out, hb1, hb2, HMw.out.at hrr id, hmr.trans (HMw.out.wider (fun i _ h => h.elim))⟩
                  case measure => simp [intOf]; omega
          · have hzb : (z == k) = false := by simpa using hzk
            have HX : Hold (¬ mayB W H zs k R mm ii) := ⟨fun h => hzk (HZ.out.trans h.1)⟩
            clear hzk hrr
            go_wp2
            go_roundw
            case rel =>
              obtain ⟨hinv, hb1, hb2, hrr, hmr, hbc⟩ := HR2.out
              exact ⟨mm, ii + 1, b, R, rfl, rfl, by go_num, by omega, hinv.skip HX.out, hb1, hb2, hrr, hmr⟩
            case measure => simp [intOf]; omega
        · obtain rfl : ii = zs.length := by omega
          clear hIr hinv hb1 hb2 hrr hmr hbc
          go_wp2
          go_roundw
          case rel =>
            obtain ⟨hinv, hb1, hb2, hrr, hmr, hbc⟩ := HR2.out
            exact ⟨mm, b, R, rfl, rfl, hinv, hrr, hmr⟩
          case measure =>
            obtain ⟨hinv, hb1, hb2, hrr, hmr, hbc⟩ := HR2.out
            cases b with
            | true => have := hb1 rfl; simp [intOf]; omega
            | false => have := hb2 rfl; subst this; simp [intOf]
end Go.Proofs.Ytogalmkeipigeaa

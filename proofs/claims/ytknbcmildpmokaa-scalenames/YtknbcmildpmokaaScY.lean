/- Slips. -/
import Derived.Test.YtknbcmildpmokaaScX
set_option linter.unusedSimpArgs false
set_option linter.unusedVariables false
namespace Go.Proofs.Ytknbcmildpmokaa
open Go.RowKit Go.Shelf


theorem arr77 : Try.prog.arrayLen 77 = 4 := by kernel_rfl
theorem elem77 : Try.prog.elem 77 = 3 := by kernel_rfl
theorem sizeOf3 (W : World) : (sizeOf 3).run Try.prog W = .ok 1 W := by kernel_rfl
theorem und77 : Try.prog.underlying 77 = some (.array (Try.prog.arrayLen 77) (Try.prog.elem 77)) := by kernel_rfl
theorem slice_li (b : Nat) (N : Nat) (h : N ≤ 4) (W : World) : (Instr.sliceAt 77 (.pointer (some ⟨b, 0, none⟩)) none (some (.int .i64 (N : Int))) none).run Try.prog W = .ok (.slice (some ⟨b, 0, none⟩) N 4) W := by
  rw [run_sliceAt_array_h W 77 ⟨b, 0, none⟩ und77 .i64 (N : Int) (by omega) (by rw [arr77]; omega), elem77, sizeOf3, arr77]
  simp [Result.andThen, slicedAt, Addr.add]
/-- A list of numbers at a place of its own, and an error. -/
def IntsOut (L : List Int) (er : Int) (w : World) (e : Ending) (w' : World) : Prop :=
  ∃ ao cap, e = .returned (.tuple #[.slice ao L.length cap, .int .i64 er]) ∧ IntsAt w' ao L ∧ Mod noB w w'
theorem intsAt_nil (w : World) (ao : Option Addr) : IntsAt w ao [] := ⟨fun h => absurd rfl h, by simp⟩
theorem intsAt_li {w : World} {p : Nat} {has : List Int} (h : w.heap[p]? = some (.cells (liC has) 77)) (hl : has.length ≤ 4) : IntsAt w (some ⟨p, 0, none⟩) has :=
  ⟨fun _ => ⟨p, 0, rfl, at_ltS h, fun j hj => by
    have := cellsAt h j
    rw [li_at (by omega)] at this
    simpa using this⟩, by omega⟩

set_option maxRecDepth 100000 in
set_option maxHeartbeats 4000000 in
theorem slips_any (B : Nat) (ao to : Option Addr) (cap tcap : Nat) (b : Bx) (ts : List Tst) (w : World) (hB : B ≤ w.heap.size) (hs : KindsAt B w ao b.ks) (ht : TestsAt B w to ts) :
    Calls Try.prog 21 #[bxV ao b.ks.length cap b, .slice to ts.length tcap] w (IntsOut (slipsE b ts).1 (slipsE b ts).2 w) := by
  have hts := ht.small
  have hksm := hs.small
  have HF : Hold (Kept (w.alloc (.cells (bxC ao b.ks.length cap b) 26)) (fun W => JuF B w ao cap b none ([] : List Rdg) to ts W)) := ⟨juF hB hs (ListAt.nilL _ _ _ _ _) ht⟩
  have H48 := Hold.mk (fun (W : World) (h : JuF B w ao cap b none ([] : List Rdg) to ts W) => check_any B ao none to cap 0 tcap b [] ts W h.z h.b.k h.r h.t)
  by_cases hc : checkE b [] ts = 0
  · obtain ⟨hb, _, _, _, htt⟩ := check_zero hc
    simp only [hc] at H48
    have H52 := Hold.mk (fun (W : World) (h : JuF B w ao cap b none ([] : List Rdg) to ts W) => firstSlip_any B ao to cap tcap b ts W h.z hb htt h.b.k h.t)
    have hk4 := (boxB_ks hb).2.1
    obtain ⟨b0, b1, b2, b3, b4⟩ := HF.out.now.b.cells
    cases hf : (allL b).find? (slipB b ts) with
    | none =>
      have he : Hold (slipsE b ts = ([], 4)) := ⟨by simp [slipsE, hc, hf]⟩
      have hv : firstV b ts = .tuple #[liV [], .bool false] := by rw [firstV, hf]
      rw [hv] at H52
      clear hs ht hc hb htt hf hv
      go_enter Try.func21, Try.ntmps21
      go_wp2_with (first
        | (go_at_call 48; refine (H48.out _ HF.out.now).mono ?_; rintro e w1 ⟨rfl, hM⟩; have HF1 := Hold.mk (HF.out.later hM); clear b0 b1 b2 b3 b4; obtain ⟨b0, b1, b2, b3, b4⟩ := HF1.out.now.b.cells; clear hM)
        | (go_at_call 52; refine (H52.out _ HF1.out.now).mono ?_; rintro e w2 ⟨rfl, hM⟩; have HF2 := Hold.mk (HF1.out.later hM); clear hM))
      go_ret2
      rw [he.out]
      exact ⟨none, 0, rfl, intsAt_nil _ _, HF2.out.now.w.trans ((Mod.refl _ _).alloc _)⟩
    | some has =>
      have hmem := List.mem_of_find?_eq_some hf
      have hl := (allL_mem hb hmem).1
      have he : Hold (slipsE b ts = (has, 0)) := ⟨by simp [slipsE, hc, hf]⟩
      have hv : firstV b ts = .tuple #[liV has, .bool true] := by rw [firstV, hf]
      have hsl : ∀ (p : Nat) (W : World), (Instr.sliceAt 77 (.pointer (some ⟨p, 0, none⟩)) none (some (.int .i64 (b.ks.length : Int))) none).run Try.prog W = .ok (.slice (some ⟨p, 0, none⟩) b.ks.length 4) W := fun p W => slice_li p b.ks.length hk4 W
      have HL := Hold.mk hl
      rw [hv] at H52
      clear hs ht hc hb htt hf hv hmem hl
      go_enter Try.func21, Try.ntmps21
      go_wp2_with (first
        | (go_at_call 48; refine (H48.out _ HF.out.now).mono ?_; rintro e w1 ⟨rfl, hM⟩; have HF1 := Hold.mk (HF.out.later hM); clear b0 b1 b2 b3 b4; obtain ⟨b0, b1, b2, b3, b4⟩ := HF1.out.now.b.cells; clear hM)
        | (go_at_call 52; refine (H52.out _ HF1.out.now).mono ?_; rintro e w2 ⟨rfl, hM⟩; have HF2 := Hold.mk (HF1.out.later hM)
           obtain ⟨W4, hW4⟩ : ∃ W4, w2.alloc (.cells (liC has) 77) = W4 := ⟨_, rfl⟩
           have hm4 : Mod noB w2 W4 := by rw [← hW4]; exact (Mod.refl _ _).alloc _
           have hd4 : W4.heap[w2.heap.size]? = some (.cells (liC has) 77) := by rw [← hW4]; exact World.alloc_heap_new _ _
           clear b0 b1 b2 b3 b4
           have HF4 := Hold.mk (HF2.out.later hm4)
           have HD4 := Hold.mk hd4
           obtain ⟨b0, b1, b2, b3, b4⟩ := HF4.out.now.b.cells
           have HW4 := Hold.mk hW4
           unfold liC at hW4
           clear hM hm4 hd4))
      go_ret2
      rw [he.out]
      exact ⟨some ⟨w2.heap.size, 0, none⟩, 4, by rw [HL.out]; rfl, intsAt_li HD4.out (by rw [HL.out]; exact hk4), HF4.out.now.w⟩
  · have he : Hold (slipsE b ts = ([], checkE b [] ts)) := ⟨by simp [slipsE, hc]⟩
    have hne : (checkE b [] ts != 0) = true := by simpa using hc
    have hne2 : (checkE b [] ts == 0) = false := by simpa using hc
    clear hs ht hc
    generalize checkE b [] ts = ck at *
    obtain ⟨b0, b1, b2, b3, b4⟩ := HF.out.now.b.cells
    go_enter Try.func21, Try.ntmps21
    go_wp2_with (go_at_call 48; refine (H48.out _ HF.out.now).mono ?_; rintro e w1 ⟨rfl, hM⟩; have HF1 := Hold.mk (HF.out.later hM); clear hM)
    go_ret2
    rw [he.out]
    exact ⟨none, 0, rfl, intsAt_nil _ _, HF1.out.now.w⟩

end Go.Proofs.Ytknbcmildpmokaa

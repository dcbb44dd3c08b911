/- Enough. -/
import Derived.Test.YtknbcmildpmokaaSdE
set_option linter.unusedSimpArgs false
set_option linter.unusedVariables false
namespace Go.Proofs.Ytknbcmildpmokaa
open Go.RowKit Go.Shelf Go.Maps


theorem enoughE_of {b : Bx} {ts : List Tst} (h : checkE b [] ts = 0) : enoughE b ts = match cheapest (setsL b ts) with | some o => (o.1, o.2, 0) | none => (0, 0, 4) := by rw [enoughE, if_pos h]; cases cheapest (setsL b ts) <;> rfl
theorem setsL_len (b : Bx) (ts : List Tst) (h8 : ts.length ≤ 8) : (setsL b ts).length ≤ 256 := Nat.le_trans (offersT_len b ts (2 ^ ts.length)) (Nat.pow_le_pow_right (n := 2) (by decide) h8)
theorem results23 {tmps : Array Value} {W : World} {x y z : Value} (h4 : tmps.getD 4 undef = x) (h5 : tmps.getD 5 undef = y) (h6 : tmps.getD 6 undef = z) : (results Try.f23 tmps).run Try.prog W = .ok (.tuple #[x, y, z]) W := by
  have h4' : tmps[4]?.getD undef = x := by simpa using h4
  have h5' : tmps[5]?.getD undef = y := by simpa using h5
  have h6' : tmps[6]?.getD undef = z := by simpa using h6
  simp [results, Try.results23, go_sem, *]
set_option maxRecDepth 100000 in
set_option maxHeartbeats 4000000 in
theorem enough_any (B : Nat) (ao to : Option Addr) (cap tcap : Nat) (b : Bx) (ts : List Tst) (w : World) (hB : B ≤ w.heap.size) (hs : KindsAt B w ao b.ks) (ht : TestsAt B w to ts) :
    Calls Try.prog 23 #[bxV ao b.ks.length cap b, .slice to ts.length tcap] w fun e w' => e = .returned (.tuple #[.int .i64 (enoughE b ts).1, .int .i64 (enoughE b ts).2.1, .int .i64 (enoughE b ts).2.2]) ∧ Mod noB w w' := by
  have hts := ht.small
  have hksm := hs.small
  have HF : Hold (Kept (w.alloc (.cells (bxC ao b.ks.length cap b) 26)) (fun W => JuF B w ao cap b none ([] : List Rdg) to ts W)) := ⟨juF hB hs (ListAt.nilL _ _ _ _ _) ht⟩
  have H48 := Hold.mk (fun (W : World) (h : JuF B w ao cap b none ([] : List Rdg) to ts W) => check_any B ao none to cap 0 tcap b [] ts W h.z h.b.k h.r h.t)
  obtain ⟨b0, b1, b2, b3, b4⟩ := HF.out.now.b.cells
  by_cases hc : checkE b [] ts = 0
  · obtain ⟨hb, _, h8, _, htt⟩ := check_zero hc
    simp only [hc] at H48
    have H56 := Hold.mk (fun (W : World) (h : JuF B w ao cap b none ([] : List Rdg) to ts W) => setsThatCatch_any B ao to cap tcap b ts W h.z hb h8 htt h.b.k h.t)
    have hee := enoughE_of hc
    have hln := setsL_len b ts h8
    obtain ⟨L, hL⟩ : ∃ L, setsL b ts = L := ⟨_, rfl⟩
    rw [hL] at hee H56 hln
    have H55 := Hold.mk (fun (v : Value) (W0 W : World) (h : W.ownsRow W0.heap.size 94 2 v L.length (flatC spC L)) => by
      obtain ⟨ao2, cap2, e2, hla, _⟩ := own_list (l := L) (cs := spC) (sz := 2) (fun _ => rfl) h (by omega)
      have := cheapest_any W.heap.size ao2 cap2 L W (Nat.le_refl _) hla
      rw [← e2] at this
      exact this)
    clear hs ht hc hb htt hL hln
    cases hch : cheapest L with
    | none =>
      have he : Hold (enoughE b ts = (0, 0, 4)) := ⟨by rw [hee, hch]⟩
      simp only [hch, bestO, Option.getD_none, Option.isSome_none] at H55
      clear hee hch
      go_enter Try.func23, Try.ntmps23
      go_wp2_with (first
        | (go_at_call 48; refine (H48.out _ HF.out.now).mono ?_; rintro e w1 ⟨rfl, hM⟩; have HF1 := Hold.mk (HF.out.later hM); clear b0 b1 b2 b3 b4; obtain ⟨b0, b1, b2, b3, b4⟩ := HF1.out.now.b.cells; clear hM)
        | (go_at_call 56; refine (H56.out _ HF1.out.now).mono ?_; rintro e w2 ⟨v, rfl, ho, hM⟩; have HF2 := Hold.mk (HF1.out.later hM); have HO := Hold.mk ho; clear hM ho)
        | (go_at_call 55; refine (H55.out _ _ _ HO.out).mono ?_; rintro e w3 ⟨rfl, hM⟩; have HF3 := Hold.mk (HF2.out.later hM); clear hM))
      refine bodyPost_ret (results23 rfl rfl rfl) rfl ⟨by rw [he.out]; rfl, HF3.out.now.w.trans ((Mod.refl _ _).alloc _)⟩
    | some x =>
      have he : Hold (enoughE b ts = (x.1, x.2, 0)) := ⟨by rw [hee, hch]⟩
      simp only [hch, bestO, Option.getD_some, Option.isSome_some] at H55
      clear hee hch
      go_enter Try.func23, Try.ntmps23
      go_wp2_with (first
        | (go_at_call 48; refine (H48.out _ HF.out.now).mono ?_; rintro e w1 ⟨rfl, hM⟩; have HF1 := Hold.mk (HF.out.later hM); clear b0 b1 b2 b3 b4; obtain ⟨b0, b1, b2, b3, b4⟩ := HF1.out.now.b.cells; clear hM)
        | (go_at_call 56; refine (H56.out _ HF1.out.now).mono ?_; rintro e w2 ⟨v, rfl, ho, hM⟩; have HF2 := Hold.mk (HF1.out.later hM); have HO := Hold.mk ho; clear hM ho)
        | (go_at_call 55; refine (H55.out _ _ _ HO.out).mono ?_; rintro e w3 ⟨rfl, hM⟩; have HF3 := Hold.mk (HF2.out.later hM)
           obtain ⟨W4, hW4⟩ : ∃ W4, w3.alloc (.cells #[.int .i64 x.1, .int .i64 x.2] 94) = W4 := ⟨_, rfl⟩
           have hm4 : Mod noB w3 W4 := by rw [← hW4]; exact (Mod.refl _ _).alloc _
           have hd4 : W4.heap[w3.heap.size]? = some (.cells (spC x) 94) := by rw [← hW4]; exact World.alloc_heap_new _ _
           obtain ⟨x0, x1⟩ := sp_cells hd4
           have HF4 := Hold.mk (HF3.out.later hm4)
           have HD4 := Hold.mk hd4
           clear hM hm4 hd4))
      refine region_quietP (by kernel_rfl) (by kernel_rfl) (fun W' => Mod noB W4 W') (Mod.refl _ _).drew ?_
      repeat
        (first
          | go_big_quiet_skip
          | (go_big_quiet_want
             go_simp
             first
               | go_big_quiet_on
               | (apply Exists.intro
                  refine ⟨fun W' hC => ?_, ?_⟩
                  · obtain ⟨x0, x1⟩ := sp_cells (hC.at HD4.out id)
                    first
                      | fail
                      | with_reducible rfl
                      | (go_simp; first | rfl | exact ⟨rfl, rfl⟩)
                  go_big_quiet_on)
               | (refine ⟨⟨_, fun _ _ => rfl⟩, ?_⟩; go_big_quiet_on)))
      refine wpQuiet_nil ?_
      intro Wq hq
      have HFq := Hold.mk (HF4.out.later hq)
      clear hq
      go_wp2
      refine bodyPost_ret (results23 rfl rfl rfl) rfl ⟨by rw [he.out]; rfl, HFq.out.now.w⟩
  · have he : Hold (enoughE b ts = (0, 0, checkE b [] ts)) := ⟨by simp [enoughE, hc]⟩
    have hne : (checkE b [] ts != 0) = true := by simpa using hc
    have hne2 : (checkE b [] ts == 0) = false := by simpa using hc
    clear hs ht hc
    generalize checkE b [] ts = ck at *
    go_enter Try.func23, Try.ntmps23
    go_wp2_with (go_at_call 48; refine (H48.out _ HF.out.now).mono ?_; rintro e w1 ⟨rfl, hM⟩; have HF1 := Hold.mk (HF.out.later hM); clear hM)
    refine bodyPost_ret (results23 rfl rfl rfl) rfl ⟨by rw [he.out]; rfl, HF1.out.now.w⟩

end Go.Proofs.Ytknbcmildpmokaa

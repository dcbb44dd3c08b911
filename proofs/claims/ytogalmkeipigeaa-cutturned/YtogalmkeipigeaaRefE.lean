/- The document's side: Edges: how many edges two pieces have in common. -/
import Derived.Test.YtogalmkeipigeaaRefB
import Derived.Test.YtogalmkeipigeaaMaker
set_option linter.unusedSimpArgs false
set_option linter.unusedVariables false
namespace Go.Proofs.Ytogalmkeipigeaa
open Go.RowKit Go.Shelf
attribute [local go_sem] Oper.semAt_some

/-- How many of the edges of a cell are between the pieces a and b. -/
def eAt (g : Int × Int → Option Int) (a b : Int) (p : Int × Int) : Nat := if atG g p = a then ((besideL p).map (atG g)).count b else 0
def edgesTo (g : Int × Int → Option Int) (W : Nat) (a b : Int) (k : Nat) : Nat := ((List.range k).map fun m => eAt g a b (cellOf W m)).sum
theorem edgesTo_succ (g : Int × Int → Option Int) (W : Nat) (a b : Int) (k : Nat) : edgesTo g W a b (k + 1) = edgesTo g W a b k + eAt g a b (cellOf W k) := by
  unfold edgesTo; rw [List.range_succ, List.map_append, List.sum_append]; simp
theorem eAt_le (g : Int × Int → Option Int) (a b : Int) (p : Int × Int) : eAt g a b p ≤ 4 := by
  unfold eAt
  split
  · exact List.count_le_length
  · omega
theorem edgesTo_le (g : Int × Int → Option Int) (W : Nat) (a b : Int) (k : Nat) : edgesTo g W a b k ≤ 4 * k := by
  induction k with
  | zero => simp [edgesTo]
  | succ k ih => rw [edgesTo_succ]; have := eAt_le g a b (cellOf W k); omega
/-- What the document lays around a cell, in its order. -/
def aroundL (g : Int × Int → Option Int) (x y : Int) : List Int := [atG g (x - 1, y), atG g (x + 1, y), atG g (x, y - 1), atG g (x, y + 1)]
theorem around_count (g : Int × Int → Option Int) (x y b : Int) : (aroundL g x y).count b = ((besideL (x, y)).map (atG g)).count b := by
  simp only [aroundL, besideL, List.map_cons, List.map_nil, List.count_cons, List.count_nil]
  omega
theorem eAt_no {g : Int × Int → Option Int} {a b : Int} {p : Int × Int} (h : atG g p ≠ a) : eAt g a b p = 0 := by unfold eAt; rw [if_neg h]
theorem eAt_yes {g : Int × Int → Option Int} {a b x y : Int} (h : atG g (x, y) = a) : eAt g a b (x, y) = (aroundL g x y).count b := by unfold eAt; rw [if_pos h, around_count]

set_option maxRecDepth 100000 in
set_option maxHeartbeats 8000000 in
theorem refEdges_any {W H : Nat} {zs : List Int} (C : CutN W H zs) (ao : Option Addr) (cap : Nat) (a b : Int) (w : World) (hs : IntsAt w ao zs) :
    Calls Try.prog 37 #[cutV W H ao zs.length cap, .int .i64 a, .int .i64 b] w fun e w' => e = .returned (.int .i64 (edgesTo (laidG W zs zs.length) W a b (H * W) : Nat)) ∧ Mod noB w w' := by
  obtain ⟨g, hg⟩ : ∃ g, laidG W zs zs.length = g := ⟨_, rfl⟩
  have hbc := World.alloc_heap_new w (.cells #[.int .i64 W, .int .i64 H, .slice ao zs.length cap] 24)
  have HI := Hold.mk (hs.alloc (.cells #[.int .i64 W, .int .i64 H, .slice ao zs.length cap] 24))
  have HK : Hold (∀ w1 : World, Mod noB (w.alloc (.cells #[.int .i64 W, .int .i64 H, .slice ao zs.length cap] 24)) w1 → w1.cell? ⟨w.heap.size, 0, none⟩ = some (.int .i64 W) ∧ w1.cell? ⟨w.heap.size, 1, none⟩ = some (.int .i64 H) ∧ w1.cell? ⟨w.heap.size, 2, none⟩ = some (.slice ao zs.length cap) ∧ IntsAt w1 ao zs) :=
    ⟨fun w1 h => by
      have e1 := h.at hbc id
      refine ⟨?_, ?_, ?_, HI.out.mod h (fun _ _ _ _ h => h)⟩ <;> simp [World.cell?, e1]⟩
  have HM0 := Hold.mk ((Mod.refl noB w).alloc (.cells #[.int .i64 W, .int .i64 H, .slice ao zs.length cap] 24))
  have HA : Hold (∀ (x y : Int) (w1 : World), -1000 ≤ x ∧ x ≤ 1000 → -1000 ≤ y ∧ y ≤ 1000 → IntsAt w1 ao zs → Calls Try.prog 34 #[.agg #[.int .i64 W, .int .i64 H, .slice ao zs.length cap], .int .i64 x, .int .i64 y] w1 fun e w' => e = .returned (.int .i64 (atG g (x, y))) ∧ Mod noB w1 w') :=
    ⟨fun x y w1 hx hy h => by rw [← hg]; exact refAt_any C ao cap x y hx hy w1 h⟩
  have w2 := C.w2
  have h2 := C.h2
  rw [hg]
  have HC := Hold.mk C
  clear hs hbc hg C
  refine callsIn_wide (n := 3) |>.1 ?_
  refine callsIn_of_wp_marks Try.func37 rfl trivial ?_ rfl
  simp only [Try.ntmps37, List.size_toArray, List.length_cons, List.length_nil, Nat.reduceAdd, Nat.reduceSub, Array.replicate_succ, Array.replicate_zero, List.push_toArray, List.append_toArray, List.nil_append, List.cons_append]
  gi_wp2
  obtain ⟨W1, hW1⟩ : ∃ W1, w.alloc (.cells #[.int .i64 W, .int .i64 H, .slice ao zs.length cap] 24) = W1 := ⟨_, rfl⟩
  rw [hW1] at HK HM0 ⊢
  clear hW1 HI
  gi_loopw [7, 8] (fun n y wr => ∃ yy : Nat, y = .int .i64 yy ∧ yy ≤ H ∧ n = .int .i64 (edgesTo g W a b (yy * W) : Nat) ∧ Mod noB W1 wr) (fun _ y _ => H - (intOf y).toNat)
  case atStart => exact ⟨0, rfl, Nat.zero_le _, by simp [edgesTo], Mod.refl _ _⟩
  case round =>
    obtain ⟨yy, rfl, hyy, rfl, hmr⟩ := hrel
    obtain ⟨c0, c1, c2, _⟩ := HK.out _ hmr
    have HMr := Hold.mk hmr
    clear hmr
    by_cases hlt : yy < H
    · clear c2 c0
      gi_wp2
      clear c1
      gi_loopw [7, 9] (fun n x wr => ∃ xx : Nat, x = .int .i64 xx ∧ xx ≤ W ∧ n = .int .i64 (edgesTo g W a b (yy * W + xx) : Nat) ∧ Mod noB W1 wr) (fun _ x _ => W - (intOf x).toNat)
      case atStart => exact ⟨0, rfl, Nat.zero_le _, by simp, HMr.out⟩
      case round =>
        obtain ⟨xx, rfl, hxx, rfl, hmr2⟩ := hrel
        obtain ⟨c0, c1, c2, hI⟩ := HK.out _ hmr2
        have HMr2 := Hold.mk (And.intro hmr2 hI)
        clear hmr2 hI
        by_cases hltx : xx < W
        · have HAt := Hold.mk (HA.out xx yy _ ⟨by omega, by omega⟩ ⟨by omega, by omega⟩ HMr2.out.2)
          have HS : Hold (edgesTo g W a b (yy * W + (xx + 1)) = edgesTo g W a b (yy * W + xx) + eAt g a b ((xx : Int), (yy : Int))) := ⟨by rw [← Nat.add_assoc, edgesTo_succ, cellOf_xy hltx]⟩
          by_cases hat : atG g ((xx : Int), (yy : Int)) = a
          · have hab : (atG g ((xx : Int), (yy : Int)) != a) = false := by simp [hat]
            have HE := Hold.mk hat
            clear hat
            gi_wp2_with (refine ⟨trivial, ?_⟩; gi_at_call 34; refine (callsIn_wide.2 HAt.out).mono ?_; rintro e w' ⟨rfl, hMw⟩; have HMw := Hold.mk hMw; clear hMw)
            clear c0 c1 c2 HAt hab
            refine region_maker wide_fn rfl wide_call mixed (swapL _ 21 22 _ _) 21 22 _ _ (.cells #[.int .i64 0, .int .i64 0, .int .i64 0, .int .i64 0] 102) (made_of (by decide) rfl rfl rfl rfl rfl (by kernel_rfl) (by kernel_rfl) (by kernel_rfl) (fun _ _ => rfl)) (fun _ => by kernel_rfl) (swapL_len _ _ _ _ _) ?_
            intro nb X hX
            dsimp only [swapL, List.set]
            have v1 : IntKind.i64.wrap ((xx : Int) - 1) = (xx : Int) - 1 := IntWalk.i64_in _ (by omega)
            have v2 : IntKind.i64.wrap ((xx : Int) + 1) = (xx : Int) + 1 := IntWalk.i64_in _ (by omega)
            have v3 : IntKind.i64.wrap ((yy : Int) - 1) = (yy : Int) - 1 := IntWalk.i64_in _ (by omega)
            have v4 : IntKind.i64.wrap ((yy : Int) + 1) = (yy : Int) + 1 := IntWalk.i64_in _ (by omega)
            have FIN : Hold (∀ W', X W' → Mod noB W1 W' ∧ IntsAt W' ao zs ∧ W'.cell? ⟨w.heap.size, 0, none⟩ = some (.int .i64 W) ∧ W'.cell? ⟨w.heap.size, 1, none⟩ = some (.int .i64 H) ∧ W'.cell? ⟨w.heap.size, 2, none⟩ = some (.slice ao zs.length cap)) := ⟨fun W' h => by
              have hm := ((HMr2.out.1.trans HMw.out).drew).trans (hX.mod _ h)
              obtain ⟨c0, c1, c2, hI⟩ := HK.out _ hm
              exact ⟨hm, hI, c0, c1, c2⟩⟩
            repeat
              (first
                | go_big_quiet_skip
                | (go_big_quiet_want
                   go_simp
                   first
                     | go_big_quiet_on
                     | (refine ⟨⟨_, fun _ _ => rfl⟩, ?_⟩; go_big_quiet_on)
                     | (apply Exists.intro
                        refine ⟨fun W' hC => ?_, ?_⟩
                        · obtain ⟨f0, f1, f2, f3, f4⟩ := FIN.out W' hC
                          first
                            | (go_at_call 34; refine (HA.out _ _ _ ⟨by omega, by omega⟩ ⟨by omega, by omega⟩ f1).mono fun e w'' he => ⟨he.1, hX.stable _ _ hC he.2⟩)
                            | with_reducible rfl
                            | (clear f0 f1; go_simp; first | rfl | exact ⟨rfl, rfl⟩)
                        go_big_quiet_on)))
            refine wpQuiet_nil ?_
            intro Wq hMq hnb hbq
            clear v1 v2 v3 v4
            have hM3 := ((HMr2.out.1.trans HMw.out).drew).trans hMq
            have hnb' := (HMr2.out.1.trans HMw.out).size
            have HB := Hold.mk hbq
            have HM3 := Hold.mk hM3
            have HX : Hold (eAt g a b ((xx : Int), (yy : Int)) = (aroundL g xx yy).count b) := ⟨eAt_yes HE.out⟩
            have HLE := Hold.mk (edgesTo_le g W a b (yy * W + xx))
            have HL : Hold (yy * W + xx < 144) := ⟨Nat.lt_of_lt_of_le (xy_lt hltx hlt) (Nat.mul_le_mul w2 h2)⟩
            generalize ha0 : atG g ((xx : Int) - 1, (yy : Int)) = a0
            generalize ha1 : atG g ((xx : Int) + 1, (yy : Int)) = a1
            generalize ha2 : atG g ((xx : Int), (yy : Int) - 1) = a2
            generalize ha3 : atG g ((xx : Int), (yy : Int) + 1) = a3
            have HAR : Hold (aroundL g xx yy = [a0, a1, a2, a3]) := ⟨by rw [aroundL, ha0, ha1, ha2, ha3]⟩
            clear ha0 ha1 ha2 ha3
            clear hM3 hbq hMq
            generalize edgesTo g W a b (yy * W + xx) = n0 at *
            refine wpListIn_storeRow rfl 102 (.tmp 10) (.tmp 50) rfl nb rfl #[.int .i64 a0, .int .i64 a1, .int .i64 a2, .int .i64 a3] rfl 102 _ HB.out (by kernel_rfl) rfl (by simp [Value.oneCell']) ?_
            refine wpListIn_nil ?_
            obtain ⟨W3, hW3⟩ : ∃ W3, Wq.putObj nb (.cells #[.int .i64 a0, .int .i64 a1, .int .i64 a2, .int .i64 a3] 102) = W3 := ⟨_, rfl⟩
            rw [hW3]
            have hM4 : Mod noB W1 W3 := by rw [← hW3]; exact HM3.out.putObj (fun h => by omega) _
            have hb4 : W3.heap[nb]? = some (.cells #[.int .i64 a0, .int .i64 a1, .int .i64 a2, .int .i64 a3] 102) := by rw [← hW3]; exact World.putObj_heap_same (Array.getElem?_eq_some_iff.1 HB.out).1
            clear hW3
            have k0 : W3.cell? ⟨nb, 0, none⟩ = some (.int .i64 a0) := by simp [World.cell?, hb4]
            have k1 : W3.cell? ⟨nb, 1, none⟩ = some (.int .i64 a1) := by simp [World.cell?, hb4]
            have k2 : W3.cell? ⟨nb, 2, none⟩ = some (.int .i64 a2) := by simp [World.cell?, hb4]
            have k3 : W3.cell? ⟨nb, 3, none⟩ = some (.int .i64 a3) := by simp [World.cell?, hb4]
            have HM4 := Hold.mk hM4
            clear hM4 hb4 HB HM3
            dsimp only [Act.put]
            gi_wp2
            gi_loop [7, 11] (fun n k => ∃ kk : Nat, k = .int .i64 kk ∧ kk ≤ 4 ∧ n = .int .i64 (n0 + (([a0, a1, a2, a3] : List Int).take kk).count b : Nat)) (fun _ k => 4 - (intOf k).toNat)
            case atStart => exact ⟨0, rfl, Nat.zero_le _, by simp⟩
            case round =>
              obtain ⟨kk, rfl, hkk, rfl⟩ := hrel
              obtain rfl | rfl | rfl | rfl | rfl : kk = 0 ∨ kk = 1 ∨ kk = 2 ∨ kk = 3 ∨ kk = 4 := by omega
              · have HT : Hold ((([a0, a1, a2, a3] : List Int).take (0 + 1)).count b = (([a0, a1, a2, a3] : List Int).take 0).count b + if a0 = b then 1 else 0) := ⟨by simp [List.count_cons]; try omega⟩
                have hcl : (([a0, a1, a2, a3] : List Int).take 0).count b ≤ 4 := Nat.le_trans List.count_le_length (by simp)
                generalize (([a0, a1, a2, a3] : List Int).take 0).count b = cc at *
                by_cases hx : a0 = b
                · have hb : (a0 == b) = true := by simpa using hx
                  have HX := Hold.mk hx
                  have hn0 : n0 ≤ 1000 := by have := HLE.out; have := HL.out; omega
                  clear hx
                  gi_wp2
                  go_round
                  case rel => exact ⟨1, by go_num, by omega, by rw [HT.out, if_pos HX.out]; go_num⟩
                  case measure => simp [intOf]
                · have hb : (a0 == b) = false := by simpa using hx
                  have HX := Hold.mk hx
                  clear hx
                  gi_wp2
                  go_round
                  case rel => exact ⟨1, by go_num, by omega, by rw [HT.out, if_neg HX.out]; rfl⟩
                  case measure => simp [intOf]
              · have HT : Hold ((([a0, a1, a2, a3] : List Int).take (1 + 1)).count b = (([a0, a1, a2, a3] : List Int).take 1).count b + if a1 = b then 1 else 0) := ⟨by simp [List.count_cons]; try omega⟩
                have hcl : (([a0, a1, a2, a3] : List Int).take 1).count b ≤ 4 := Nat.le_trans List.count_le_length (by simp)
                generalize (([a0, a1, a2, a3] : List Int).take 1).count b = cc at *
                by_cases hx : a1 = b
                · have hb : (a1 == b) = true := by simpa using hx
                  have HX := Hold.mk hx
                  have hn0 : n0 ≤ 1000 := by have := HLE.out; have := HL.out; omega
                  clear hx
                  gi_wp2
                  go_round
                  case rel => exact ⟨2, by go_num, by omega, by rw [HT.out, if_pos HX.out]; go_num⟩
                  case measure => simp [intOf]
                · have hb : (a1 == b) = false := by simpa using hx
                  have HX := Hold.mk hx
                  clear hx
                  gi_wp2
                  go_round
                  case rel => exact ⟨2, by go_num, by omega, by rw [HT.out, if_neg HX.out]; rfl⟩
                  case measure => simp [intOf]
              · have HT : Hold ((([a0, a1, a2, a3] : List Int).take (2 + 1)).count b = (([a0, a1, a2, a3] : List Int).take 2).count b + if a2 = b then 1 else 0) := ⟨by simp [List.count_cons]; try omega⟩
                have hcl : (([a0, a1, a2, a3] : List Int).take 2).count b ≤ 4 := Nat.le_trans List.count_le_length (by simp)
                generalize (([a0, a1, a2, a3] : List Int).take 2).count b = cc at *
                by_cases hx : a2 = b
                · have hb : (a2 == b) = true := by simpa using hx
                  have HX := Hold.mk hx
                  have hn0 : n0 ≤ 1000 := by have := HLE.out; have := HL.out; omega
                  clear hx
                  gi_wp2
                  go_round
                  case rel => exact ⟨3, by go_num, by omega, by rw [HT.out, if_pos HX.out]; go_num⟩
                  case measure => simp [intOf]
                · have hb : (a2 == b) = false := by simpa using hx
                  have HX := Hold.mk hx
                  clear hx
                  gi_wp2
                  go_round
                  case rel => exact ⟨3, by go_num, by omega, by rw [HT.out, if_neg HX.out]; rfl⟩
                  case measure => simp [intOf]
              · have HT : Hold ((([a0, a1, a2, a3] : List Int).take (3 + 1)).count b = (([a0, a1, a2, a3] : List Int).take 3).count b + if a3 = b then 1 else 0) := ⟨by simp [List.count_cons]; try omega⟩
                have hcl : (([a0, a1, a2, a3] : List Int).take 3).count b ≤ 4 := Nat.le_trans List.count_le_length (by simp)
                generalize (([a0, a1, a2, a3] : List Int).take 3).count b = cc at *
                by_cases hx : a3 = b
                · have hb : (a3 == b) = true := by simpa using hx
                  have HX := Hold.mk hx
                  have hn0 : n0 ≤ 1000 := by have := HLE.out; have := HL.out; omega
                  clear hx
                  gi_wp2
                  go_round
                  case rel => exact ⟨4, by go_num, by omega, by rw [HT.out, if_pos HX.out]; go_num⟩
                  case measure => simp [intOf]
                · have hb : (a3 == b) = false := by simpa using hx
                  have HX := Hold.mk hx
                  clear hx
                  gi_wp2
                  go_round
                  case rel => exact ⟨4, by go_num, by omega, by rw [HT.out, if_neg HX.out]; rfl⟩
                  case measure => simp [intOf]
              · gi_wp2
                go_roundw
                case rel => exact ⟨xx + 1, by go_num, by omega, by rw [HS.out, HX.out, HAR.out]; rfl, HM4.out⟩
                case measure => simp [intOf]; omega
          · have hab : (atG g ((xx : Int), (yy : Int)) != a) = true := by simpa using hat
            have HE := Hold.mk hat
            clear hat
            gi_wp2_with (refine ⟨trivial, ?_⟩; gi_at_call 34; refine (callsIn_wide.2 HAt.out).mono ?_; rintro e w' ⟨rfl, hMw⟩; have HMw := Hold.mk hMw; clear hMw)
            go_roundw
            case rel => exact ⟨xx + 1, by go_num, by omega, by rw [HS.out, eAt_no HE.out]; rfl, HMr2.out.1.trans HMw.out⟩
            case measure => simp [intOf]; omega
        · obtain rfl : xx = W := by omega
          gi_wp2
          go_roundw
          case rel => exact ⟨yy + 1, by go_num, by omega, by rw [Nat.succ_mul], HMr2.out.1⟩
          case measure => simp [intOf]; omega
    · obtain rfl : yy = H := by omega
      gi_wp2
      refine ⟨_, results_tmp rfl _ _ _, rfl, HM0.out.trans HMr.out⟩
end Go.Proofs.Ytogalmkeipigeaa

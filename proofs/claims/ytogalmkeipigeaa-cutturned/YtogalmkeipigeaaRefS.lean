/- The document's side of CutChecks: the error of a cut and of a piece; what a piece has in common with others; and that both sides say no where there is no such piece. -/
import Derived.Test.YtogalmkeipigeaaInside
import Derived.Test.YtogalmkeipigeaaRefE
import Derived.Test.YtogalmkeipigeaaMnS
set_option linter.unusedSimpArgs false
set_option linter.unusedVariables false
namespace Go.Proofs.Ytogalmkeipigeaa
open Go.RowKit

theorem box_facts {w : World} {W H : Int} {ao : Option Addr} {zs : List Int} {cap : Nat} (hs : IntsAt w ao zs) : ∀ w1 : World, Mod noB (w.alloc (.cells #[.int .i64 W, .int .i64 H, .slice ao zs.length cap] 24)) w1 →
    w1.cell? ⟨w.heap.size, 0, none⟩ = some (.int .i64 W) ∧ w1.cell? ⟨w.heap.size, 1, none⟩ = some (.int .i64 H) ∧ w1.cell? ⟨w.heap.size, 2, none⟩ = some (.slice ao zs.length cap) ∧ IntsAt w1 ao zs := fun w1 h => by
  have e1 := h.at (World.alloc_heap_new w (.cells #[.int .i64 W, .int .i64 H, .slice ao zs.length cap] 24)) id
  refine ⟨?_, ?_, ?_, (hs.alloc _).mod h (fun _ _ _ _ h => h)⟩ <;> simp [World.cell?, e1]
theorem faced_self (g : Int × Int → Option Int) (W H : Nat) (n : Int) : (facedL g W H n).count n = 0 := by
  rw [List.count_eq_zero]
  intro h
  unfold facedL at h
  rw [List.mem_flatMap] at h
  obtain ⟨p, _, h⟩ := h
  unfold facedAt at h
  split at h
  · simp at h
  · simp at h

set_option maxRecDepth 100000 in
set_option maxHeartbeats 1000000 in
theorem piece_no (W H : Int) (ao : Option Addr) (zs : List Int) (cap : Nat) (p : Int) (w : World) (hs : IntsAt w ao zs) (h : (checkR W H zs).2 ≠ 0) :
    Calls Try.prog 50 #[cutV W H ao zs.length cap, .int .i64 p] w fun e w' => e = .returned (.int .i64 (checkR W H zs).2) ∧ Mod noB w w' := by
  have HO := Hold.mk (refCheck_any W H ao zs cap _ (hs.alloc (.cells #[.int .i64 W, .int .i64 H, .slice ao zs.length cap] 24)))
  have HM0 := Hold.mk ((Mod.refl noB w).alloc (.cells #[.int .i64 W, .int .i64 H, .slice ao zs.length cap] 24))
  generalize (checkR W H zs).2 = e at *
  generalize (checkR W H zs).1 = e1 at *
  have he : (e != 0) = true := by simpa using h
  clear hs h
  go_enter Try.func50, Try.ntmps50
  go_wp2_with (go_at_call 15; refine HO.out.mono ?_; rintro e w1 ⟨rfl, hM1⟩; have HM1 := Hold.mk hM1; clear hM1)
  go_ret
  exact ⟨rfl, HM0.out.trans HM1.out⟩

set_option maxRecDepth 100000 in
set_option maxHeartbeats 1000000 in
theorem piece_at {W H : Nat} {zs : List Int} (C : CutN W H zs) (ao : Option Addr) (cap : Nat) (p : Int) (w : World) (hs : IntsAt w ao zs) (h : (checkR W H zs).2 = 0) (b : Bool) (hb : (decide (0 ≤ p) && decide (p ≤ (many zs : Int) - 1)) = b) :
    Calls Try.prog 50 #[cutV W H ao zs.length cap, .int .i64 p] w fun e w' => e = .returned (.int .i64 (if b then 0 else 2)) ∧ Mod noB w w' := by
  have HO := refCheck_any W H ao zs cap _ (hs.alloc (.cells #[.int .i64 W, .int .i64 H, .slice ao zs.length cap] 24))
  rw [(checkR_ok h).2] at HO
  replace HO := Hold.mk HO
  have HM0 := Hold.mk ((Mod.refl noB w).alloc (.cells #[.int .i64 W, .int .i64 H, .slice ao zs.length cap] 24))
  have hN1 := C.many_le.1
  have hN2 := C.many_le.2
  have Hin := Hold.mk (in_is p 0 ((many zs : Int) - 1) b hb)
  generalize many zs = N at *
  have hNi : (N : Int) ≤ 40 := by omega
  clear hs h hb C
  cases b
  all_goals
    go_enter Try.func50, Try.ntmps50
    go_wp2_with (first
      | (go_at_call 15; refine HO.out.mono ?_; rintro e w1 ⟨rfl, hM1⟩; have HM1 := Hold.mk hM1; clear hM1)
      | (go_at_call 59; refine (Hin.out _).mono ?_; rintro e w' ⟨rfl, rfl⟩))
    go_ret
    exact ⟨rfl, HM0.out.trans HM1.out⟩

set_option maxRecDepth 100000 in
set_option maxHeartbeats 1000000 in
theorem sides_out {W H : Nat} {zs : List Int} (C : CutN W H zs) (ao : Option Addr) (cap : Nat) (p : Int) (w : World) (hs : IntsAt w ao zs) (h : (checkR W H zs).2 = 0) (hp : ¬ (0 ≤ p ∧ p < many zs)) :
    Calls Try.prog 16 #[cutV W H ao zs.length cap, .int .i64 p] w fun e w' => e = .returned (.tuple #[.slice none 0 0, .int .i64 2]) ∧ Mod noB w w' := by
  have HO := Hold.mk (open_yes C ao cap _ (hs.alloc (.cells #[.int .i64 W, .int .i64 H, .slice ao zs.length cap] 24)) h)
  have HM0 := Hold.mk ((Mod.refl noB w).alloc (.cells #[.int .i64 W, .int .i64 H, .slice ao zs.length cap] 24))
  have hb : (decide (0 ≤ p) && decide (p < (many zs : Int))) = false := by simp; omega
  generalize laidG W zs zs.length = g at HO
  generalize many zs = N at *
  have HH : Hold (∀ (W H : Int) (mb : Nat) (w1 : World), Calls Try.prog 47 #[picV W H N mb, .int .i64 p] w1 fun e w' => e = .returned (.bool false) ∧ Below w1.heap.size w1 w') := ⟨fun W H mb w1 => by rw [← hb]; exact has_any W H N mb p w1⟩
  clear hs h hb C hp
  go_enter Try.func16, Try.ntmps16
  go_wp2_with (first
    | (go_at_call 46; refine HO.out.mono ?_; rintro e w1 ⟨mb, rfl, hM1, hmp⟩; have HM1 := Hold.mk hM1; clear hM1 hmp)
    | (go_at_call 47; refine (HH.out _ _ _ _).mono ?_; rintro e w2 ⟨rfl, hb2⟩; have HM2 := Hold.mk (Mod.of_below hb2 rfl); clear hb2))
  go_ret2
  exact ⟨rfl, ((HM0.out.trans HM1.out).alloc _).trans HM2.out⟩

set_option maxRecDepth 100000 in
set_option maxHeartbeats 1000000 in
theorem inside_out {W H : Nat} {zs : List Int} (C : CutN W H zs) (ao : Option Addr) (cap : Nat) (p : Int) (w : World) (hs : IntsAt w ao zs) (h : (checkR W H zs).2 = 0) (hp : ¬ (0 ≤ p ∧ p < many zs)) :
    Calls Try.prog 18 #[cutV W H ao zs.length cap, .int .i64 p] w fun e w' => e = .returned (.tuple #[.slice none 0 0, .int .i64 2]) ∧ Mod noB w w' := by
  have HO := Hold.mk (open_yes C ao cap _ (hs.alloc (.cells #[.int .i64 W, .int .i64 H, .slice ao zs.length cap] 24)) h)
  have HM0 := Hold.mk ((Mod.refl noB w).alloc (.cells #[.int .i64 W, .int .i64 H, .slice ao zs.length cap] 24))
  have hb : (decide (0 ≤ p) && decide (p < (many zs : Int))) = false := by simp; omega
  generalize laidG W zs zs.length = g at HO
  generalize many zs = N at *
  have HH : Hold (∀ (W H : Int) (mb : Nat) (w1 : World), Calls Try.prog 47 #[picV W H N mb, .int .i64 p] w1 fun e w' => e = .returned (.bool false) ∧ Below w1.heap.size w1 w') := ⟨fun W H mb w1 => by rw [← hb]; exact has_any W H N mb p w1⟩
  clear hs h hb C hp
  go_enter Try.func18, Try.ntmps18
  go_wp2_with (first
    | (go_at_call 46; refine HO.out.mono ?_; rintro e w1 ⟨mb, rfl, hM1, hmp⟩; have HM1 := Hold.mk hM1; clear hM1 hmp)
    | (go_at_call 47; refine (HH.out _ _ _ _).mono ?_; rintro e w2 ⟨rfl, hb2⟩; have HM2 := Hold.mk (Mod.of_below hb2 rfl); clear hb2))
  go_ret2
  exact ⟨rfl, ((HM0.out.trans HM1.out).alloc _).trans HM2.out⟩

set_option maxRecDepth 100000 in
set_option maxHeartbeats 1000000 in
theorem refSides_err (W H : Int) (ao : Option Addr) (zs : List Int) (cap : Nat) (p : Int) (w : World) (hs : IntsAt w ao zs) (e : Int) (he : e ≠ 0)
    (HP : ∀ w1, IntsAt w1 ao zs → Calls Try.prog 50 #[cutV W H ao zs.length cap, .int .i64 p] w1 fun r w' => r = .returned (.int .i64 e) ∧ Mod noB w1 w') :
    Calls Try.prog 17 #[cutV W H ao zs.length cap, .int .i64 p] w fun r w' => r = .returned (.tuple #[.slice none 0 0, .int .i64 e]) ∧ Mod noB w w' := by
  have HO := Hold.mk (HP _ (hs.alloc (.cells #[.int .i64 W, .int .i64 H, .slice ao zs.length cap] 24)))
  have HM0 := Hold.mk ((Mod.refl noB w).alloc (.cells #[.int .i64 W, .int .i64 H, .slice ao zs.length cap] 24))
  have hne : (e != 0) = true := by simpa using he
  clear hs HP
  go_enter Try.func17, Try.ntmps17
  go_wp2_with (go_at_call 50; refine HO.out.mono ?_; rintro r w1 ⟨rfl, hM1⟩; have HM1 := Hold.mk hM1; clear hM1)
  go_ret2
  exact ⟨rfl, HM0.out.trans HM1.out⟩

set_option maxRecDepth 100000 in
set_option maxHeartbeats 1000000 in
theorem refInside_err (W H : Int) (ao : Option Addr) (zs : List Int) (cap : Nat) (p : Int) (w : World) (hs : IntsAt w ao zs) (e : Int) (he : e ≠ 0)
    (HP : ∀ w1, IntsAt w1 ao zs → Calls Try.prog 50 #[cutV W H ao zs.length cap, .int .i64 p] w1 fun r w' => r = .returned (.int .i64 e) ∧ Mod noB w1 w') :
    Calls Try.prog 19 #[cutV W H ao zs.length cap, .int .i64 p] w fun r w' => r = .returned (.tuple #[.slice none 0 0, .int .i64 e]) ∧ Mod noB w w' := by
  have HO := Hold.mk (HP _ (hs.alloc (.cells #[.int .i64 W, .int .i64 H, .slice ao zs.length cap] 24)))
  have HM0 := Hold.mk ((Mod.refl noB w).alloc (.cells #[.int .i64 W, .int .i64 H, .slice ao zs.length cap] 24))
  have hne : (e != 0) = true := by simpa using he
  clear hs HP
  go_enter Try.func19, Try.ntmps19
  go_wp2_with (go_at_call 50; refine HO.out.mono ?_; rintro r w1 ⟨rfl, hM1⟩; have HM1 := Hold.mk hM1; clear hM1)
  go_ret2
  exact ⟨rfl, HM0.out.trans HM1.out⟩

theorem pair_cells (w : World) (o n : Int) : ∀ (j : Nat) (u : Value), [Value.int .i64 o, .int .i64 n][j]? = some u → (w.alloc (.cells #[.int .i64 o, .int .i64 n] 54)).cell? (Addr.add ⟨w.heap.size, 0, none⟩ j) = some u := fun j u hj => by
  have hnw := World.alloc_heap_new w (.cells #[.int .i64 o, .int .i64 n] 54)
  have ea : Addr.add ⟨w.heap.size, 0, none⟩ j = ⟨w.heap.size, j, none⟩ := by simp [Addr.add]; omega
  rw [ea]
  simp only [World.cell?, hnw]
  rcases j with _ | _ | j
  · simpa using hj
  · simpa using hj
  · simp at hj

set_option maxRecDepth 100000 in
set_option maxHeartbeats 2000000 in
theorem refSides_yes {W H : Nat} {zs : List Int} (C : CutN W H zs) (ao : Option Addr) (cap : Nat) (p : Int) (w : World) (hs : IntsAt w ao zs) (h : (checkR W H zs).2 = 0) (hp1 : 0 ≤ p) (hp2 : p < many zs) :
    Calls Try.prog 17 #[cutV W H ao zs.length cap, .int .i64 p] w fun e w' => ∃ v, e = .returned (.tuple #[v, .int .i64 0]) ∧ w'.ownsRow w.heap.size 54 2 v (sidesR W H zs p).length (sideCells (sidesR W H zs p)) ∧ Mod noB w w' := by
  have HO := Hold.mk (piece_at C ao cap p _ (hs.alloc (.cells #[.int .i64 W, .int .i64 H, .slice ao zs.length cap] 24)) h true (by simp; omega))
  have HB := Hold.mk (box_facts (W := W) (H := H) (cap := cap) hs)
  have HM0 := Hold.mk ((Mod.refl noB w).alloc (.cells #[.int .i64 W, .int .i64 H, .slice ao zs.length cap] 24))
  have hN1 := C.many_le.1
  have hN2 := C.many_le.2
  have hR : sidesR W H zs p = sidesTo (facedL (laidG W zs zs.length) W H p) (many zs + 1) := rfl
  rw [hR]
  have HE : Hold (∀ o : Int, ∃ n : Nat, (o ≠ p → n = (facedL (laidG W zs zs.length) W H p).count o) ∧ ∀ w1, IntsAt w1 ao zs → Calls Try.prog 37 #[cutV W H ao zs.length cap, .int .i64 p, .int .i64 o] w1 fun e w' => e = .returned (.int .i64 (n : Nat)) ∧ Mod noB w1 w') :=
    ⟨fun o => ⟨_, fun ho => edgesTo_faced _ W H p o ho, fun w1 h1 => refEdges_any C ao cap p o w1 h1⟩⟩
  have HG : Hold (∀ w1 : World, IntsAt w1 ao zs → Calls Try.prog 44 #[cutV W H ao zs.length cap] w1 fun e w' => e = .returned (.int .i64 (greatest zs)) ∧ Mod noB w1 w') := ⟨fun w1 h1 => refGreatest_any W H ao zs cap w1 h1⟩
  have HF0 := Hold.mk (faced_self (laidG W zs zs.length) W H p)
  have hM := many_eq zs
  generalize facedL (laidG W zs zs.length) W H p = F at *
  generalize greatest zs = M at *
  generalize many zs = N at *
  obtain ⟨i0, hi, hz0, hz1, hz2⟩ := info_parts info54
  clear hs h hR C
  have hNi : (N : Int) ≤ 40 := by omega
  go_enter Try.func17, Try.ntmps17
  go_wp2_with (go_at_call 50; refine HO.out.mono ?_; rintro e w2 ⟨rfl, hM2⟩; have HM2 := Hold.mk hM2; clear hM2)
  go_loopw [7, 8, 9] (fun v i n wr => ∃ k : Nat, k ≤ N + 1 ∧ i = .int .i64 ((k : Int) - 1) ∧ wr.ownsRow w2.heap.size 54 2 v (sidesTo F k).length (sideCells (sidesTo F k)) ∧ Mod noB w2 wr) (fun _ i _ _ => N + 1 - (intOf i + 1).toNat)
  case atStart => exact ⟨0, Nat.zero_le _, rfl, World.ownsRow_nil _ _ _ _, Mod.refl _ _⟩
  case round =>
    obtain ⟨k, hk, rfl, hown, hmr⟩ := hrel
    obtain ⟨o, ho⟩ : ∃ o : Int, o = (k : Int) - 1 := ⟨_, rfl⟩
    rw [← ho]
    have HK := Hold.mk (And.intro ho hk)
    have ho1 : -1 ≤ o := by omega
    have ho2 : o ≤ N := by omega
    obtain ⟨c0, c1, c2, hIr⟩ := HB.out wr (HM2.out.trans hmr)
    have HGr := Hold.mk (HG.out wr hIr)
    have HMR := Hold.mk hmr
    have hcl : (sidesTo F k).length ≤ 41 := by have := sidesTo_len F k; omega
    have HOW := Hold.mk hown
    clear ho hk hmr hown hIr
    by_cases cN : o ≤ M
    · obtain ⟨n, hn, hC⟩ := HE.out o
      have HC := Hold.mk hC
      have HNn := Hold.mk hn
      have HCN := Hold.mk cN
      clear hn hC
      by_cases op : o = p
      · have hob : (o != p) = false := by simp [op]
        have HOP := Hold.mk op
        clear op
        go_wp2_with (first
          | (go_at_call 44; refine HGr.out.mono ?_; rintro e w4 ⟨rfl, hM4⟩; obtain ⟨d0, d1, d2, hI4⟩ := HB.out w4 (HM2.out.trans (HMR.out.trans hM4)); have HC4 := Hold.mk (HC.out w4 hI4); have HM4 := Hold.mk hM4; clear hM4 hI4 c0 c1 c2)
          | (go_at_call 37; refine HC4.out.mono ?_; rintro e w5 ⟨rfl, hM5⟩; have HM5 := Hold.mk hM5; clear hM5))
        go_roundw
        case rel =>
          have hM := HM4.out.trans HM5.out
          exact ⟨k + 1, by have := HK.out; omega, by rw [show o + 1 = ((k + 1 : Nat) : Int) - 1 by have := HK.out.1; omega], by rw [sidesTo_no (n := 0) HK.out.1 (by rw [HOP.out, HF0.out]; rfl) (by omega)]; exact own_mod HOW.out hM, HMR.out.trans hM⟩
        case measure => simp [intOf]; omega
      · have hob : (o != p) = true := by simp [op]
        have HNn' : Hold ((n : Int) = (F.count o : Nat)) := ⟨by rw [HNn.out op]⟩
        clear op HNn
        by_cases c3 : 0 < (n : Int)
        · go_wp2_with (first
            | (go_at_call 44; refine HGr.out.mono ?_; rintro e w4 ⟨rfl, hM4⟩; obtain ⟨d0, d1, d2, hI4⟩ := HB.out w4 (HM2.out.trans (HMR.out.trans hM4)); have HC4 := Hold.mk (HC.out w4 hI4); have HM4 := Hold.mk hM4; clear hM4 hI4 c0 c1 c2)
            | (go_at_call 37; refine HC4.out.mono ?_; rintro e w5 ⟨rfl, hM5⟩; have HM5 := Hold.mk hM5; clear hM5)
            | (at_builtin; refine wpList_append_own _ rfl (.tmp 33) (.tmp 37) 30 rfl w2.heap.size 54 i0 (.agg #[.int .i64 0, .int .i64 0]) 2 16 Try.underlying30 hi hz0 hz1 hz2 rfl (by decide) _ _ _ rfl ((own_mod HOW.out (HM4.out.trans HM5.out)).alloc _) ⟨w5.heap.size, 0, none⟩ 1 1 [.int .i64 o, .int .i64 n] rfl rfl (pair_cells w5 o n) (by simp [Value.oneCell']) (by unfold maxLen; omega) (by omega) (by have := HMR.out.size; have := HM4.out.size; have := HM5.out.size; simp; omega) ?_; intro v' wa hown' hgr _; have HW := Hold.mk (And.intro hown' hgr); clear hown' hgr))
          go_roundw
          case rel =>
            have hM := HM4.out.trans HM5.out
            obtain ⟨hown', hgr⟩ := HW.out
            refine ⟨k + 1, by have := HK.out; omega, by rw [show o + 1 = ((k + 1 : Nat) : Int) - 1 by have := HK.out.1; omega], ?_, ?_⟩
            · rw [sidesTo_yes HK.out.1 HNn'.out c3, sideCells_snoc, List.length_append]; exact hown'
            · exact (HMR.out.trans hM).then (((Mod.refl (fun b => w2.heap.size ≤ b) w5).alloc _).trans (Mod.of_grownBy hgr (fun r hr _ => own_ge HOW.out hr))) (fun i h1 h2 => absurd h1 (Nat.not_lt.2 h2))
          case measure => simp [intOf]; omega
        · go_wp2_with (first
            | (go_at_call 44; refine HGr.out.mono ?_; rintro e w4 ⟨rfl, hM4⟩; obtain ⟨d0, d1, d2, hI4⟩ := HB.out w4 (HM2.out.trans (HMR.out.trans hM4)); have HC4 := Hold.mk (HC.out w4 hI4); have HM4 := Hold.mk hM4; clear hM4 hI4 c0 c1 c2)
            | (go_at_call 37; refine HC4.out.mono ?_; rintro e w5 ⟨rfl, hM5⟩; have HM5 := Hold.mk hM5; clear hM5))
          go_roundw
          case rel =>
            have hM := HM4.out.trans HM5.out
            exact ⟨k + 1, by have := HK.out; omega, by rw [show o + 1 = ((k + 1 : Nat) : Int) - 1 by have := HK.out.1; omega], by rw [sidesTo_no HK.out.1 HNn'.out (show ¬ 0 < (n : Int) by omega)]; exact own_mod HOW.out hM, HMR.out.trans hM⟩
          case measure => simp [intOf]; omega
    · have HCN := Hold.mk cN
      go_wp2_with (go_at_call 44; refine HGr.out.mono ?_; rintro e w4 ⟨rfl, hM4⟩; have HM4 := Hold.mk hM4; clear hM4)
      go_ret2
      obtain rfl : k = N + 1 := by have := HK.out; omega
      have hM := HM2.out.trans (HMR.out.trans HM4.out)
      exact ⟨_, rfl, own_mono (own_mod HOW.out HM4.out) (HM0.out.trans HM2.out).size, HM0.out.trans hM⟩
end Go.Proofs.Ytogalmkeipigeaa

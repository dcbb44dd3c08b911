/- RuleBest: the law's walk, of dies and stints that are valid. -/
import Derived.Test.YtdncppempgpooaaDoorRwT
set_option linter.unusedSimpArgs false
set_option linter.unusedVariables false
namespace Go.Proofs.YtdncppempgpooaaDoor
open Go.RowKit Go.Shelf

/-- What is followed, of a plan that is one. -/
def FollowIs (d : Dye) (l : List (Int × Int)) (q : List Int) (pl : List Int × Int × Int) : Prop :=
  (∃ j b : Nat, followE d l q = (0, (j : Int), (b : Int), 11) ∧ j < l.length ∧ b < d.bl.length ∧ (pl.2.2 = 0 ∨ pl.2.2 = 4)) ∨
  (followE d l q = (costR d q, (l.length : Int), 0, 0) ∧ pl.2.2 = 0 ∧ pl.1.length = q.length ∧ pl.2.1 ≤ costR d q ∧
    (pl.2.1 = costR d q → ∀ j : Nat, (∀ i : Nat, i < j → pl.1[i]? = q[i]?) → ∀ x y, pl.1[j]? = some x → q[j]? = some y → x ≤ y))
theorem plan_is {d : Dye} {l : List (Int × Int)} {q : List Int} (hq : q.length = l.length - 1) (hx : ∀ x ∈ q, 0 ≤ x ∧ x < (2 ^ d.bl.length : Nat)) : planB d l q = true := by
  have hmx : ((max 0 (l.length - 1) : Nat) : Int) = ((q.length : Nat) : Int) := by rw [hq]; omega
  unfold planB
  rw [Bool.and_eq_true]
  refine ⟨decide_eq_true (by rw [hq]; omega), List.all_eq_true.2 fun x h => ?_⟩
  obtain ⟨a, b⟩ := hx x h
  have := @allS_int d
  simp only [fromB, Bool.and_eq_true, decide_eq_true_eq]
  omega
theorem follow_facts {d : Dye} {l : List (Int × Int)} {q : List Int} (hd : dieB d = true) (hs : stintsB l = true) (hq : q.length = l.length - 1) (hx : ∀ x ∈ q, 0 ≤ x ∧ x < (2 ^ d.bl.length : Nat)) : FollowIs d l q (planE d l) := by
  have hpb := plan_is hq hx
  have hE : followE d l q = goR d 0 zeroR 0 l (0 :: natsOf q) := by simp [followE, hd, hs, hpb]
  rw [follow_is d l q (by rw [hq]; omega)] at hE
  obtain ⟨b1, b2⟩ := best_fact hd hs hq hx
  cases hb : badR d 0 zeroR l (0 :: natsOf q) with
  | some x =>
    obtain ⟨j, b⟩ := x
    rw [hb] at hE
    have := bad_bd l 0 zeroR _ j b hb
    exact .inl ⟨j, b, hE, by omega, this.2.2, b1⟩
  | none =>
    rw [hb] at hE
    exact .inr ⟨hE, b2 hb⟩

set_option maxRecDepth 100000 in
set_option maxHeartbeats 8000000 in
theorem law8_yes (B : Nat) (ao : Option Addr) (cap : Nat) (d : Dye) (lo : Option Addr) (lcap : Nat) (l : List (Int × Int)) (bo : Option Addr) (bn bcap : Nat) (w : World) (hI : InB B w ao d lo l) (h1 : ¬ 10 < (d.bl.length : Int)) (h2 : ¬ 12 < (l.length : Int)) (h0 : 0 < bn) (hbn2 : bn ≤ 9223372036854775807) (hby : BytesAt w bo bn) (hd : dieB d = true) (hs : stintsB l = true) :
    Calls Tryd.prog 8 #[dyV ao d.bl.length cap d, .slice lo l.length lcap, .slice bo bn bcap] w fun e w' => e = .returned (.bool true) ∧ Mod noB w w' := by
  have hsm := hI.bl.small
  have hl7 : l.length ≤ 7 := by simp [stintsB] at hs; omega
  obtain ⟨⟨l1, l5⟩, _, _, s1, s2⟩ := dieB_parts hd
  have HF := Hold.mk (lawd0 (cap := cap) hI)
  have HBY : Hold (∀ W, Mod noB w W → BytesAt W bo bn) := ⟨fun W h => hby.mod h⟩
  have H12 : Hold (∀ W, Calls Tryd.prog 12 #[dyV ao d.bl.length cap d, .slice lo l.length lcap, .slice none 0 0] W fun e w' => e = .returned (.bool false) ∧ Mod noB W w') := ⟨fun W => (far_more ao lo none cap d.bl.length l.length 0 lcap 0 d.bound d.stop d.bend W (by omega) (by omega) (by omega)).mono fun e w' h => ⟨by rw [h.1]; congr 2; simp; omega, h.2⟩⟩
  have H24 : Hold (∀ W, Calls Tryd.prog 24 #[dyV ao d.bl.length cap d, .slice lo l.length lcap, .int .i64 32768] W fun e w' => SomeB e ∧ Mod noB W w') := ⟨fun W => heavy_any ao cap d.bl.length d.bound d.stop d.bend lo l.length lcap 32768 W (by omega) (by omega)⟩
  have H27 : Hold (∀ W, InB B W ao d lo l → Calls Tryd.prog 27 #[dyV ao d.bl.length cap d] W fun e w' => e = .returned (.bool true) ∧ Mod noB W w') := ⟨fun W h => by rw [← hd]; exact refDie_any B ao cap d W h.le h.bl⟩
  have H28 : Hold (∀ W, InB B W ao d lo l → Calls Tryd.prog 28 #[.slice lo l.length lcap] W fun e w' => e = .returned (.bool true) ∧ Mod noB W w') := ⟨fun W h => by rw [← hs]; exact refStints_any B lo lcap l W h.le h.st⟩
  obtain ⟨⟨P, pc, pe⟩, hpl⟩ : ∃ v, planE d l = v := ⟨_, rfl⟩
  have H25 : Hold (∀ W, InB B W ao d lo l → Calls Tryd.prog 25 #[dyV ao d.bl.length cap d, .slice lo l.length lcap] W fun e w' => ∃ a1 k1, e = .returned (.tuple #[.slice a1 P.length k1, .int .i64 pc, .int .i64 pe]) ∧ IntsAt w' a1 P ∧ Mod noB W w') := ⟨fun W h => (plan_any B ao cap d lo lcap l W h).mono fun e w' h => by
    rw [hpl] at h
    obtain ⟨a1, k1, he, hi, _, _, hm⟩ := h
    exact ⟨a1, k1, he, hi, hm⟩⟩
  have H35 : Hold (∀ W, BytesAt W bo bn → Calls Tryd.prog 35 #[dyV ao d.bl.length cap d, .slice lo l.length lcap, .slice bo bn bcap] W fun e w' => ∃ (so : Option Addr) (sc : Nat) (q : List Int), e = .returned (.slice so q.length sc) ∧ q.length = l.length - 1 ∧ (∀ x ∈ q, 0 ≤ x ∧ x < (2 ^ d.bl.length : Nat)) ∧ IntsAt w' so q ∧ Mod noB W w') := ⟨fun W h => sets_any ao cap d.bl.length d.bound d.stop d.bend lo l.length lcap bo bn bcap W l5 hl7 h0 hbn2 h⟩
  have H18 : Hold (∀ (so : Option Addr) (sc : Nat) (q : List Int) W, InB B W ao d lo l → IntsAt W so q → Calls Tryd.prog 18 #[dyV ao d.bl.length cap d, .slice lo l.length lcap, .slice so q.length sc] W (Four (followE d l q) W)) := ⟨fun so sc q W h1 h2 => follow_any B ao cap d lo lcap l so sc q W h1 h2⟩
  have HFF : Hold (∀ q : List Int, q.length = l.length - 1 → (∀ x ∈ q, 0 ≤ x ∧ x < (2 ^ d.bl.length : Nat)) → FollowIs d l q (P, pc, pe)) := ⟨fun q h1 h2 => by rw [← hpl]; exact follow_facts hd hs h1 h2⟩
  have HCB : Hold (∀ q : List Int, q.length = l.length - 1 → 0 ≤ costR d q ∧ costR d q ≤ 420000) := ⟨fun q h => by have := costR_bd d s1 s2 q; rw [h] at this; omega⟩
  clear hI h1 h2 hby hpl hd hs s1 s2
  go_enter Tryd.func8, Tryd.ntmps8
  go_wp2_with (first
    | (refine wpList_load_row rfl 24 (.tmp 3) rfl w.heap.size rfl 24 _ (0, 0) _ HF.out.now.1 Tryd.underlying24 rfl info24 ?_)
    | (go_at_call 12; refine (H12.out _).mono ?_; rintro e w1 ⟨rfl, hM⟩; have HF := Hold.mk (HF.out.later hM); have hg := HF.out.now.1; have g0 := cellsAt hg 0; have g1 := cellsAt hg 1; have g2 := cellsAt hg 2; have g3 := cellsAt hg 3; clear hM hg)
    | (go_at_call 24; refine (H24.out _).mono ?_; rintro e w2 ⟨⟨b, rfl⟩, hM⟩; have HF := Hold.mk (HF.out.later hM); have hg := HF.out.now.1; have g0 := cellsAt hg 0; have g1 := cellsAt hg 1; have g2 := cellsAt hg 2; have g3 := cellsAt hg 3; clear hM hg; cases b)
    | (go_at_call 27; refine (H27.out _ HF.out.now.2.1).mono ?_; rintro e w3 ⟨rfl, hM⟩; have HF := Hold.mk (HF.out.later hM); clear hM)
    | (go_at_call 28; refine (H28.out _ HF.out.now.2.1).mono ?_; rintro e w4 ⟨rfl, hM⟩; have HF := Hold.mk (HF.out.later hM); clear hM)
    | (go_at_call 25; refine (H25.out _ HF.out.now.2.1).mono ?_; rintro e w6 ⟨a1, k1, rfl, i1, hM⟩; have HF := Hold.mk (HF.out.later hM); have HP := Hold.mk (kept_ints i1); clear hM i1)
    | (go_at_call 35; refine (H35.out _ (HBY.out _ HF.out.now.2.2)).mono ?_; rintro e w7 ⟨so, sc, q, rfl, q1, q2, i2, hM⟩; have HF := Hold.mk (HF.out.later hM); have HP := Hold.mk (HP.out.later hM); have HQ := Hold.mk (kept_ints i2); have HFI := Hold.mk (HFF.out q q1 q2); have HCQ := Hold.mk (HCB.out q q1); have HQL := Hold.mk q1; clear hM i2 q1 q2)
    | (go_at_call 18; refine (H18.out so sc q _ HF.out.now.2.1 HQ.out.now).mono ?_; rintro e w8 hh
       have hM := hh.2
       rcases HFI.out with ⟨j, b, hfe, hj, hb, hpe⟩ | ⟨hfe, hpe, hpl, hle, hlex⟩
       all_goals
         rw [hfe] at hh
         simp only [Four] at hh
         obtain ⟨rfl, _⟩ := hh
         have HF := Hold.mk (HF.out.later hM)
         have HP := Hold.mk (HP.out.later hM)
         have HQ := Hold.mk (HQ.out.later hM)
         have hg := HF.out.now.1
         have g0 := cellsAt hg 0
         clear hM hg hfe
       all_goals first
         | (have hjI : (j : Int) < (l.length : Int) := by omega
            have hbI : (b : Int) < (d.bl.length : Int) := by omega
            simp only at hpe
            rcases hpe with rfl | rfl)
         | (simp only at hpe hpl hle hlex
            have HLEX := Hold.mk hlex
            have HPQ := Hold.mk hpl
            obtain ⟨c, hc⟩ : ∃ c, costR d q = c := ⟨_, rfl⟩
            rw [hc] at HCQ HLEX hle
            rw [hc]
            subst hpe
            have hlI : (P.length : Int) = (q.length : Int) := by omega
            clear hlex hpl hc
            rcases (by omega : pc < c ∨ pc = c) with hcc | rfl))
    | (go_at_call 13; refine (awake_any _ HF.out.now.2.1.tab).mono ?_; rintro e w9 ⟨rfl, hM⟩; have HF := Hold.mk (HF.out.later hM); clear hM))
  all_goals first
    | (go_ret
       exact ⟨rfl, HF.out.now.2.2⟩)
    | skip
  clear hlI
  have HF8 := HF
  have HP8 := HP
  have HQ8 := HQ
  go_loopw [15] (fun i wr => ∃ k : Nat, k ≤ P.length ∧ i = .int .i64 k ∧ (∀ j : Nat, j < k → P[j]? = q[j]?) ∧ Mod noB w8 wr) (fun i _ => P.length - (intOf i).toNat)
  case atStart => exact ⟨0, Nat.zero_le _, rfl, fun j hj => absurd hj (Nat.not_lt_zero _), Mod.refl _ _⟩
  case round =>
    obtain ⟨k, hk, rfl, hall, hm⟩ := hrel
    have HA := Hold.mk hall
    have HM := Hold.mk hm
    have HFr := Hold.mk (HF8.out.later hm)
    have HPr := Hold.mk (HP8.out.later hm)
    have HQr := Hold.mk (HQ8.out.later hm)
    clear hall hm g0
    have hps := HPr.out.now.small
    by_cases hlt : k < P.length
    · have hlt2 : k < q.length := by rw [← HPQ.out]; exact hlt
      obtain ⟨b1, o1, rfl, hb1, hc1⟩ := HPr.out.now.lies (fun e => by simp [e] at hlt)
      obtain ⟨b2, o2, rfl, hb2, hc2⟩ := HQr.out.now.lies (fun e => by simp [e] at hlt2)
      have c1 := hc1 k hlt
      have c2 := hc2 k hlt2
      obtain ⟨x, hx⟩ : ∃ x, P[k]? = some x := ⟨_, List.getElem?_eq_getElem hlt⟩
      obtain ⟨y, hy⟩ : ∃ y, q[k]? = some y := ⟨_, List.getElem?_eq_getElem hlt2⟩
      rw [hx, Option.getD_some] at c1
      rw [hy, Option.getD_some] at c2
      have hxy := HLEX.out trivial k HA.out x y hx hy
      have HXY := Hold.mk (And.intro hx hy)
      have FIN : Hold (∀ W', Mod noB wr W' → W'.cell? ⟨b1, o1 + k, none⟩ = some (.int .i64 x) ∧ W'.cell? ⟨b2, o2 + k, none⟩ = some (.int .i64 y) ∧ Tab W') := ⟨fun W' h => ⟨(cell_same (h.block b1 hb1 id) _).trans c1, (cell_same (h.block b2 hb2 id) _).trans c2, (HFr.out.later h).now.2.1.tab⟩⟩
      have hkI : (k : Int) < (P.length : Int) := by omega
      have hkI2 : (k : Int) < (q.length : Int) := by omega
      clear hc1 hc2 hx hy hb1 hb2 hlt2
      by_cases he : x = y
      · subst he
        go_wp2
        go_quiet (fail)
        go_wp2
        go_roundw
        case rel => exact ⟨k + 1, by omega, by go_num, fun j hj => by
          rcases Nat.lt_succ_iff_lt_or_eq.1 hj with h | rfl
          · exact HA.out j h
          · rw [HXY.out.1, HXY.out.2], HM.out.drewN _⟩
        case measure => simp [intOf]; omega
      · have hlt3 : x < y := by omega
        have hne : (x != y) = true := by simp [bne, he]
        have HE := Hold.mk he
        clear he
        go_wp2
        go_quiet (fail)
        go_wp2
        refine region_quietP (by kernel_rfl) (by kernel_rfl) (fun W' => Mod noB wr W') (((Mod.refl _ _).drewN _).drew) ?_
        repeat
          (first
            | go_big_quiet_skip
            | (go_big_quiet_want
               go_simp
               first
                 | go_big_quiet_on
                 | (apply Exists.intro
                    refine ⟨fun W' hC => ?_, ?_⟩
                    · obtain ⟨d1, d2, d3⟩ := FIN.out W' hC
                      first
                        | (go_at_call 13; refine (awake_any _ d3).mono ?_; exact fun e w'' he => ⟨he.1, hC.trans he.2⟩)
                        | with_reducible rfl
                        | (go_simp; first | rfl | exact ⟨rfl, rfl⟩)
                    go_big_quiet_on)
                 | (refine ⟨⟨_, fun _ _ => rfl⟩, ?_⟩; go_big_quiet_on)))
        refine wpQuiet_nil ?_
        intro Wq hq
        have HD := Hold.mk (HFr.out.later hq)
        clear hq
        go_wp2
        go_ret
        exact ⟨rfl, HD.out.now.2.2⟩
    · obtain rfl : k = P.length := by omega
      have hnl : ¬ ((P.length : Int) < (P.length : Int)) := by omega
      go_wp2_with (go_at_call 13; refine (awake_any _ HFr.out.now.2.1.tab).mono ?_; rintro e w9 ⟨rfl, hM⟩; have HFz := Hold.mk (HFr.out.later hM); clear hM)
      go_ret
      exact ⟨rfl, HFz.out.now.2.2⟩
end Go.Proofs.YtdncppempgpooaaDoor

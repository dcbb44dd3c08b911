/- The document's Pairs, and its Matches. -/
import Derived.Test.YtnjbamikfjdofaaRefQb
import Derived.Maps.AppendAt
set_option linter.unusedSimpArgs false
set_option linter.unusedVariables false
namespace Go.Proofs.Ytnjbamikfjdofaa
open Go.RowKit Go.Shelf

/-- Two lists of integers, wherever they lie, and an error. -/
def TwoR (L1 L2 : List Int) (er : Int) (w : World) (e : Ending) (w' : World) : Prop :=
  ∃ v1 v2, e = .returned (.tuple #[v1, v2, .int .i64 er]) ∧ IntV w' v1 L1 ∧ IntV w' v2 L2 ∧ Mod noB w w'
theorem twoR_nil {w w' : World} {er : Int} (h : Mod noB w w') : TwoR [] [] er w (.returned (.tuple #[.slice none 0 0, .slice none 0 0, .int .i64 er])) w' :=
  ⟨_, _, rfl, intV_nil _, intV_nil _, h⟩

set_option maxHeartbeats 4000000 in
theorem refPairs_bad (p : Ply) (tabs holes : List Edg) (ta ha : Option Addr) (ct ch : Nat) (w : World) (HT : EdgesAt w ta tabs) (HH : EdgesAt w ha holes) (hv : (playB p && (sidesB tabs && sidesB holes)) = false) :
    Calls Try.prog 27 #[plV p, .slice ta tabs.length ct, .slice ha holes.length ch] w (TwoR [] [] 1 w) := by
  have HP := Hold.mk (fun w => refPlay_any p w)
  have H1 : Hold (∀ w', Mod noB w w' → Calls Try.prog 64 #[.slice ta tabs.length ct] w' fun e w2 => e = .returned (.bool (sidesB tabs)) ∧ Mod noB w' w2) := ⟨fun w' h => refSides_any ta tabs ct w' (HT.mod h)⟩
  have H2 : Hold (∀ w', Mod noB w w' → Calls Try.prog 64 #[.slice ha holes.length ch] w' fun e w2 => e = .returned (.bool (sidesB holes)) ∧ Mod noB w' w2) := ⟨fun w' h => refSides_any ha holes ch w' (HH.mod h)⟩
  clear HT HH
  have hc : playB p = false ∨ playB p = true ∧ sidesB tabs = false ∨ playB p = true ∧ sidesB tabs = true ∧ sidesB holes = false := by
    revert hv
    cases playB p <;> cases sidesB tabs <;> cases sidesB holes <;> simp
  generalize playB p = bp at *
  generalize sidesB tabs = bt at *
  generalize sidesB holes = bh at *
  clear hv
  have HM0 := Hold.mk ((Mod.refl noB w).alloc (.cells (plC p) 25))
  rcases hc with rfl | ⟨rfl, rfl⟩ | ⟨rfl, rfl, rfl⟩
  all_goals
    have K0 := Hold.mk trivial
    go_enter Try.func27, Try.ntmps27
    go_wp2_with (first
      | (go_at_call 35; refine (HP.out _).mono ?_; rintro e w1 ⟨rfl, hM⟩; have HM1 := Hold.mk (HM0.out.trans hM); clear hM)
      | (go_at_call 64; have Kx := K0; refine (H1.out _ HM1.out).mono ?_; rintro e w2 ⟨rfl, hM⟩; replace HM1 := Hold.mk (HM1.out.trans hM); clear hM K0 Kx)
      | (go_at_call 64; refine (H2.out _ HM1.out).mono ?_; rintro e w3 ⟨rfl, hM⟩; replace HM1 := Hold.mk (HM1.out.trans hM); clear hM))
    go_ret3
    exact twoR_nil HM1.out

theorem rows_slice {w : World} {B : Nat} {v : Value} {LL : List (List Int)} (h : RowsV w B v LL) : (LL = [] → ∃ ao cap, v = .slice ao 0 cap) ∧ (LL ≠ [] → ∃ g cap, v = .slice (some ⟨g, 0, none⟩) LL.length cap ∧ g < w.heap.size ∧ ∀ (i : Nat) (l : List Int), LL[i]? = some l → ∃ u, w.cell? ⟨g, i, none⟩ = some u ∧ IntV w u l) := by
  obtain ⟨vs, ⟨hl, ⟨rfl, h0⟩ | ⟨g, cap, cur, rfl, hb, hg, h1, _, h2, h3⟩⟩, hvs⟩ := h
  · exact ⟨fun _ => ⟨_, _, rfl⟩, fun hne => absurd (List.length_eq_zero_iff.1 h0) hne⟩
  · refine ⟨fun e => ⟨some ⟨g, 0, none⟩, cap, by rw [e]; rfl⟩, fun _ => ⟨g, cap, rfl, (Array.getElem?_eq_some_iff.1 hg).1, fun i l hi => ?_⟩⟩
    obtain ⟨u, e1, e2⟩ := hvs i l hi
    refine ⟨u, ?_, e2⟩
    rw [cellsAt hg i, ← Array.getElem?_toList, ← e1, ← h3, List.getElem?_take_of_lt]
    have := (List.getElem?_eq_some_iff.1 hi).1
    omega

set_option maxRecDepth 100000 in
set_option maxHeartbeats 16000000 in
theorem refPairs_ok (p : Ply) (tabs holes : List Edg) (ta ha : Option Addr) (ct ch : Nat) (w : World) (HT : EdgesAt w ta tabs) (HH : EdgesAt w ha holes) (hp : playB p = true) (hts : sidesB tabs = true) (hhs : sidesB holes = true) :
    Calls Try.prog 27 #[plV p, .slice ta tabs.length ct, .slice ha holes.length ch] w (TwoR (pairsE p tabs holes).1 (pairsE p tabs holes).2.1 (pairsE p tabs holes).2.2 w) := by
  have HP : Hold (∀ w, Calls Try.prog 35 #[plV p] w fun r w' => r = .returned (.bool true) ∧ Mod noB w w') := ⟨fun w => by have := refPlay_any p w; rw [hp] at this; exact this⟩
  have H1 : Hold (∀ w', Mod noB w w' → Calls Try.prog 64 #[.slice ta tabs.length ct] w' fun e w2 => e = .returned (.bool true) ∧ Mod noB w' w2) := ⟨fun w' h => by have := refSides_any ta tabs ct w' (HT.mod h); rw [hts] at this; exact this⟩
  have H2 : Hold (∀ w', Mod noB w w' → Calls Try.prog 64 #[.slice ha holes.length ch] w' fun e w2 => e = .returned (.bool true) ∧ Mod noB w' w2) := ⟨fun w' h => by have := refSides_any ha holes ch w' (HH.mod h); rw [hhs] at this; exact this⟩
  have hE : pairsE p tabs holes = if tabs.length ≤ 8 ∧ holes.length ≤ 8 then (if (tabs.all fun e => e.k == 1) && (holes.all fun e => e.k == 2) then (if tabs.length = holes.length then firstTwo (allPairs p tabs holes) else ([], [], 2)) else ([], [], 6)) else ([], [], 3) := by
    unfold pairsE; rw [hp, hts, hhs]; rfl
  have HE := Hold.mk hE
  have HV := Hold.mk (And.intro hp (And.intro hts hhs))
  have HA := Hold.mk (And.intro HT HH)
  have hs1 := HT.small
  have hs2 := HH.small
  clear hE hp hts hhs HT HH
  have HM0 := Hold.mk ((Mod.refl noB w).alloc (.cells (plC p) 25))
  have K0 := Hold.mk trivial
  by_cases hlong : tabs.length ≤ 8 ∧ holes.length ≤ 8
  case neg =>
    have hE2 : pairsE p tabs holes = ([], [], 3) := by rw [HE.out, if_neg hlong]
    rw [hE2]
    have hc : 8 < tabs.length ∨ tabs.length ≤ 8 ∧ 8 < holes.length := by omega
    clear hlong hE2
    rcases hc with hc | ⟨hc, hc2⟩
    all_goals
      go_enter Try.func27, Try.ntmps27
      go_wp2_with (first
        | (go_at_call 35; refine (HP.out _).mono ?_; rintro e w1 ⟨rfl, hM⟩; have HM1 := Hold.mk (HM0.out.trans hM); clear hM)
        | (go_at_call 64; have Kx := K0; refine (H1.out _ HM1.out).mono ?_; rintro e w2 ⟨rfl, hM⟩; replace HM1 := Hold.mk (HM1.out.trans hM); clear hM K0 Kx)
        | (go_at_call 64; refine (H2.out _ HM1.out).mono ?_; rintro e w3 ⟨rfl, hM⟩; replace HM1 := Hold.mk (HM1.out.trans hM); clear hM))
      go_ret3
      exact twoR_nil HM1.out
  case pos =>
    obtain ⟨n8, h8⟩ := hlong
    rw [if_pos ⟨n8, h8⟩] at HE
    have HPB : Hold (Kept (w.alloc (.cells (plC p) 25)) (fun w' => w'.heap[w.heap.size]? = some (.cells (plC p) 25))) := ⟨kept_block (World.alloc_heap_new w _)⟩
    go_enter Try.func27, Try.ntmps27
    go_wp2_with (first
      | (go_at_call 35; refine (HP.out _).mono ?_; rintro e w1 ⟨rfl, hM⟩; have HM1 := Hold.mk (HM0.out.trans hM); replace HPB := Hold.mk (HPB.out.later hM); clear hM)
      | (go_at_call 64; have Kx := K0; refine (H1.out _ HM1.out).mono ?_; rintro e w2 ⟨rfl, hM⟩; replace HM1 := Hold.mk (HM1.out.trans hM); replace HPB := Hold.mk (HPB.out.later hM); clear hM K0 Kx)
      | (go_at_call 64; refine (H2.out _ HM1.out).mono ?_; rintro e w3 ⟨rfl, hM⟩; replace HM1 := Hold.mk (HM1.out.trans hM); replace HPB := Hold.mk (HPB.out.later hM); clear hM))
    go_loopw [9] (fun i wr => ∃ k : Nat, k ≤ tabs.length ∧ i = .int .i64 k ∧ Hold ((∀ j e, j < k → tabs[j]? = some e → e.k = 1) ∧ Mod noB w3 wr)) (fun i _ => tabs.length - (intOf i).toNat)
    case atStart => exact ⟨0, Nat.zero_le _, rfl, ⟨fun j e hj => absurd hj (Nat.not_lt_zero _), Mod.refl _ _⟩⟩
    case round =>
      obtain ⟨k, hk, rfl, H0⟩ := hrel
      by_cases hlt : k < tabs.length
      · obtain ⟨x, hx⟩ : ∃ x, tabs[k]? = some x := ⟨_, List.getElem?_eq_getElem hlt⟩
        obtain ⟨b, off, rfl, hb, hc⟩ := (HA.out.1.mod (HM1.out.trans H0.out.2)).lies (fun e => by simp [e] at hlt)
        have c0 := (hc _ x hx).c0
        have HX := Hold.mk hx
        clear hc hx
        obtain ⟨xk, hxk⟩ : ∃ xk, xk = x.k := ⟨_, rfl⟩
        rw [← hxk] at c0
        have HK := Hold.mk hxk
        clear hxk
        by_cases h1 : xk = 1
        · subst h1
          go_wp2
          go_roundw
          case rel => exact ⟨k + 1, by omega, by go_num, ⟨fun j e hj he => by
            by_cases h : j = k
            · subst h; rw [HX.out] at he; cases he; exact HK.out.symm
            · exact H0.out.1 j e (by omega) he, H0.out.2⟩⟩
          case measure => simp [intOf]; omega
        · have h1' : (xk != 1) = true := by simpa using h1
          have h1'' : (xk == 1) = false := by simpa using h1
          have H6 : Hold (pairsE p tabs holes = ([], [], 6)) := ⟨by
            rw [HE.out, if_neg]
            rw [Bool.and_eq_true]
            rintro ⟨h, _⟩
            have := List.all_eq_true.1 h x (List.mem_of_getElem? HX.out)
            simp only [beq_iff_eq] at this
            exact h1 (HK.out.trans this)⟩
          clear h1
          go_wp2
          rw [H6.out]
          go_ret3
          exact twoR_nil (HM1.out.trans H0.out.2)
      · obtain rfl : k = tabs.length := by omega
        replace HM1 := Hold.mk (HM1.out.trans H0.out.2)
        replace HPB := Hold.mk (HPB.out.later H0.out.2)
        have HK1 := Hold.mk H0.out.1
        clear H0
        go_wp2_with fail
        generalize wr = wA at *
        go_loopw [10] (fun i wr => ∃ k : Nat, k ≤ holes.length ∧ i = .int .i64 k ∧ Hold ((∀ j e, j < k → holes[j]? = some e → e.k = 2) ∧ Mod noB wA wr)) (fun i _ => holes.length - (intOf i).toNat)
        case atStart => exact ⟨0, Nat.zero_le _, rfl, ⟨fun j e hj => absurd hj (Nat.not_lt_zero _), Mod.refl _ _⟩⟩
        case round =>
          obtain ⟨k, hk, rfl, H0⟩ := hrel
          by_cases hlt : k < holes.length
          · obtain ⟨x, hx⟩ : ∃ x, holes[k]? = some x := ⟨_, List.getElem?_eq_getElem hlt⟩
            obtain ⟨b, off, rfl, hb, hc⟩ := (HA.out.2.mod (HM1.out.trans H0.out.2)).lies (fun e => by simp [e] at hlt)
            have c0 := (hc _ x hx).c0
            have HX := Hold.mk hx
            clear hc hx
            obtain ⟨xk, hxk⟩ : ∃ xk, xk = x.k := ⟨_, rfl⟩
            rw [← hxk] at c0
            have HK := Hold.mk hxk
            clear hxk
            by_cases h1 : xk = 2
            · subst h1
              go_wp2
              go_roundw
              case rel => exact ⟨k + 1, by omega, by go_num, ⟨fun j e hj he => by
                by_cases h : j = k
                · subst h; rw [HX.out] at he; cases he; exact HK.out.symm
                · exact H0.out.1 j e (by omega) he, H0.out.2⟩⟩
              case measure => simp [intOf]; omega
            · have h1' : (xk != 2) = true := by simpa using h1
              have h1'' : (xk == 2) = false := by simpa using h1
              have H6 : Hold (pairsE p tabs holes = ([], [], 6)) := ⟨by
                rw [HE.out, if_neg]
                rw [Bool.and_eq_true]
                rintro ⟨_, h⟩
                have := List.all_eq_true.1 h x (List.mem_of_getElem? HX.out)
                simp only [beq_iff_eq] at this
                exact h1 (HK.out.trans this)⟩
              clear h1
              go_wp2
              rw [H6.out]
              go_ret3
              exact twoR_nil (HM1.out.trans H0.out.2)
          · obtain rfl : k = holes.length := by omega
            replace HM1 := Hold.mk (HM1.out.trans H0.out.2)
            replace HPB := Hold.mk (HPB.out.later H0.out.2)
            have hall : ((tabs.all fun e => e.k == 1) && (holes.all fun e => e.k == 2)) = true := by
              rw [Bool.and_eq_true, List.all_eq_true, List.all_eq_true]
              refine ⟨fun e he => ?_, fun e he => ?_⟩
              · obtain ⟨j, hj⟩ := List.getElem?_of_mem he
                rw [HK1.out j e (List.getElem?_eq_some_iff.1 hj).1 hj]; rfl
              · obtain ⟨j, hj⟩ := List.getElem?_of_mem he
                rw [H0.out.1 j e (List.getElem?_eq_some_iff.1 hj).1 hj]; rfl
            rw [if_pos hall] at HE
            clear H0 hall
            by_cases hnm : tabs.length = holes.length
            case neg =>
              have H6 : Hold (pairsE p tabs holes = ([], [], 2)) := ⟨by rw [HE.out, if_neg hnm]⟩
              have hne : ((tabs.length : Int) != (holes.length : Int)) = true := by simp; omega
              have hne2 : ((tabs.length : Int) == (holes.length : Int)) = false := by simp; omega
              clear hnm
              go_wp2
              rw [H6.out]
              go_ret3
              exact twoR_nil HM1.out
            case pos =>
              rw [if_pos hnm] at HE
              have hne : ((tabs.length : Int) != (holes.length : Int)) = false := by simp; omega
              have hne2 : ((tabs.length : Int) == (holes.length : Int)) = true := by simp; omega
              obtain ⟨p0, p1, p2, p3, p4⟩ := PlayAt.of HPB.out.now
              have hpl := at_ltQ HPB.out.now
              clear hnm
              have HCALL : Hold (∀ w', Mod noB w w' → Calls Try.prog 67 #[plV p, .slice ta tabs.length ct, .slice ha holes.length ch, .slice none 0 0, .slice none 0 0] w' fun e w2 => ∃ v', e = .returned v' ∧ RowsV w2 w'.heap.size v' (allPairs p tabs holes) ∧ Mod noB w' w2) := ⟨fun w' h => by
                have := refPairings_any p tabs holes ta ha ct ch n8 h8 HV.out.1 HV.out.2.1 HV.out.2.2 w' w'.heap.size (Nat.le_refl _) (HA.out.1.mod h) (HA.out.2.mod h) tabs.length [] (.slice none 0 0) (.slice none 0 0) [] w' (by simp) (Mod.refl _ _) (Nat.le_refl _) (intV_nil _) (rowsV_nil _ _) (by
                  rw [List.nil_append]
                  refine Nat.le_trans (pairsL_most _ 8 (fun l hl => ?_) _ _) ?_
                  · rw [goesL, List.mem_map] at hl
                    obtain ⟨t, _, rfl⟩ := hl
                    have := indicesTo_len maybe (foundL p t holes) (foundL p t holes).length
                    rw [foundL_len] at this
                    show (indicesTo maybe (foundL p t holes) (foundL p t holes).length).length ≤ 8
                    rw [foundL_len]; omega
                  · exact Nat.le_trans (Nat.pow_le_pow_right (by omega) n8) (by decide))
                refine this.mono fun e w2 hh => ?_
                obtain ⟨v', e1, e2, e3⟩ := hh
                exact ⟨v', e1, e2, e3.all43 (Nat.le_refl _)⟩⟩
              generalize allPairs p tabs holes = LL at *
              rcases LL with _ | ⟨la, _ | ⟨lb, rest⟩⟩
              · go_wp2_with (go_at_call 67; refine (HCALL.out _ HM1.out).mono ?_; rintro e w5 ⟨v', rfl, hR, hM⟩; replace HM1 := Hold.mk (HM1.out.trans hM); obtain ⟨ao, cap, rfl⟩ := (rows_slice hR).1 rfl; clear hR hM p0 p1 p2 p3 p4 hpl)
                rw [HE.out]
                go_ret3
                exact twoR_nil HM1.out
              · go_wp2_with (go_at_call 67; refine (HCALL.out _ HM1.out).mono ?_; rintro e w5 ⟨v', rfl, hR, hM⟩; replace HM1 := Hold.mk (HM1.out.trans hM); obtain ⟨g, cap, rfl, hgl, hgc⟩ := (rows_slice hR).2 (by simp); obtain ⟨u0, c0, i0⟩ := hgc 0 la rfl; have HI0 := Hold.mk i0; clear hR hM p0 p1 p2 p3 p4 hpl hgc i0)
                rw [HE.out]
                go_ret3
                exact ⟨_, _, rfl, HI0.out, intV_nil _, HM1.out⟩
              · go_wp2_with (go_at_call 67; refine (HCALL.out _ HM1.out).mono ?_; rintro e w5 ⟨v', rfl, hR, hM⟩; replace HM1 := Hold.mk (HM1.out.trans hM); obtain ⟨g, cap, rfl, hgl, hgc⟩ := (rows_slice hR).2 (by simp); obtain ⟨u0, c0, i0⟩ := hgc 0 la rfl; obtain ⟨u1, c1, i1⟩ := hgc 1 lb rfl; have HI0 := Hold.mk (And.intro i0 i1); clear hR hM p0 p1 p2 p3 p4 hpl hgc i0 i1)
                go_region
                go_wp2_with fail
                rw [HE.out]
                go_ret3
                exact ⟨_, _, rfl, HI0.out.1.mod ((Mod.refl noB _).drew), HI0.out.2.mod ((Mod.refl noB _).drew), HM1.out.drew⟩

theorem app_left {B : Nat} {W W2 : World} {v1 v2 v' : Value} {n1 n2 : Nat} {xs1 xs2 : List Value} (h1 : W.ownsRow B 3 1 v1 n1 xs1) (h2 : W.ownsRow B 3 1 v2 n2 xs2) (hd : ∀ r, v1.ownBlock = some r → v2.ownBlock ≠ some r) (hg : W.grownBy W2 v1.ownBlock)
    (hs : v'.ownBlock = v1.ownBlock ∨ v'.ownBlock = some W.heap.size) : W2.ownsRow B 3 1 v2 n2 xs2 ∧ (∀ r, v'.ownBlock = some r → v2.ownBlock ≠ some r) := by
  have hm : Mod (fun b => v1.ownBlock = some b) W W2 := Mod.of_grownBy hg (fun r hr _ => hr)
  constructor
  · obtain ⟨e1, e2 | ⟨g, cap, cur, hv, hb, hh, hr⟩⟩ := h2
    · exact ⟨e1, .inl e2⟩
    · refine ⟨e1, .inr ⟨g, cap, cur, hv, hb, ?_, hr⟩⟩
      exact hm.at hh fun e => hd g e (by rw [hv]; rfl)
  · intro r hr hr2
    rcases hs with hs | hs
    · rw [hs] at hr; exact hd r hr hr2
    · rw [hs] at hr
      have := own_lt h2 hr2
      have : W.heap.size = r := by simpa using hr
      omega

/-- What came in lies in two blocks. -/
def MK (p : Ply) (s : Edg) (w w' : World) : Prop := (Mod noB w w' ∧ w'.heap[w.heap.size]? = some (.cells (plC p) 25)) ∧ w'.heap[w.heap.size + 1]? = some (.cells (edC s) 27)
theorem mk_kept (p : Ply) (s : Edg) (w : World) : Kept ((w.alloc (.cells (plC p) 25)).alloc (.cells (edC s) 27)) (MK p s w) := fun w' h => by
  rw [allocL2] at h
  exact ⟨⟨(allocL_mod noB _ w).trans h, at_allocL _ h 0 _ rfl⟩, at_allocL _ h 1 _ rfl⟩

set_option maxHeartbeats 4000000 in
theorem refMatches_err (p : Ply) (s : Edg) (l : List Edg) (ao : Option Addr) (cap : Nat) (w : World) (bp bs bl : Bool) (er : Int) (hn : l.length ≤ 9223372036854775807) (hc : (bp = false ∧ er = 1) ∨ (bp = true ∧ bs = false ∧ er = 1) ∨ (bp = true ∧ bs = true ∧ bl = false ∧ er = 1) ∨ (bp = true ∧ bs = true ∧ bl = true ∧ 40 < l.length ∧ er = 3))
    (HP : Hold (∀ w, Calls Try.prog 35 #[plV p] w fun r w' => r = .returned (.bool bp) ∧ Mod noB w w')) (HS : Hold (∀ w, Calls Try.prog 36 #[edV s] w fun r w' => r = .returned (.bool bs) ∧ Mod noB w w'))
    (HL : Hold (∀ w', Mod noB w w' → Calls Try.prog 64 #[.slice ao l.length cap] w' fun e w2 => e = .returned (.bool bl) ∧ Mod noB w' w2)) :
    Calls Try.prog 25 #[plV p, edV s, .slice ao l.length cap] w (TwoR [] [] er w) := by
  have HF := Hold.mk (mk_kept p s w)
  rcases hc with ⟨rfl, rfl⟩ | ⟨rfl, rfl, rfl⟩ | ⟨rfl, rfl, rfl, rfl⟩ | ⟨rfl, rfl, rfl, h40, rfl⟩
  all_goals
    go_enter Try.func25, Try.ntmps25
    go_wp2_with (first
      | (go_at_call 35; refine (HP.out _).mono ?_; rintro e w1 ⟨rfl, hM⟩; replace HF := Hold.mk (HF.out.later hM); obtain ⟨s0, s1, s2, s3, s4, s5, s6⟩ := EdgeAt.of HF.out.now.2; have hs := at_ltQ HF.out.now.2; clear hM)
      | (go_at_call 36; refine (HS.out _).mono ?_; rintro e w2 ⟨rfl, hM⟩; clear s0 s1 s2 s3 s4 s5 s6 hs; replace HF := Hold.mk (HF.out.later hM); clear hM)
      | (go_at_call 64; refine (HL.out _ HF.out.now.1.1).mono ?_; rintro e w3 ⟨rfl, hM⟩; replace HF := Hold.mk (HF.out.later hM); clear hM))
    go_ret3
    exact twoR_nil HF.out.now.1.1

set_option maxRecDepth 100000 in
set_option maxHeartbeats 16000000 in
theorem refMatches_ok (p : Ply) (s : Edg) (l : List Edg) (ao : Option Addr) (cap : Nat) (w : World) (hl : EdgesAt w ao l) (hp : playB p = true) (hs : sideB s = true) (hls : sidesB l = true) (h40 : l.length ≤ 40) :
    Calls Try.prog 25 #[plV p, edV s, .slice ao l.length cap] w (TwoR (indicesR surely (foundL p s l)) (indicesR maybe (foundL p s l)) 0 w) := by
  have HP : Hold (∀ w, Calls Try.prog 35 #[plV p] w fun r w' => r = .returned (.bool true) ∧ Mod noB w w') := ⟨fun w => by have := refPlay_any p w; rw [hp] at this; exact this⟩
  have HS : Hold (∀ w, Calls Try.prog 36 #[edV s] w fun r w' => r = .returned (.bool true) ∧ Mod noB w w') := ⟨fun w => by have := refSide_any s w; rw [hs] at this; exact this⟩
  have HL : Hold (∀ w', Mod noB w w' → Calls Try.prog 64 #[.slice ao l.length cap] w' fun e w2 => e = .returned (.bool true) ∧ Mod noB w' w2) := ⟨fun w' h => by have := refSides_any ao l cap w' (hl.mod h); rw [hls] at this; exact this⟩
  have HE := Hold.mk hl
  have HV := Hold.mk (And.intro hp (And.intro hs hls))
  obtain ⟨i0, hi, hz0, hz1, hz2⟩ := info_parts info3
  have HF := Hold.mk (mk_kept p s w)
  clear hl hp hs hls
  go_enter Try.func25, Try.ntmps25
  go_wp2_with (first
    | (go_at_call 35; refine (HP.out _).mono ?_; rintro e w1 ⟨rfl, hM⟩; replace HF := Hold.mk (HF.out.later hM); obtain ⟨s0, s1, s2, s3, s4, s5, s6⟩ := EdgeAt.of HF.out.now.2; have hs := at_ltQ HF.out.now.2; clear hM)
    | (go_at_call 36; refine (HS.out _).mono ?_; rintro e w2 ⟨rfl, hM⟩; clear s0 s1 s2 s3 s4 s5 s6 hs; replace HF := Hold.mk (HF.out.later hM); clear hM)
    | (go_at_call 64; refine (HL.out _ HF.out.now.1.1).mono ?_; rintro e w3 ⟨rfl, hM⟩; replace HF := Hold.mk (HF.out.later hM); clear hM))
  go_loopw [9, 10, 11] (fun v1 v2 i wr => ∃ k : Nat, k ≤ l.length ∧ i = .int .i64 k ∧ Hold (wr.ownsRow w3.heap.size 3 1 v1 (indicesTo surely (foundL p s l) k).length ((indicesTo surely (foundL p s l) k).map (Value.int .i64)) ∧ wr.ownsRow w3.heap.size 3 1 v2 (indicesTo maybe (foundL p s l) k).length ((indicesTo maybe (foundL p s l) k).map (Value.int .i64)) ∧ (∀ r, v1.ownBlock = some r → v2.ownBlock ≠ some r) ∧ Mod noB w3 wr)) (fun _ _ i _ => l.length - (intOf i).toNat)
  case atStart => exact ⟨0, Nat.zero_le _, rfl, ⟨World.ownsRow_nil _ _ _ _, World.ownsRow_nil _ _ _ _, fun r hr => (by cases hr), Mod.refl _ _⟩⟩
  case round =>
    obtain ⟨k, hk, rfl, H0⟩ := hrel
    by_cases hlt : k < l.length
    · obtain ⟨x, hx⟩ : ∃ x, l[k]? = some x := ⟨_, List.getElem?_eq_getElem hlt⟩
      have hsx : sideB x = true := List.all_eq_true.1 HV.out.2.2 x (List.mem_of_getElem? hx)
      obtain ⟨b2, o2, rfl, hb2, hc2⟩ := (HE.out.mod (HF.out.later H0.out.2.2.2).now.1.1).lies (fun e => by simp [e] at hlt)
      have hx1 := hc2 _ x hx
      have HXC : Hold (∀ W', Mod noB wr W' → EdgeAt W' b2 (o2 + k * 7) x) := ⟨fun W' h => hx1.same (h.block b2 hb2 id)⟩
      have HP2 : Hold (∀ W', Mod noB wr W' → W'.heap[w.heap.size]? = some (.cells (plC p) 25) ∧ W'.heap[w.heap.size + 1]? = some (.cells (edC s) 27)) := ⟨fun W' h => by have := (HF.out.later (H0.out.2.2.2.trans h)).now; exact ⟨this.1.2, this.2⟩⟩
      have HFT0 := Hold.mk (fun w => ref49_any p s x w HV.out.1 HV.out.2.1 hsx)
      have HX := Hold.mk hx
      obtain ⟨F, hF⟩ : ∃ F, F = fitR p s x := ⟨_, rfl⟩
      rw [← hF] at HFT0
      have HFv : Hold ((foundL p s l)[k]?.getD 0 = F) := ⟨by rw [hF]; exact foundK hx⟩
      have hz : F = 0 ∨ F = 1 ∨ F = 2 := by rw [hF]; exact fitR_zot p s x
      clear hc2 hx1 hx hF
      have HFT := HFT0
      clear HFT0
      go_upto_region 9 with fail
      refine region_quietP (by kernel_rfl) (by kernel_rfl) (fun W' => Mod noB wr W') ((Mod.refl _ _).drew) ?_
      repeat
        (first
          | go_big_quiet_skip
          | (go_big_quiet_want
             go_simp
             first
               | go_big_quiet_on
               | (apply Exists.intro
                  refine ⟨fun W' hC => ?_, ?_⟩
                  · obtain ⟨p0, p1, p2, p3, p4⟩ := PlayAt.of (HP2.out W' hC).1
                    obtain ⟨t0, t1, t2, t3, t4, t5, t6⟩ := EdgeAt.of (HP2.out W' hC).2
                    obtain ⟨x0, x1, x2, x3, x4, x5, x6⟩ := (HXC.out W' hC)
                    first
                      | (go_at_call 49; (with_reducible refine (HFT.out _).mono ?_); exact fun e w'' he => ⟨he.1, hC.trans he.2⟩)
                      | with_reducible rfl
                      | (go_simp; first | rfl | exact ⟨rfl, rfl⟩)
                  go_big_quiet_on)
               | (refine ⟨⟨_, fun _ _ => rfl⟩, ?_⟩; go_big_quiet_on)))
      refine wpQuiet_nil ?_
      intro Wq hq
      have HQ := Hold.mk hq
      clear hq
      have l1 := indicesTo_len surely (foundL p s l) k
      have l2 := indicesTo_len maybe (foundL p s l) k
      have hqz := HQ.out.size
      have h3z := H0.out.2.2.2.size
      have HO : Hold (Wq.ownsRow w3.heap.size 3 1 u9 (indicesTo surely (foundL p s l) k).length ((indicesTo surely (foundL p s l) k).map (Value.int .i64)) ∧ Wq.ownsRow w3.heap.size 3 1 u10 (indicesTo maybe (foundL p s l) k).length ((indicesTo maybe (foundL p s l) k).map (Value.int .i64)) ∧ (∀ r, u9.ownBlock = some r → u10.ownBlock ≠ some r) ∧ Mod noB w3 Wq) := ⟨own_mod H0.out.1 HQ.out, own_mod H0.out.2.1 HQ.out, H0.out.2.2.1, H0.out.2.2.2.trans HQ.out⟩
      clear H0
      rcases hz with rfl | rfl | rfl
      · have e1 := Hold.mk (indicesTo_no (f := surely) (L := foundL p s l) (k := k) (by rw [HFv.out]; rfl))
        have e2 := Hold.mk (indicesTo_no (f := maybe) (L := foundL p s l) (k := k) (by rw [HFv.out]; rfl))
        go_wp2_with fail
        go_roundw
        case rel => exact ⟨k + 1, by omega, by go_num, ⟨by rw [e1.out, e2.out]; exact HO.out⟩⟩
        case measure => simp [intOf]; omega
      · have e1 := Hold.mk (indicesTo_no (f := surely) (L := foundL p s l) (k := k) (by rw [HFv.out]; rfl))
        have e2 := Hold.mk (indicesTo_yes (f := maybe) (L := foundL p s l) (k := k) (by rw [HFv.out]; rfl))
        go_wp2_with (at_builtin; refine wpList_append_own_at _ rfl (.tmp 50) (.tmp 52) 43 rfl w3.heap.size 3 i0 (.int .i64 0) 1 8 Try.underlying43 hi hz0 hz1 hz2 rfl (by decide) _ _ _ rfl (HO.out.2.1.alloc _) ⟨Wq.heap.size, 0, none⟩ 1 1 [.int .i64 k] rfl rfl (one_cell _ _) (by simp [Value.oneCell']) (by unfold maxLen; omega) (by omega) (by simp; omega) ?_; intro v' wa hown' hgr _ hsm; have HW := Hold.mk (And.intro hown' (And.intro hgr hsm)); clear hown' hgr hsm)
        go_roundw
        case rel =>
          obtain ⟨hown', hgr, hsm⟩ := HW.out
          obtain ⟨g1, g2⟩ := app_left (HO.out.2.1.alloc _) (HO.out.1.alloc _) (fun r h1 h2 => HO.out.2.2.1 r h2 h1) hgr hsm
          refine ⟨k + 1, by omega, by go_num, ⟨?_⟩⟩
          rw [e1.out, e2.out]
          refine ⟨g1, by rw [List.length_append, List.length_singleton, List.map_append]; exact hown', fun r h1 h2 => g2 r h2 h1, (HO.out.2.2.2.trans ((Mod.refl noB Wq).alloc _)).then (Mod.of_grownBy hgr (fun r hr _ => hr)) fun i h1 h2 => ?_⟩
          have := own_ge HO.out.2.1 h2
          omega
        case measure => simp [intOf]; omega
      · have e1 := Hold.mk (indicesTo_yes (f := surely) (L := foundL p s l) (k := k) (by rw [HFv.out]; rfl))
        have e2 := Hold.mk (indicesTo_yes (f := maybe) (L := foundL p s l) (k := k) (by rw [HFv.out]; rfl))
        have K0 := Hold.mk trivial
        go_wp2_with (first
          | (at_builtin; have Kx := K0; refine wpList_append_own_at _ rfl (.tmp 44) (.tmp 46) 43 rfl w3.heap.size 3 i0 (.int .i64 0) 1 8 Try.underlying43 hi hz0 hz1 hz2 rfl (by decide) _ _ _ rfl (HO.out.1.alloc _) ⟨Wq.heap.size, 0, none⟩ 1 1 [.int .i64 k] rfl rfl (one_cell _ _) (by simp [Value.oneCell']) (by unfold maxLen; omega) (by omega) (by simp; omega) ?_; intro v1' wa hown1 hgr1 _ hsm1; have HW1 := Hold.mk (And.intro hown1 (And.intro hgr1 hsm1)); have HR := Hold.mk (app_left (HO.out.1.alloc _) (HO.out.2.1.alloc _) HO.out.2.2.1 hgr1 hsm1); have hwz := (Mod.of_grownBy (T := fun b => u9.ownBlock = some b) hgr1 (fun r hr _ => hr)).size; rw [World.size_alloc] at hwz; clear hown1 hgr1 hsm1 K0 Kx)
          | (at_builtin; refine wpList_append_own_at _ rfl (.tmp 50) (.tmp 52) 43 rfl w3.heap.size 3 i0 (.int .i64 0) 1 8 Try.underlying43 hi hz0 hz1 hz2 rfl (by decide) _ _ _ rfl (HR.out.1.alloc _) ⟨wa.heap.size, 0, none⟩ 1 1 [.int .i64 k] rfl rfl (one_cell _ _) (by simp [Value.oneCell']) (by unfold maxLen; omega) (by omega) (by simp; omega) ?_; intro v2' wb hown2 hgr2 _ hsm2; have HW2 := Hold.mk (And.intro hown2 (And.intro hgr2 hsm2)); clear hown2 hgr2 hsm2))
        go_roundw
        case rel =>
          obtain ⟨hown1, hgr1, hsm1⟩ := HW1.out
          obtain ⟨hown2, hgr2, hsm2⟩ := HW2.out
          obtain ⟨g1, g2⟩ := app_left (HR.out.1.alloc _) (hown1.alloc _) (fun r h1 h2 => HR.out.2 r h2 h1) hgr2 hsm2
          have m1 : Mod noB w3 wa := (HO.out.2.2.2.trans ((Mod.refl noB Wq).alloc _)).then (Mod.of_grownBy (T := fun b => u9.ownBlock = some b) hgr1 (fun r hr _ => hr)) fun i h1 h2 => by
            have := own_ge HO.out.1 h2
            omega
          refine ⟨k + 1, by omega, by go_num, ⟨?_⟩⟩
          rw [e1.out, e2.out]
          refine ⟨by rw [List.length_append, List.length_singleton, List.map_append]; exact g1, by rw [List.length_append, List.length_singleton, List.map_append]; exact hown2, fun r h1 h2 => g2 r h2 h1, (m1.trans ((Mod.refl noB wa).alloc _)).then (Mod.of_grownBy (T := fun b => u10.ownBlock = some b) hgr2 (fun r hr _ => hr)) fun i h1 h2 => ?_⟩
          have := own_ge HR.out.1 h2
          omega
        case measure => simp [intOf]; omega
    · obtain rfl : k = l.length := by omega
      go_wp2_with fail
      go_ret3
      refine ⟨_, _, rfl, ?_, ?_, (HF.out.later H0.out.2.2.2).now.1.1⟩
      · have := own_mono H0.out.1 (Nat.zero_le _)
        rw [← foundL_len p s l] at this
        exact this
      · have := own_mono H0.out.2.1 (Nat.zero_le _)
        rw [← foundL_len p s l] at this
        exact this
end Go.Proofs.Ytnjbamikfjdofaa

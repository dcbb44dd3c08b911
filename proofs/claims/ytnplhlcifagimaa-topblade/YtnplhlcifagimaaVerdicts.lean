/- verdicts: whether each side of a list fits a side. -/
import Derived.Test.YtnplhlcifagimaaLists
import Derived.Test.YtnplhlcifagimaaDiffs
import Derived.Deep.LoopGhost
import Derived.WalkMore
set_option linter.unusedSimpArgs false
set_option linter.unusedVariables false
namespace Go.Proofs.Ytnplhlcifagimaa
open Go.RowKit

def v1R (p : Ply) (t h : Edg) : Int := verdictR (offR t h p.len) (-p.slack) p.slack p.damp
def v2R (p : Ply) (t h : Edg) : Int := verdictR (wideR t h) 0 p.loose p.damp
def v3R (p : Ply) (t h : Edg) : Int := verdictR (deepR t h) 0 p.loose p.damp
def least3 (a b c : Int) : Int := if a = 0 ∨ b = 0 ∨ c = 0 then 0 else if a = 2 ∧ b = 2 ∧ c = 2 then 2 else 1
/-- What Fit returns for valid sides. -/
def fitR (p : Ply) (a b : Edg) : Int :=
  if (orderedR a b).2 then least3 (v1R p (orderedR a b).1.1 (orderedR a b).1.2) (v2R p (orderedR a b).1.1 (orderedR a b).1.2) (v3R p (orderedR a b).1.1 (orderedR a b).1.2) else 0

theorem verdictR_of (s : Int × Int) (lo hi : Int) (d : Int × Int) : verdictR s lo hi d = 0 ∨ verdictR s lo hi d = 1 ∨ verdictR s lo hi d = 2 := by
  unfold verdictR
  split
  · exact .inr (.inr rfl)
  · split
    · exact .inr (.inl rfl)
    · exact .inl rfl

theorem within_small {s : Int × Int} {lo hi m : Int} (h : withinB s lo hi = true) (h1 : -m ≤ lo) (h2 : hi ≤ m) : Small m s := by
  simp only [withinB, Bool.and_eq_true, decide_eq_true_eq] at h
  obtain ⟨⟨a, b⟩, c⟩ := h
  exact ⟨⟨by omega, by omega⟩, by omega, by omega⟩
theorem side_small {e : Edg} (h : sideB e = true) (hk : e.k ≠ 0) : ESmall 1000000 e := by
  simp only [sideB, Bool.or_eq_true, Bool.and_eq_true, beq_iff_eq] at h
  rcases h with h | ⟨_, ⟨h1, h2⟩, h3⟩
  · exact absurd h hk
  · exact ⟨within_small h1 (by omega) (by omega), within_small h2 (by omega) (by omega), within_small h3 (by omega) (by omega)⟩
theorem ordered_small {a b : Edg} (ha : sideB a = true) (hb : sideB b = true) (h : (orderedR a b).2 = true) : ESmall 1000000 (orderedR a b).1.1 ∧ ESmall 1000000 (orderedR a b).1.2 := by
  unfold orderedR at *
  split at h
  · rename_i k
    rw [if_pos k]
    simp only [beq_iff_eq] at h
    exact ⟨side_small hb (by show b.k ≠ 0; omega), side_small ha (by show a.k ≠ 0; omega)⟩
  · rename_i k
    rw [if_neg k]
    simp only [Bool.and_eq_true, beq_iff_eq] at h
    exact ⟨side_small ha (by show a.k ≠ 0; omega), side_small hb (by show b.k ≠ 0; omega)⟩
theorem play_small {p : Ply} (h : playB p = true) : PSmall p := by
  simp only [playB, Bool.and_eq_true, decide_eq_true_eq] at h
  obtain ⟨⟨⟨⟨⟨⟨h1, h2⟩, h3⟩, h4⟩, h5⟩, h6⟩, h7⟩ := h
  exact ⟨by omega, by omega, by omega, by omega, by omega, by omega, within_small h7 (by omega) (by omega)⟩

theorem play_len {p : Ply} (h : playB p = true) : Small 1000000 (p.len, p.len) := by
  simp only [playB, Bool.and_eq_true, decide_eq_true_eq] at h
  obtain ⟨⟨⟨⟨⟨⟨h1, h2⟩, h3⟩, h4⟩, h5⟩, h6⟩, h7⟩ := h
  exact ⟨⟨by show -1000000 ≤ p.len; omega, by show p.len ≤ 1000000; omega⟩, by show -1000000 ≤ p.len; omega, by show p.len ≤ 1000000; omega⟩

/-- What the list holds when so many sides have been looked at. -/
def foundTo (p : Ply) (s : Edg) (es : List Edg) (k : Nat) : Nat → Value := fun j => if j < k then .int .i64 (fitR p s (es[j]?.getD ⟨0, (0, 0), (0, 0), (0, 0)⟩)) else .int .i64 0
theorem foundTo_set {p : Ply} {s : Edg} {es : List Edg} {k : Nat} {x : Edg} {v : Int} (hx : es[k]? = some x) (hv : fitR p s x = v) : (fun j => if j = k then Value.int .i64 v else foundTo p s es k j) = foundTo p s es (k + 1) := by
  funext j
  unfold foundTo
  by_cases h : j = k
  · subst h; rw [if_pos rfl, if_pos (by omega), hx, Option.getD_some, hv]
  · rw [if_neg h]
    by_cases h2 : j < k
    · rw [if_pos h2, if_pos (by omega)]
    · rw [if_neg h2, if_neg (by omega)]
theorem foundTo_skip {p : Ply} {s : Edg} {es : List Edg} {k : Nat} {x : Edg} (hx : es[k]? = some x) (hv : fitR p s x = 0) : foundTo p s es k = foundTo p s es (k + 1) := by
  rw [← foundTo_set hx hv]
  funext j
  by_cases h : j = k
  · subst h; simp [foundTo]
  · rw [if_neg h]
def seen3 (a b c : Int) : Nat → Int
  | 0 => 2
  | 1 => a
  | 2 => if a = 2 ∧ b = 2 then 2 else 1
  | _ => if a = 2 ∧ b = 2 ∧ c = 2 then 2 else 1
structure PlayAt (w : World) (b : Nat) (p : Ply) : Prop where
  c0 : w.cell? ⟨b, 0, none⟩ = some (.int .i64 p.len)
  c1 : w.cell? ⟨b, 1, none⟩ = some (.int .i64 p.slack)
  c2 : w.cell? ⟨b, 2, none⟩ = some (.int .i64 p.loose)
  c3 : w.cell? ⟨b, 3, none⟩ = some (.int .i64 p.damp.1)
  c4 : w.cell? ⟨b, 4, none⟩ = some (.int .i64 p.damp.2)
theorem PlayAt.of {w : World} {b : Nat} {p : Ply} {T : TypeId} (hb : w.heap[b]? = some (.cells (plC p) T)) : PlayAt w b p := by
  constructor <;> simp [World.cell?, hb]
theorem meth126 (v : Value) (w : World) : Sem.run Try.prog (method 201 76 v "jigworks/fit.fits") w = .ok (55, v) w := by kernel_rfl
theorem meth127 (v : Value) (w : World) : Sem.run Try.prog (method 201 78 v "jigworks/fit.fits") w = .ok (58, v) w := by kernel_rfl
theorem meth128 (v : Value) (w : World) : Sem.run Try.prog (method 201 80 v "jigworks/fit.fits") w = .ok (59, v) w := by kernel_rfl

/-- The blocks of verdicts between two rounds. -/
structure VInv (p : Ply) (s : Edg) (es : List Edg) (w : World) (k : Nat) (wr : World) : Prop where
  bp : wr.heap[w.heap.size]? = some (.cells (plC p) 34)
  bs : wr.heap[w.heap.size + 1]? = some (.cells (edC s) 36)
  f : wr.heap[w.heap.size + 1 + 1]? = some (.cells (fcells es.length (foundTo p s es k)) 3)
  m : Mod noB w wr
theorem VInv.mod {p : Ply} {s : Edg} {es : List Edg} {w : World} {k : Nat} {wr w' : World} (h : VInv p s es w k wr) (hm : Mod noB wr w') : VInv p s es w k w' := ⟨hm.at h.bp id, hm.at h.bs id, hm.at h.f id, h.m.trans hm⟩

theorem VInv.skip {p : Ply} {s : Edg} {es : List Edg} {w : World} {k : Nat} {wr : World} (h : VInv p s es w k wr) {x : Edg} (hx : es[k]? = some x) (hv : fitR p s x = 0) : VInv p s es w (k + 1) wr :=
  ⟨h.bp, h.bs, by rw [← foundTo_skip hx hv]; exact h.f, h.m⟩
theorem VInv.set {p : Ply} {s : Edg} {es : List Edg} {w : World} {k : Nat} {wr : World} (h : VInv p s es w k wr) {x : Edg} {v : Int} (hx : es[k]? = some x) (hv : fitR p s x = v) : VInv p s es w (k + 1) (wr.setCell ⟨w.heap.size + 1 + 1, k, none⟩ (.int .i64 v)) := by
  have hm : Mod (fun b => b = w.heap.size + 1 + 1) wr (wr.setCell ⟨w.heap.size + 1 + 1, k, none⟩ (.int .i64 v)) := (Mod.refl (fun b => b = w.heap.size + 1 + 1) wr).setCell (p := ⟨w.heap.size + 1 + 1, k, none⟩) (fun _ => rfl) _
  refine ⟨hm.at h.bp (by omega), hm.at h.bs (by omega), ?_, h.m.then hm (fun i h1 h2 => by omega)⟩
  rw [fcells_store h.f, foundTo_set hx hv]

theorem full_row {w : World} {base n : Nat} {v : Value} {xs : List Value} {g : Nat} (h : w.ownsRow base 3 1 v n xs) (hv : v = .slice (some ⟨g, 0, none⟩) n n) : w.heap[g]? = some (.cells xs.toArray 3) := by
  obtain ⟨hl, ⟨rfl, _⟩ | ⟨g', cap, cur, rfl, hb, hg, h1, h4, h2, h3⟩⟩ := h
  · cases hv
  · cases hv
    have : cur.toList = xs := by
      rw [← h3, List.take_of_length_le]
      simp
      omega
    rw [hg, ← this]

theorem made_zero (p : Ply) (s : Edg) (es : List Edg) (n : Nat) : (madeCells (Value.int .i64 0).cells (n * 1)).toList.toArray = fcells n (foundTo p s es 0) := by
  rw [show (Value.int .i64 0).cells = #[Value.int .i64 0] from rfl, toList_madeCells_one]
  have e : foundTo p s es 0 = fun _ => Value.int .i64 0 := by funext j; simp [foundTo]
  rw [e, fcells, List.map_const', List.length_range, Nat.mul_one]

set_option maxRecDepth 100000 in
set_option maxHeartbeats 4000000 in
theorem verdicts_any (p : Ply) (s : Edg) (es : List Edg) (ao : Option Addr) (cap : Nat) (w : World) (hp : playB p = true) (hs : sideB s = true) (hes : ∀ e ∈ es, sideB e = true) (hl : EdgesAt w ao es) (hn : es.length ≤ 1000) :
    Calls Try.prog 17 #[plV p, edV s, .slice ao es.length cap] w fun e w' => ∃ b, w.heap.size ≤ b ∧ e = .returned (.slice (some ⟨b, 0, none⟩) es.length es.length) ∧
      w'.heap[b]? = some (.cells (fcells es.length (foundTo p s es es.length)) 3) ∧ Mod noB w w' := by
  obtain ⟨i0, hi, hz0, hz1, hz2⟩ := info_parts info3
  have HP := Hold.mk (play_small hp)
  have HPL := Hold.mk (play_len hp)
  have HS := Hold.mk hs
  have HES := Hold.mk hes
  have HL := Hold.mk hl
  clear hp hs hes hl
  go_enter Try.func17, Try.ntmps17
  go_wp2
  go_step3
  go_wp2_with (refine wpList_make_full _ rfl (.tmp 17) (.tmp 17) 51 rfl w.heap.size 3 i0 (.int .i64 0) 1 Try.underlying51 hi hz0 hz1 .i64 .i64 _ _ es.length rfl rfl rfl rfl (by rw [hz2]; omega) (by unfold maxLen; omega) (by simp; omega) ?_; intro wm hm hgm; have HG := Hold.mk (And.intro hm hgm); clear hm hgm)
  have HI : Hold (VInv p s es w 0 wm) := ⟨by
    obtain ⟨hm, hgm⟩ := HG.out
    have hM : Mod noB ((w.alloc (.cells (plC p) 34)).alloc (.cells (edC s) 36)) wm := Mod.of_grownBy hgm (fun r hr _ => by cases hr)
    have hb0 : ((w.alloc (.cells (plC p) 34)).alloc (.cells (edC s) 36)).heap[w.heap.size]? = some (.cells (plC p) 34) := by rw [Below.heap_alloc _ _ _ (by simp)]; exact World.alloc_heap_new _ _
    have hb1 : ((w.alloc (.cells (plC p) 34)).alloc (.cells (edC s) 36)).heap[w.heap.size + 1]? = some (.cells (edC s) 36) := by have := World.alloc_heap_new (w.alloc (.cells (plC p) 34)) (.cells (edC s) 36); simpa using this
    refine ⟨hM.at hb0 id, hM.at hb1 id, ?_, Mod.trans (((Mod.refl noB w).alloc (.cells (plC p) 34)).alloc (.cells (edC s) 36)) hM⟩
    rw [full_row hm (g := w.heap.size + 1 + 1) (by simp)]
    rw [made_zero]⟩
  clear HG
  go_step3
  go_wp2
  go_loopg [21] es.length (fun g i wr => ∃ k : Nat, k + g = es.length ∧ i = .int .i64 k ∧ VInv p s es w k wr)
  case atStart => exact ⟨0, by omega, rfl, HI.out⟩
  case round =>
    obtain ⟨k, hk, rfl, hI⟩ := hrel
    have HI := Hold.mk hI
    clear hI
    cases gk with
    | zero =>
      obtain rfl : k = es.length := by omega
      go_wp2
      try rw [Exit.noGoto_ret]
      go_ret
      exact ⟨_, by omega, rfl, HI.out.f, HI.out.m⟩
    | succ g =>
      have hlt : k < es.length := by omega
      obtain ⟨b, off, rfl, _, hc⟩ := (HL.out.mod HI.out.m).lies (fun e => by simp [e] at hlt)
      obtain ⟨z, hz⟩ : ∃ z, es[k]? = some z := ⟨_, List.getElem?_eq_getElem hlt⟩
      obtain ⟨q0, q1, q2, q3, q4, q5, q6⟩ := hc k z hz
      have HZ := Hold.mk hz
      have HSZ := Hold.mk (HES.out z (List.mem_of_getElem? hz))
      clear hc hz
      obtain ⟨s0, s1, s2, s3, s4, s5, s6⟩ := EdgeAt.of HI.out.bs
      obtain ⟨p0, p1, p2, p3, p4⟩ := PlayAt.of HI.out.bp
      have hz2 : w.heap.size + 1 + 1 < wr.heap.size := (Array.getElem?_eq_some_iff.1 HI.out.f).1
      have hz1 : w.heap.size + 1 < wr.heap.size := by omega
      have hz0 : w.heap.size < wr.heap.size := by omega
      have HO := Hold.mk (fun w => ordered_any s z w)
      have HOS := Hold.mk (fun h => ordered_small HS.out HSZ.out h)
      have HFR : Hold (fitR p s z = if (orderedR s z).2 then least3 (v1R p (orderedR s z).1.1 (orderedR s z).1.2) (v2R p (orderedR s z).1.1 (orderedR s z).1.2) (v3R p (orderedR s z).1.1 (orderedR s z).1.2) else 0) := ⟨rfl⟩
      generalize orderedR s z = oo at *
      obtain ⟨⟨t, h⟩, ok⟩ := oo
      cases ok with
      | false =>
        go_wp2_with (go_at_call 28; refine (HO.out _).mono ?_; rintro e w1 ⟨rfl, hM1⟩; have HM1 := Hold.mk hM1; clear hM1)
        go_roundg g
        case measure => omega
        case rel => exact ⟨k + 1, by omega, by go_num, (HI.out.mod ((((Mod.refl noB wr).alloc _).trans HM1.out).alloc _)).skip HZ.out (by rw [HFR.out]; rfl)⟩
      | true =>
        have HDF := Hold.mk (fun w => differences_any t h p w (HOS.out rfl).1 (HOS.out rfl).2 HP.out)
        have hob := (HOS.out rfl)
        have hFO := fun w => fitsOff_any (offR t h p.len) p w ((lessR_small (plusR_small hob.1.1 hob.2.1) HPL.out).le (by omega)) HP.out
        have hFW := fun w => fitsWide_any (wideR t h) p w ((lessR_small hob.2.2.1 hob.1.2.1).le (by omega)) HP.out
        have hFD := fun w => fitsDeep_any (deepR t h) p w ((lessR_small hob.2.2.2 hob.1.2.2).le (by omega)) HP.out
        have hv1 : v1R p t h = 0 ∨ v1R p t h = 1 ∨ v1R p t h = 2 := verdictR_of _ _ _ _
        have hv2 : v2R p t h = 0 ∨ v2R p t h = 1 ∨ v2R p t h = 2 := verdictR_of _ _ _ _
        have hv3 : v3R p t h = 0 ∨ v3R p t h = 1 ∨ v3R p t h = 2 := verdictR_of _ _ _ _
        change ∀ w, Calls Try.prog 55 #[spV (offR t h p.len), plV p] w fun e w' => e = .returned (.int .i64 (v1R p t h)) ∧ Mod noB w w' at hFO
        change ∀ w, Calls Try.prog 58 #[spV (wideR t h), plV p] w fun e w' => e = .returned (.int .i64 (v2R p t h)) ∧ Mod noB w w' at hFW
        change ∀ w, Calls Try.prog 59 #[spV (deepR t h), plV p] w fun e w' => e = .returned (.int .i64 (v3R p t h)) ∧ Mod noB w w' at hFD
        have HFO := Hold.mk hFO
        have HFW := Hold.mk hFW
        have HFD := Hold.mk hFD
        rw [if_pos rfl] at HFR
        generalize v1R p t h = v1 at *
        generalize v2R p t h = v2 at *
        generalize v3R p t h = v3 at *
        have HV := Hold.mk (And.intro hv1 (And.intro hv2 hv3))
        clear hFO hFW hFD hv1 hv2 hv3 hob HOS
        generalize offR t h p.len = d1 at *
        generalize wideR t h = d2 at *
        generalize deepR t h = d3 at *
        go_wp2_with (first
          | (go_at_call 28; refine (HO.out _).mono ?_; rintro e w1 ⟨rfl, hM1⟩
             have hI1 := HI.out.mod (((Mod.refl noB wr).alloc _).trans hM1)
             clear p0 p1 p2 p3 p4
             obtain ⟨p0, p1, p2, p3, p4⟩ := PlayAt.of hI1.bp
             have hz1' : w.heap.size < w1.heap.size := (Array.getElem?_eq_some_iff.1 hI1.bp).1
             have HI1 := Hold.mk hI1
             clear hM1 hI1)
          | (go_at_call 29; refine (HDF.out _).mono ?_; rintro e w2 ⟨bd, hbd, rfl, hcd, hM2⟩
             have HI2 := Hold.mk (HI1.out.mod (((Mod.refl noB w1).alloc _).trans hM2))
             have HCD := Hold.mk hcd
             clear hM2 hcd p0 p1 p2 p3 p4))
        clear q0 q1 q2 q3 q4 q5 q6 s0 s1 s2 s3 s4 s5 s6
        go_loopg [12, 38] 3 (fun g2 s12 s38 wy => ∃ j : Nat, j + g2 = 3 ∧ s38 = .int .i64 j ∧ s12 = .int .i64 (seen3 v1 v2 v3 j) ∧ Hold ((0 < j → v1 ≠ 0) ∧ (1 < j → v2 ≠ 0) ∧ (2 < j → v3 ≠ 0)) ∧ Mod noB w2 wy)
        case atStart => exact ⟨0, by omega, rfl, rfl, ⟨⟨fun h => absurd h (by omega), fun h => absurd h (by omega), fun h => absurd h (by omega)⟩⟩, Mod.refl _ _⟩
        case round =>
          obtain ⟨j, hjg, rfl, rfl, HJ, hmy⟩ := hrel
          have hcy := hmy.at HCD.out id
          have c0 := cellsAt hcy 0
          have c1 := cellsAt hcy 1
          have c2 := cellsAt hcy 2
          obtain ⟨p0, p1, p2, p3, p4⟩ := PlayAt.of (HI2.out.mod hmy).bp
          have HMY := Hold.mk hmy
          clear hmy hcy
          have m126 := meth126
          have m127 := meth127
          have m128 := meth128
          have hjc : j = 0 ∨ j = 1 ∨ j = 2 ∨ j = 3 := by omega
          rcases hjc with rfl | rfl | rfl | rfl
          · obtain rfl : gk = 3 := by omega
            have HVV := Hold.mk HV.out.2
            have hv1 := HV.out.1
            clear HV
            rcases hv1 with rfl | rfl | rfl
            · rw [show seen3 0 v2 v3 0 = 2 from rfl]
              go_wp2_with (go_at_call 55; refine (HFO.out _).mono ?_; rintro e w3 ⟨rfl, hM3⟩; have HM3 := Hold.mk (HMY.out.trans hM3); clear hM3)
              go_roundg g
              case measure => omega
              case rel => exact ⟨k + 1, by omega, by go_num, (HI2.out.mod HM3.out).skip HZ.out (by rw [HFR.out]; simp [least3])⟩
            · rw [show seen3 1 v2 v3 0 = 2 from rfl]
              go_wp2_with (go_at_call 55; refine (HFO.out _).mono ?_; rintro e w3 ⟨rfl, hM3⟩; have HM3 := Hold.mk (HMY.out.trans hM3); clear hM3)
              go_roundg 2
              case measure => omega
              case rel => exact ⟨1, by omega, by go_num, rfl, ⟨⟨fun _ => by omega, fun h => absurd h (by omega), fun h => absurd h (by omega)⟩⟩, HM3.out⟩
            · rw [show seen3 2 v2 v3 0 = 2 from rfl]
              go_wp2_with (go_at_call 55; refine (HFO.out _).mono ?_; rintro e w3 ⟨rfl, hM3⟩; have HM3 := Hold.mk (HMY.out.trans hM3); clear hM3)
              go_roundg 2
              case measure => omega
              case rel => exact ⟨1, by omega, by go_num, rfl, ⟨⟨fun _ => by omega, fun h => absurd h (by omega), fun h => absurd h (by omega)⟩⟩, HM3.out⟩
          · obtain rfl : gk = 2 := by omega
            obtain ⟨hv1, hv2, hv3⟩ := HV.out
            have h1 := HJ.out.1 (by omega)
            have HV3 := Hold.mk hv3
            clear HV hv3
            rcases hv1 with rfl | rfl | rfl
            · exact absurd rfl h1
            · clear h1
              rcases hv2 with rfl | rfl | rfl
              · rw [show seen3 1 0 v3 1 = 1 from rfl]
                go_wp2_with (go_at_call 58; refine (HFW.out _).mono ?_; rintro e w3 ⟨rfl, hM3⟩; have HM3 := Hold.mk (HMY.out.trans hM3); clear hM3)
                go_roundg g
                case measure => omega
                case rel => exact ⟨k + 1, by omega, by go_num, (HI2.out.mod HM3.out).skip HZ.out (by rw [HFR.out]; simp [least3])⟩
              · rw [show seen3 1 1 v3 1 = 1 from rfl]
                go_wp2_with (go_at_call 58; refine (HFW.out _).mono ?_; rintro e w3 ⟨rfl, hM3⟩; have HM3 := Hold.mk (HMY.out.trans hM3); clear hM3)
                go_roundg 1
                case measure => omega
                case rel => exact ⟨2, by omega, by go_num, rfl, ⟨⟨fun _ => by omega, fun _ => by omega, fun h => absurd h (by omega)⟩⟩, HM3.out⟩
              · rw [show seen3 1 2 v3 1 = 1 from rfl]
                go_wp2_with (go_at_call 58; refine (HFW.out _).mono ?_; rintro e w3 ⟨rfl, hM3⟩; have HM3 := Hold.mk (HMY.out.trans hM3); clear hM3)
                go_roundg 1
                case measure => omega
                case rel => exact ⟨2, by omega, by go_num, rfl, ⟨⟨fun _ => by omega, fun _ => by omega, fun h => absurd h (by omega)⟩⟩, HM3.out⟩
            · clear h1
              rcases hv2 with rfl | rfl | rfl
              · rw [show seen3 2 0 v3 1 = 2 from rfl]
                go_wp2_with (go_at_call 58; refine (HFW.out _).mono ?_; rintro e w3 ⟨rfl, hM3⟩; have HM3 := Hold.mk (HMY.out.trans hM3); clear hM3)
                go_roundg g
                case measure => omega
                case rel => exact ⟨k + 1, by omega, by go_num, (HI2.out.mod HM3.out).skip HZ.out (by rw [HFR.out]; simp [least3])⟩
              · rw [show seen3 2 1 v3 1 = 2 from rfl]
                go_wp2_with (go_at_call 58; refine (HFW.out _).mono ?_; rintro e w3 ⟨rfl, hM3⟩; have HM3 := Hold.mk (HMY.out.trans hM3); clear hM3)
                go_roundg 1
                case measure => omega
                case rel => exact ⟨2, by omega, by go_num, rfl, ⟨⟨fun _ => by omega, fun _ => by omega, fun h => absurd h (by omega)⟩⟩, HM3.out⟩
              · rw [show seen3 2 2 v3 1 = 2 from rfl]
                go_wp2_with (go_at_call 58; refine (HFW.out _).mono ?_; rintro e w3 ⟨rfl, hM3⟩; have HM3 := Hold.mk (HMY.out.trans hM3); clear hM3)
                go_roundg 1
                case measure => omega
                case rel => exact ⟨2, by omega, by go_num, rfl, ⟨⟨fun _ => by omega, fun _ => by omega, fun h => absurd h (by omega)⟩⟩, HM3.out⟩
          · obtain rfl : gk = 1 := by omega
            obtain ⟨hv1, hv2, hv3⟩ := HV.out
            have h1 := HJ.out.1 (by omega)
            have h2 := HJ.out.2.1 (by omega)
            clear HV
            rcases hv1 with rfl | rfl | rfl
            · exact absurd rfl h1
            · clear h1
              rcases hv2 with rfl | rfl | rfl
              · exact absurd rfl h2
              · clear h2
                rcases hv3 with rfl | rfl | rfl
                · rw [show seen3 1 1 0 2 = 1 from rfl]
                  go_wp2_with (go_at_call 59; refine (HFD.out _).mono ?_; rintro e w3 ⟨rfl, hM3⟩; have HM3 := Hold.mk (HMY.out.trans hM3); clear hM3)
                  go_roundg g
                  case measure => omega
                  case rel => exact ⟨k + 1, by omega, by go_num, (HI2.out.mod HM3.out).skip HZ.out (by rw [HFR.out]; simp [least3])⟩
                · rw [show seen3 1 1 1 2 = 1 from rfl]
                  go_wp2_with (go_at_call 59; refine (HFD.out _).mono ?_; rintro e w3 ⟨rfl, hM3⟩; have HM3 := Hold.mk (HMY.out.trans hM3); clear hM3)
                  go_roundg 0
                  case measure => omega
                  case rel => exact ⟨3, by omega, by go_num, rfl, ⟨⟨fun _ => by omega, fun _ => by omega, fun _ => by omega⟩⟩, HM3.out⟩
                · rw [show seen3 1 1 2 2 = 1 from rfl]
                  go_wp2_with (go_at_call 59; refine (HFD.out _).mono ?_; rintro e w3 ⟨rfl, hM3⟩; have HM3 := Hold.mk (HMY.out.trans hM3); clear hM3)
                  go_roundg 0
                  case measure => omega
                  case rel => exact ⟨3, by omega, by go_num, rfl, ⟨⟨fun _ => by omega, fun _ => by omega, fun _ => by omega⟩⟩, HM3.out⟩
              · clear h2
                rcases hv3 with rfl | rfl | rfl
                · rw [show seen3 1 2 0 2 = 1 from rfl]
                  go_wp2_with (go_at_call 59; refine (HFD.out _).mono ?_; rintro e w3 ⟨rfl, hM3⟩; have HM3 := Hold.mk (HMY.out.trans hM3); clear hM3)
                  go_roundg g
                  case measure => omega
                  case rel => exact ⟨k + 1, by omega, by go_num, (HI2.out.mod HM3.out).skip HZ.out (by rw [HFR.out]; simp [least3])⟩
                · rw [show seen3 1 2 1 2 = 1 from rfl]
                  go_wp2_with (go_at_call 59; refine (HFD.out _).mono ?_; rintro e w3 ⟨rfl, hM3⟩; have HM3 := Hold.mk (HMY.out.trans hM3); clear hM3)
                  go_roundg 0
                  case measure => omega
                  case rel => exact ⟨3, by omega, by go_num, rfl, ⟨⟨fun _ => by omega, fun _ => by omega, fun _ => by omega⟩⟩, HM3.out⟩
                · rw [show seen3 1 2 2 2 = 1 from rfl]
                  go_wp2_with (go_at_call 59; refine (HFD.out _).mono ?_; rintro e w3 ⟨rfl, hM3⟩; have HM3 := Hold.mk (HMY.out.trans hM3); clear hM3)
                  go_roundg 0
                  case measure => omega
                  case rel => exact ⟨3, by omega, by go_num, rfl, ⟨⟨fun _ => by omega, fun _ => by omega, fun _ => by omega⟩⟩, HM3.out⟩
            · clear h1
              rcases hv2 with rfl | rfl | rfl
              · exact absurd rfl h2
              · clear h2
                rcases hv3 with rfl | rfl | rfl
                · rw [show seen3 2 1 0 2 = 1 from rfl]
                  go_wp2_with (go_at_call 59; refine (HFD.out _).mono ?_; rintro e w3 ⟨rfl, hM3⟩; have HM3 := Hold.mk (HMY.out.trans hM3); clear hM3)
                  go_roundg g
                  case measure => omega
                  case rel => exact ⟨k + 1, by omega, by go_num, (HI2.out.mod HM3.out).skip HZ.out (by rw [HFR.out]; simp [least3])⟩
                · rw [show seen3 2 1 1 2 = 1 from rfl]
                  go_wp2_with (go_at_call 59; refine (HFD.out _).mono ?_; rintro e w3 ⟨rfl, hM3⟩; have HM3 := Hold.mk (HMY.out.trans hM3); clear hM3)
                  go_roundg 0
                  case measure => omega
                  case rel => exact ⟨3, by omega, by go_num, rfl, ⟨⟨fun _ => by omega, fun _ => by omega, fun _ => by omega⟩⟩, HM3.out⟩
                · rw [show seen3 2 1 2 2 = 1 from rfl]
                  go_wp2_with (go_at_call 59; refine (HFD.out _).mono ?_; rintro e w3 ⟨rfl, hM3⟩; have HM3 := Hold.mk (HMY.out.trans hM3); clear hM3)
                  go_roundg 0
                  case measure => omega
                  case rel => exact ⟨3, by omega, by go_num, rfl, ⟨⟨fun _ => by omega, fun _ => by omega, fun _ => by omega⟩⟩, HM3.out⟩
              · clear h2
                rcases hv3 with rfl | rfl | rfl
                · rw [show seen3 2 2 0 2 = 2 from rfl]
                  go_wp2_with (go_at_call 59; refine (HFD.out _).mono ?_; rintro e w3 ⟨rfl, hM3⟩; have HM3 := Hold.mk (HMY.out.trans hM3); clear hM3)
                  go_roundg g
                  case measure => omega
                  case rel => exact ⟨k + 1, by omega, by go_num, (HI2.out.mod HM3.out).skip HZ.out (by rw [HFR.out]; simp [least3])⟩
                · rw [show seen3 2 2 1 2 = 2 from rfl]
                  go_wp2_with (go_at_call 59; refine (HFD.out _).mono ?_; rintro e w3 ⟨rfl, hM3⟩; have HM3 := Hold.mk (HMY.out.trans hM3); clear hM3)
                  go_roundg 0
                  case measure => omega
                  case rel => exact ⟨3, by omega, by go_num, rfl, ⟨⟨fun _ => by omega, fun _ => by omega, fun _ => by omega⟩⟩, HM3.out⟩
                · rw [show seen3 2 2 2 2 = 2 from rfl]
                  go_wp2_with (go_at_call 59; refine (HFD.out _).mono ?_; rintro e w3 ⟨rfl, hM3⟩; have HM3 := Hold.mk (HMY.out.trans hM3); clear hM3)
                  go_roundg 0
                  case measure => omega
                  case rel => exact ⟨3, by omega, by go_num, rfl, ⟨⟨fun _ => by omega, fun _ => by omega, fun _ => by omega⟩⟩, HM3.out⟩
          · obtain rfl : gk = 0 := by omega
            have h1 := HJ.out.1 (by omega)
            have h2 := HJ.out.2.1 (by omega)
            have h3 := HJ.out.2.2 (by omega)
            have HE : Hold (fitR p s z = seen3 v1 v2 v3 3) := ⟨by rw [HFR.out]; simp [least3, seen3, h1, h2, h3]⟩
            have HI3 := Hold.mk (HI2.out.mod HMY.out)
            have hz2' : w.heap.size + 1 + 1 < wr.heap.size := (Array.getElem?_eq_some_iff.1 HI3.out.f).1
            have hfc := cells_frozen HI3.out.f k
            have hce := fcells_cell HI3.out.f (k := k) hlt
            generalize seen3 v1 v2 v3 3 = vv at *
            generalize foundTo p s es k k = old at *
            clear h1 h2 h3 c0 c1 c2
            go_wp2
            go_roundg g
            case measure => omega
            case rel => exact ⟨k + 1, by omega, by go_num, HI3.out.set HZ.out HE.out⟩
end Go.Proofs.Ytnplhlcifagimaa

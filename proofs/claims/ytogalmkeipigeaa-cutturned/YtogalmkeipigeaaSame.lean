/- Ints, SameCut, SameSides, SameLines: two lists that are the same are told to be. -/
import Derived.Test.YtogalmkeipigeaaRefJoin
set_option linter.unusedSimpArgs false
set_option linter.unusedVariables false
namespace Go.Proofs.Ytogalmkeipigeaa
open Go.RowKit

set_option maxRecDepth 100000 in
set_option maxHeartbeats 2000000 in
theorem ints_same (ao bo : Option Addr) (zs : List Int) (c d : Nat) (w : World) (ha : IntsAt w ao zs) (hb : IntsAt w bo zs) :
    Calls Try.prog 21 #[.slice ao zs.length c, .slice bo zs.length d] w fun e w' => e = .returned (.bool true) ∧ Mod noB w w' := by
  have hsm := ha.small
  have HA := Hold.mk (And.intro ha hb)
  clear ha hb
  go_enter Try.func21, Try.ntmps21
  go_wp2
  go_loopw [5] (fun i wr => ∃ k : Nat, k ≤ zs.length ∧ i = .int .i64 k ∧ Mod noB w wr) (fun i _ => zs.length - (intOf i).toNat)
  case atStart => exact ⟨0, Nat.zero_le _, rfl, Mod.refl _ _⟩
  case round =>
    obtain ⟨k, hk, rfl, hmr⟩ := hrel
    by_cases hlt : k < zs.length
    · have hne : zs ≠ [] := fun e => by simp [e] at hlt
      obtain ⟨b1, o1, rfl, hb1, hc1⟩ := (HA.out.1.mod hmr (fun _ _ _ _ h => h)).lies hne
      obtain ⟨b2, o2, rfl, hb2, hc2⟩ := (HA.out.2.mod hmr (fun _ _ _ _ h => h)).lies hne
      have h1 := hc1 k hlt
      have h2 := hc2 k hlt
      generalize zs[k]?.getD 0 = z at h1 h2
      have HM := Hold.mk hmr
      clear hc1 hc2 hmr
      go_wp2
      go_quiet (fail)
      go_wp2
      go_roundw
      case rel => exact ⟨k + 1, by omega, by go_num, HM.out.drewN _⟩
      case measure => simp [intOf]; omega
    · obtain rfl : k = zs.length := by omega
      go_wp2
      go_ret
      exact ⟨rfl, hmr⟩

/-- The cells of a slice, whatever its elements are. -/
def RowAt (w : World) (ao : Option Addr) (xs : List Value) : Prop := xs ≠ [] → ∃ b off, ao = some ⟨b, off, none⟩ ∧ b < w.heap.size ∧ ∀ j, j < xs.length → w.cell? ⟨b, off + j, none⟩ = xs[j]?
theorem RowAt.mod {w w' : World} {ao : Option Addr} {xs : List Value} (h : RowAt w ao xs) (hm : Mod noB w w') : RowAt w' ao xs := fun hne => by
  obtain ⟨b, off, h1, h2, h3⟩ := h hne
  exact ⟨b, off, h1, Nat.lt_of_lt_of_le h2 hm.size, fun j hj => (cell_same (hm.block b h2 id) _).trans (h3 j hj)⟩
theorem rowAt_of_owns {w : World} {base e size n : Nat} {v : Value} {xs : List Value} (h : w.ownsRow base e size v n xs) : ∃ ao cap, v = .slice ao n cap ∧ RowAt w ao xs := by
  obtain ⟨hl, ⟨rfl, rfl⟩ | ⟨g, cap, cur, rfl, hb, hg, h1, _, h2, h3⟩⟩ := h
  · refine ⟨none, 0, rfl, fun hne => absurd (List.length_eq_zero_iff.1 (by rw [hl, Nat.zero_mul])) hne⟩
  · refine ⟨_, cap, rfl, fun _ => ⟨g, 0, rfl, (Array.getElem?_eq_some_iff.1 hg).1, fun j hj => ?_⟩⟩
    have e1 : (cur.toList.take (n * size))[j]? = cur.toList[j]? := List.getElem?_take_of_lt (by omega)
    rw [h3] at e1
    simp only [World.cell?, hg, Nat.zero_add]
    rw [e1, Array.getElem?_toList]
    simp

theorem sideCells_at (L : List (Int × Int)) : ∀ (k : Nat) (p : Int × Int), L[k]? = some p → (sideCells L)[k * 2]? = some (.int .i64 p.1) ∧ (sideCells L)[k * 2 + 1]? = some (.int .i64 p.2) := by
  unfold sideCells
  induction L with
  | nil => intro k p h; cases h
  | cons q L ih =>
    intro k p h
    cases k with
    | zero => obtain rfl : q = p := by simpa using h
              exact ⟨rfl, rfl⟩
    | succ k =>
      have := ih k p (by simpa using h)
      rw [show (k + 1) * 2 = k * 2 + 2 by omega, show k * 2 + 2 + 1 = (k * 2 + 1) + 2 by omega]
      exact this

set_option maxRecDepth 100000 in
set_option maxHeartbeats 2000000 in
theorem sides_same (ao bo : Option Addr) (L : List (Int × Int)) (hL : L.length ≤ 1000) (c d : Nat) (w : World) (ha : RowAt w ao (sideCells L)) (hb : RowAt w bo (sideCells L)) :
    Calls Try.prog 20 #[.slice ao L.length c, .slice bo L.length d] w fun e w' => e = .returned (.bool true) ∧ Mod noB w w' := by
  have HA := Hold.mk (And.intro ha hb)
  clear ha hb
  go_enter Try.func20, Try.ntmps20
  go_wp2
  go_loopw [5] (fun i wr => ∃ k : Nat, k ≤ L.length ∧ i = .int .i64 k ∧ Mod noB w wr) (fun i _ => L.length - (intOf i).toNat)
  case atStart => exact ⟨0, Nat.zero_le _, rfl, Mod.refl _ _⟩
  case round =>
    obtain ⟨k, hk, rfl, hmr⟩ := hrel
    by_cases hlt : k < L.length
    · have hne : sideCells L ≠ [] := fun e => by have := congrArg List.length e; rw [sideCells_len] at this; simp only [List.length_nil] at this; omega
      obtain ⟨b1, o1, rfl, hb1, hc1⟩ := HA.out.1.mod hmr hne
      obtain ⟨b2, o2, rfl, hb2, hc2⟩ := HA.out.2.mod hmr hne
      obtain ⟨p, hp⟩ : ∃ p, L[k]? = some p := ⟨_, List.getElem?_eq_getElem hlt⟩
      obtain ⟨x, y⟩ := p
      have hq := sideCells_at L k _ hp
      have h1 := (hc1 (k * 2) (by rw [sideCells_len]; omega)).trans hq.1
      have h2 := (hc1 (k * 2 + 1) (by rw [sideCells_len]; omega)).trans hq.2
      have h3 := (hc2 (k * 2) (by rw [sideCells_len]; omega)).trans hq.1
      have h4 := (hc2 (k * 2 + 1) (by rw [sideCells_len]; omega)).trans hq.2
      rw [← Nat.add_assoc] at h2 h4
      have HM := Hold.mk hmr
      clear hc1 hc2 hmr hq hp hne
      go_wp2
      go_quiet (fail)
      go_wp2
      go_roundw
      case rel => exact ⟨k + 1, by omega, by go_num, HM.out.drewN _⟩
      case measure => simp [intOf]; omega
    · obtain rfl : k = L.length := by omega
      go_wp2
      go_ret
      exact ⟨rfl, hmr⟩

/-- A line of a saw: upright, at, from, to. -/
def lineCells (L : List (Bool × Int × Int × Int)) : List Value := L.flatMap fun p => [.bool p.1, .int .i64 p.2.1, .int .i64 p.2.2.1, .int .i64 p.2.2.2]
theorem lineCells_len (L : List (Bool × Int × Int × Int)) : (lineCells L).length = L.length * 4 := by
  unfold lineCells
  induction L with
  | nil => rfl
  | cons p L ih => simp only [List.flatMap_cons, List.length_append, List.length_cons, List.length_nil]; omega
theorem lineCells_at (L : List (Bool × Int × Int × Int)) : ∀ (k : Nat) (p : Bool × Int × Int × Int), L[k]? = some p → (lineCells L)[k * 4]? = some (.bool p.1) ∧ (lineCells L)[k * 4 + 1]? = some (.int .i64 p.2.1) ∧ (lineCells L)[k * 4 + 2]? = some (.int .i64 p.2.2.1) ∧ (lineCells L)[k * 4 + 3]? = some (.int .i64 p.2.2.2) := by
  unfold lineCells
  induction L with
  | nil => intro k p h; cases h
  | cons q L ih =>
    intro k p h
    cases k with
    | zero => obtain rfl : q = p := by simpa using h
              exact ⟨rfl, rfl, rfl, rfl⟩
    | succ k =>
      have := ih k p (by simpa using h)
      rw [show (k + 1) * 4 = k * 4 + 4 by omega, show k * 4 + 4 + 1 = (k * 4 + 1) + 4 by omega, show k * 4 + 4 + 2 = (k * 4 + 2) + 4 by omega, show k * 4 + 4 + 3 = (k * 4 + 3) + 4 by omega]
      exact this

set_option maxRecDepth 100000 in
set_option maxHeartbeats 2000000 in
theorem lines_same (ao bo : Option Addr) (L : List (Bool × Int × Int × Int)) (hL : L.length ≤ 1000) (c d : Nat) (w : World) (ha : RowAt w ao (lineCells L)) (hb : RowAt w bo (lineCells L)) :
    Calls Try.prog 26 #[.slice ao L.length c, .slice bo L.length d] w fun e w' => e = .returned (.bool true) ∧ Mod noB w w' := by
  have HA := Hold.mk (And.intro ha hb)
  clear ha hb
  go_enter Try.func26, Try.ntmps26
  go_wp2
  go_loopw [5] (fun i wr => ∃ k : Nat, k ≤ L.length ∧ i = .int .i64 k ∧ Mod noB w wr) (fun i _ => L.length - (intOf i).toNat)
  case atStart => exact ⟨0, Nat.zero_le _, rfl, Mod.refl _ _⟩
  case round =>
    obtain ⟨k, hk, rfl, hmr⟩ := hrel
    by_cases hlt : k < L.length
    · have hne : lineCells L ≠ [] := fun e => by have := congrArg List.length e; rw [lineCells_len] at this; simp only [List.length_nil] at this; omega
      obtain ⟨b1, o1, rfl, hb1, hc1⟩ := HA.out.1.mod hmr hne
      obtain ⟨b2, o2, rfl, hb2, hc2⟩ := HA.out.2.mod hmr hne
      obtain ⟨p, hp⟩ : ∃ p, L[k]? = some p := ⟨_, List.getElem?_eq_getElem hlt⟩
      obtain ⟨u, x, y, z⟩ := p
      have hq := lineCells_at L k _ hp
      have h1 := (hc1 (k * 4) (by rw [lineCells_len]; omega)).trans hq.1
      have h2 := (hc1 (k * 4 + 1) (by rw [lineCells_len]; omega)).trans hq.2.1
      have h3 := (hc1 (k * 4 + 2) (by rw [lineCells_len]; omega)).trans hq.2.2.1
      have h4 := (hc1 (k * 4 + 3) (by rw [lineCells_len]; omega)).trans hq.2.2.2
      have g1 := (hc2 (k * 4) (by rw [lineCells_len]; omega)).trans hq.1
      have g2 := (hc2 (k * 4 + 1) (by rw [lineCells_len]; omega)).trans hq.2.1
      have g3 := (hc2 (k * 4 + 2) (by rw [lineCells_len]; omega)).trans hq.2.2.1
      have g4 := (hc2 (k * 4 + 3) (by rw [lineCells_len]; omega)).trans hq.2.2.2
      rw [← Nat.add_assoc] at h2 h3 h4 g2 g3 g4
      have HM := Hold.mk hmr
      clear hc1 hc2 hmr hq hp hne
      go_wp2
      go_quiet (fail)
      go_wp2
      go_roundw
      case rel => exact ⟨k + 1, by omega, by go_num, HM.out.drewN _⟩
      case measure => simp [intOf]; omega
    · obtain rfl : k = L.length := by omega
      go_wp2
      go_ret
      exact ⟨rfl, hmr⟩

set_option maxRecDepth 100000 in
set_option maxHeartbeats 2000000 in
theorem cut_same (W H : Int) (ao bo : Option Addr) (zs : List Int) (c d : Nat) (w : World) (ha : IntsAt w ao zs) (hb : IntsAt w bo zs) :
    Calls Try.prog 29 #[cutV W H ao zs.length c, cutV W H bo zs.length d] w fun e w' => e = .returned (.bool true) ∧ Mod noB w w' := by
  have HI := Hold.mk (ints_same ao bo zs c d _ ((ha.alloc (.cells #[.int .i64 W, .int .i64 H, .slice ao zs.length c] 24)).alloc (.cells #[.int .i64 W, .int .i64 H, .slice bo zs.length d] 24)) ((hb.alloc (.cells #[.int .i64 W, .int .i64 H, .slice ao zs.length c] 24)).alloc (.cells #[.int .i64 W, .int .i64 H, .slice bo zs.length d] 24)))
  have HM0 := Hold.mk (((Mod.refl noB w).alloc (.cells #[.int .i64 W, .int .i64 H, .slice ao zs.length c] 24)).alloc (.cells #[.int .i64 W, .int .i64 H, .slice bo zs.length d] 24))
  clear ha hb
  go_enter Try.func29, Try.ntmps29
  go_wp2_with (go_at_call 21; refine HI.out.mono ?_; rintro e w1 ⟨rfl, hM1⟩; have HM1 := Hold.mk hM1; clear hM1)
  go_ret
  exact ⟨rfl, HM0.out.trans HM1.out⟩

set_option maxHeartbeats 1000000 in
theorem large_any (W H : Int) (ao : Option Addr) (n cap : Nat) (w : World) :
    Calls Try.prog 12 #[cutV W H ao n cap] w fun e w' => e = .returned (.bool (decide (288 < (n : Int)))) ∧ Mod noB w w' := by
  go_enter Try.func12, Try.ntmps12
  go_wp2
  go_ret
  exact ⟨rfl, (Mod.refl noB w).alloc _⟩

/-- A block whose cells are a list of ints. -/
theorem ints_lit {w : World} {b : Nat} {cs : Array Value} {t : TypeId} (L : List Int) (h : w.heap[b]? = some (.cells cs t)) (hc : cs.toList = L.map (Value.int .i64)) (hs : L.length ≤ 1000000) : IntsAt w (some ⟨b, 0, none⟩) L :=
  ⟨fun _ => ⟨b, 0, rfl, (Array.getElem?_eq_some_iff.1 h).1, fun j hj => by
    simp only [World.cell?, h, Nat.zero_add]
    have e : cs[j]? = (cs.toList)[j]? := by simp
    have : cs[j]? = some (.int .i64 (L[j]?.getD 0)) := by rw [e, hc, List.getElem?_map, List.getElem?_eq_getElem hj]; rfl
    simpa using this⟩, hs⟩

set_option maxRecDepth 100000 in
set_option maxHeartbeats 1000000 in
theorem cutA_any (w : World) :
    Calls Try.prog 39 #[] w fun e w' => ∃ ao cap, e = .returned (cutV 4 3 ao 12 cap) ∧ IntsAt w' ao [0, 0, 1, 1, 0, 2, 2, 1, 3, 3, 3, 3] ∧ Mod noB w w' := by
  go_enter Try.func39, Try.ntmps39
  go_wp2
  rw [allocL2]
  have h0 := allocL_at [.cells #[.int .i64 4, .int .i64 3, .slice (some ⟨w.heap.size + 1, 0, none⟩) 12 12] 24, .cells #[.int .i64 0, .int .i64 0, .int .i64 1, .int .i64 1, .int .i64 0, .int .i64 2, .int .i64 2, .int .i64 1, .int .i64 3, .int .i64 3, .int .i64 3, .int .i64 3] 3] w 0 _ rfl
  have h1 := allocL_at [.cells #[.int .i64 4, .int .i64 3, .slice (some ⟨w.heap.size + 1, 0, none⟩) 12 12] 24, .cells #[.int .i64 0, .int .i64 0, .int .i64 1, .int .i64 1, .int .i64 0, .int .i64 2, .int .i64 2, .int .i64 1, .int .i64 3, .int .i64 3, .int .i64 3, .int .i64 3] 3] w 1 _ rfl
  exact bodyPost_ret (results_cell_row (fn := Try.f39) rfl _ _ w.heap.size 24 _ (0, 0) _ rfl h0 Try.underlying24 rfl (by kernel_rfl)) rfl ⟨_, _, rfl, ints_lit _ h1 rfl (by decide), allocL_mod _ _ _⟩

set_option maxRecDepth 100000 in
set_option maxHeartbeats 1000000 in
theorem cutB_any (w : World) :
    Calls Try.prog 40 #[] w fun e w' => ∃ ao cap, e = .returned (cutV 3 2 ao 6 cap) ∧ IntsAt w' ao [0, 0, 1, 2, 3, 1] ∧ Mod noB w w' := by
  go_enter Try.func40, Try.ntmps40
  go_wp2
  rw [allocL2]
  have h0 := allocL_at [.cells #[.int .i64 3, .int .i64 2, .slice (some ⟨w.heap.size + 1, 0, none⟩) 6 6] 24, .cells #[.int .i64 0, .int .i64 0, .int .i64 1, .int .i64 2, .int .i64 3, .int .i64 1] 3] w 0 _ rfl
  have h1 := allocL_at [.cells #[.int .i64 3, .int .i64 2, .slice (some ⟨w.heap.size + 1, 0, none⟩) 6 6] 24, .cells #[.int .i64 0, .int .i64 0, .int .i64 1, .int .i64 2, .int .i64 3, .int .i64 1] 3] w 1 _ rfl
  exact bodyPost_ret (results_cell_row (fn := Try.f40) rfl _ _ w.heap.size 24 _ (0, 0) _ rfl h0 Try.underlying24 rfl (by kernel_rfl)) rfl ⟨_, _, rfl, ints_lit _ h1 rfl (by decide), allocL_mod _ _ _⟩
end Go.Proofs.Ytogalmkeipigeaa

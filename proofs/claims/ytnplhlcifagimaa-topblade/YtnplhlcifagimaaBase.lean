/- What is allowed, sides, matches: how they lie in memory; which of them are valid. -/
import Derived.Test.YtnplhlcifagimaaDamped
import Derived.Test.YtnplhlcifagimaaGev
set_option linter.unusedSimpArgs false
set_option linter.unusedVariables false
namespace Go.Proofs.Ytnplhlcifagimaa
open Go.RowKit

/-- A side, and what is allowed. -/
structure Edg where
  k : Int
  a : Int × Int
  w : Int × Int
  d : Int × Int
deriving DecidableEq
structure Ply where
  len : Int
  slack : Int
  loose : Int
  damp : Int × Int
deriving DecidableEq

@[reducible] def edC (e : Edg) : Array Value := #[.int .i64 e.k, .int .i64 e.a.1, .int .i64 e.a.2, .int .i64 e.w.1, .int .i64 e.w.2, .int .i64 e.d.1, .int .i64 e.d.2]
@[reducible] def plC (p : Ply) : Array Value := #[.int .i64 p.len, .int .i64 p.slack, .int .i64 p.loose, .int .i64 p.damp.1, .int .i64 p.damp.2]
@[reducible] def mtC (t h : Edg) : Array Value := #[.int .i64 t.k, .int .i64 t.a.1, .int .i64 t.a.2, .int .i64 t.w.1, .int .i64 t.w.2, .int .i64 t.d.1, .int .i64 t.d.2, .int .i64 h.k, .int .i64 h.a.1, .int .i64 h.a.2, .int .i64 h.w.1, .int .i64 h.w.2, .int .i64 h.d.1, .int .i64 h.d.2]

@[reducible] def edV (e : Edg) : Value := .agg #[.int .i64 e.k, .int .i64 e.a.1, .int .i64 e.a.2, .int .i64 e.w.1, .int .i64 e.w.2, .int .i64 e.d.1, .int .i64 e.d.2]
@[reducible] def plV (p : Ply) : Value := .agg #[.int .i64 p.len, .int .i64 p.slack, .int .i64 p.loose, .int .i64 p.damp.1, .int .i64 p.damp.2]
@[reducible] def mtV (t h : Edg) : Value := .agg #[.int .i64 t.k, .int .i64 t.a.1, .int .i64 t.a.2, .int .i64 t.w.1, .int .i64 t.w.2, .int .i64 t.d.1, .int .i64 t.d.2, .int .i64 h.k, .int .i64 h.a.1, .int .i64 h.a.2, .int .i64 h.w.1, .int .i64 h.w.2, .int .i64 h.d.1, .int .i64 h.d.2]

/-- The seven cells of a side. -/
structure EdgeAt (w : World) (b o : Nat) (e : Edg) : Prop where
  c0 : w.cell? ⟨b, o, none⟩ = some (.int .i64 e.k)
  c1 : w.cell? ⟨b, o + 1, none⟩ = some (.int .i64 e.a.1)
  c2 : w.cell? ⟨b, o + 2, none⟩ = some (.int .i64 e.a.2)
  c3 : w.cell? ⟨b, o + 3, none⟩ = some (.int .i64 e.w.1)
  c4 : w.cell? ⟨b, o + 4, none⟩ = some (.int .i64 e.w.2)
  c5 : w.cell? ⟨b, o + 5, none⟩ = some (.int .i64 e.d.1)
  c6 : w.cell? ⟨b, o + 6, none⟩ = some (.int .i64 e.d.2)

theorem EdgeAt.same {w w' : World} {b o : Nat} {e : Edg} (h : EdgeAt w b o e) (hk : w'.heap[b]? = w.heap[b]?) : EdgeAt w' b o e :=
  ⟨(cell_same hk _).trans h.c0, (cell_same hk _).trans h.c1, (cell_same hk _).trans h.c2, (cell_same hk _).trans h.c3, (cell_same hk _).trans h.c4, (cell_same hk _).trans h.c5, (cell_same hk _).trans h.c6⟩

theorem EdgeAt.of {w : World} {b : Nat} {e : Edg} {t : TypeId} (h : w.heap[b]? = some (.cells (edC e) t)) : EdgeAt w b 0 e := by
  constructor <;> simp [World.cell?, h]

/-- A slice's value reads as these sides, in memory. -/
structure EdgesAt (w : World) (ao : Option Addr) (es : List Edg) : Prop where
  lies : es ≠ [] → ∃ b off, ao = some ⟨b, off, none⟩ ∧ b < w.heap.size ∧ ∀ k e, es[k]? = some e → EdgeAt w b (off + k * 7) e
  small : es.length ≤ 1000000000000

theorem EdgesAt.mod {w w' : World} {ao : Option Addr} {es : List Edg} (h : EdgesAt w ao es) (hm : Mod noB w w') : EdgesAt w' ao es :=
  ⟨fun hne => by obtain ⟨b, off, h1, h2, h3⟩ := h.lies hne; exact ⟨b, off, h1, Nat.lt_of_lt_of_le h2 hm.size, fun k e he => (h3 k e he).same (hm.block b h2 id)⟩, h.small⟩

def sideB (e : Edg) : Bool := e.k == 0 || ((e.k == 1 || e.k == 2) && (withinB e.a 0 10000 && withinB e.w 1 3000 && withinB e.d 1 3000))
def playB (p : Ply) : Bool := decide (1 ≤ p.len) && decide (p.len ≤ 10000) && decide (0 ≤ p.slack) && decide (p.slack ≤ 500) && decide (0 ≤ p.loose) && decide (p.loose ≤ 500) && withinB p.damp 0 100

set_option maxHeartbeats 400000 in
theorem isBroad_any (s : Int × Int) (w : World) : Calls Try.prog 34 #[spV s] w fun e w' => e = .returned (.bool (withinB s 1 3000)) ∧ Mod noB w w' := by
  have H := Hold.mk (fun w => within_any s 1 3000 w)
  have HM0 := Hold.mk ((Mod.refl noB w).alloc (.cells #[.int .i64 s.1, .int .i64 s.2] 29))
  go_enter Try.func34, Try.ntmps34
  go_wp2_with (go_at_call 24; refine (H.out _).mono ?_; rintro e w1 ⟨rfl, hM⟩; have HM := Hold.mk hM; clear hM)
  go_ret
  exact ⟨rfl, HM0.out.trans HM.out⟩

set_option maxHeartbeats 1000000 in
theorem isSide_any (e : Edg) (w : World) : Calls Try.prog 27 #[edV e] w fun r w' => r = .returned (.bool (sideB e)) ∧ Mod noB w w' := by
  obtain ⟨k, a, wi, d⟩ := e
  have HM := Hold.mk ((Mod.refl noB w).alloc (.cells (edC ⟨k, a, wi, d⟩) 36))
  have HN := Hold.mk (fun W' h => EdgeAt.of (new_at w (.cells (edC ⟨k, a, wi, d⟩) 36) W' h))
  by_cases k0 : k = 0
  · subst k0
    go_enter Try.func27, Try.ntmps27
    go_wp2
    go_ret
    exact ⟨by simp [sideB], HM.out⟩
  · have k0' : (k == 0) = false := by simpa using k0
    by_cases hk : k = 1 ∨ k = 2
    · rcases ha : withinB a 0 10000 with _ | _
      · have HA : Hold (∀ w, Calls Try.prog 24 #[spV a, .int .i64 0, .int .i64 10000] w fun e w' => e = .returned (.bool false) ∧ Mod noB w w') := ⟨fun w => by rw [← ha]; exact within_any _ _ _ _⟩
        have Ha := Hold.mk ha
        clear ha
        rcases hk with rfl | rfl
        all_goals
          go_enter Try.func27, Try.ntmps27
          go_wp2_with (go_at_call 24; refine (HA.out _).mono ?_; rintro e w1 ⟨rfl, hM⟩; obtain ⟨_, _, _, q3, q4, q5, q6⟩ := HN.out _ hM; have HM := Hold.mk (HM.out.trans hM); clear hM)
          go_ret
          exact ⟨by simp [sideB, Ha.out], HM.out⟩
      · have HA : Hold (∀ w, Calls Try.prog 24 #[spV a, .int .i64 0, .int .i64 10000] w fun e w' => e = .returned (.bool true) ∧ Mod noB w w') := ⟨fun w => by rw [← ha]; exact within_any _ _ _ _⟩
        have Ha := Hold.mk ha
        clear ha
        rcases hb : withinB wi 1 3000 with _ | _
        · have HB : Hold (∀ w, Calls Try.prog 34 #[spV wi] w fun e w' => e = .returned (.bool false) ∧ Mod noB w w') := ⟨fun w => by rw [← hb]; exact isBroad_any _ _⟩
          have Hb := Hold.mk hb
          clear hb
          rcases hk with rfl | rfl
          all_goals
            go_enter Try.func27, Try.ntmps27
            go_wp2_with (first
              | (go_at_call 24; refine (HA.out _).mono ?_; rintro e w1 ⟨rfl, hM⟩; obtain ⟨_, _, _, q3, q4, q5, q6⟩ := HN.out _ hM; have HM1 := Hold.mk hM; clear hM)
              | (go_at_call 34; refine (HB.out _).mono ?_; rintro e w2 ⟨rfl, hM⟩; obtain ⟨_, _, _, q3, q4, q5, q6⟩ := HN.out _ (HM1.out.trans hM); have HM2 := Hold.mk (HM1.out.trans hM); clear hM))
            go_ret
            exact ⟨by simp [sideB, Ha.out, Hb.out], HM.out.trans HM2.out⟩
        · have HB : Hold (∀ w, Calls Try.prog 34 #[spV wi] w fun e w' => e = .returned (.bool true) ∧ Mod noB w w') := ⟨fun w => by rw [← hb]; exact isBroad_any _ _⟩
          have HD := Hold.mk (fun w => isBroad_any d w)
          have Hb := Hold.mk hb
          clear hb
          rcases hk with rfl | rfl
          all_goals
            go_enter Try.func27, Try.ntmps27
            go_wp2_with (first
              | (go_at_call 24; refine (HA.out _).mono ?_; rintro e w1 ⟨rfl, hM⟩; obtain ⟨_, _, _, q3, q4, q5, q6⟩ := HN.out _ hM; have HM1 := Hold.mk hM; clear hM)
              | (go_at_call 34; have HM3 := HM1; refine (HB.out _).mono ?_; rintro e w2 ⟨rfl, hM⟩; obtain ⟨_, _, _, q3, q4, q5, q6⟩ := HN.out _ (HM1.out.trans hM); have HM2 := Hold.mk (HM1.out.trans hM); clear hM HM1 HM3)
              | (go_at_call 34; refine (HD.out _).mono ?_; rintro e w2 ⟨rfl, hM⟩; have HM3 := Hold.mk (HM2.out.trans hM); clear hM))
            go_ret
            exact ⟨by simp [sideB, Ha.out, Hb.out], HM.out.trans HM3.out⟩
    · have k1' : (k == 1) = false := by simp; omega
      have k2' : (k == 2) = false := by simp; omega
      go_enter Try.func27, Try.ntmps27
      go_wp2
      go_ret
      exact ⟨by simp [sideB, k0', k1', k2'], HM.out⟩
end Go.Proofs.Ytnplhlcifagimaa

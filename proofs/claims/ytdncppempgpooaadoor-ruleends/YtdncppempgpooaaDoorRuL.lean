/- A die on the press: failing, run, allBlades. -/
import Derived.Test.YtdncppempgpooaaDoorRuK
import Derived.Laws.Tables
set_option linter.unusedSimpArgs false
set_option linter.unusedVariables false
namespace Go.Proofs.YtdncppempgpooaaDoor
open Go.RowKit Go.Shelf

theorem find_at {p : Nat → Bool} {n k : Nat} (hk : k < n) (h1 : p k = true) (h0 : ∀ j, j < k → p j = false) : (List.range n).find? p = some k := by
  rw [List.find?_range_eq_some]
  exact ⟨h1, by simpa using hk, fun j hj => by simp [h0 j hj]⟩
theorem find_none {p : Nat → Bool} {n : Nat} (h0 : ∀ j, j < n → p j = false) : (List.range n).find? p = none := by
  rw [List.find?_eq_none]
  intro x hx
  simp [h0 x (List.mem_range.1 hx)]

/-- What failing returns. -/
def failV (o : Option Nat) : Value := match o with | some b => .tuple #[.int .i64 b, .bool true] | none => .tuple #[.int .i64 0, .bool false]
theorem failing_some {d : Dye} {r : Nat → Int} {s : Int × Int} {k : Nat} (h : failing d r s = some k) : k < d.bl.length ∧ failsB d r k s = true ∧ ∀ j, j < k → failsB d r j s = false := by
  unfold failing at h
  rw [List.find?_range_eq_some] at h
  exact ⟨by simpa using h.2.1, h.1, fun j hj => by simpa using h.2.2 j hj⟩
theorem failing_none {d : Dye} {r : Nat → Int} {s : Int × Int} (h : failing d r s = none) : ∀ j, j < d.bl.length → failsB d r j s = false := by
  unfold failing at h
  rw [List.find?_eq_none] at h
  intro j hj
  simpa using h j (List.mem_range.2 hj)

/-- What failing's walk holds on to: the boxed arguments. -/
def Box2 (w : World) (cs ss : Array Value) (W : World) : Prop := W.heap[w.heap.size]? = some (.cells cs 87) ∧ W.heap[w.heap.size + 1]? = some (.cells ss 58) ∧ Mod noB w W
theorem box2 (w : World) (cs ss : Array Value) : Kept ((w.alloc (.cells cs 87)).alloc (.cells ss 58)) (Box2 w cs ss) :=
  fun W' h => ⟨at_allocL [_, _] h 0 _ rfl, at_allocL [_, _] h 1 _ rfl, (allocL_mod noB [_, _] w).trans h⟩

set_option maxRecDepth 100000 in
set_option maxHeartbeats 2000000 in
theorem failing_any (B : Nat) (ao : Option Addr) (cap : Nat) (d : Dye) (oo : Option Addr) (oc : Nat) (r : Nat → Int) (s : Int × Int) (w : World) (hM : Mnt B w oo d) (hr : RunB 10000 r) (hs : stintB s = true) :
    Calls Tryd.prog 51 #[mtV ao d.bl.length cap d oo oc r, spV s] w fun e w' => e = .returned (failV (failing d r s)) ∧ Mod noB w w' := by
  have hl := (dieB_parts hM.die).1
  have hn5 : d.bl.length ≤ 5 := hl.2
  have HF := Hold.mk (box2 w (mtC ao d.bl.length cap d oo oc r) (spC s))
  have HC : Hold (∀ (k : Nat) (v : Bool) (W : World), k < d.bl.length → failsB d r k s = v → Mod noB w W → Calls Tryd.prog 72 #[mtV ao d.bl.length cap d oo oc r, .int .i64 k, spV s] W fun e w' => e = .returned (.bool v) ∧ Mod noB W w') :=
    ⟨fun k v W hk hv hm => by rw [← hv]; exact fails_any B ao cap d oo oc r k s W (hM.mod hm) hk hr hs⟩
  clear hM hr hs hl
  obtain ⟨s1, s2⟩ := s
  go_enter Tryd.func51, Tryd.ntmps51
  go_wp2
  go_loopw [11] (fun i wr => ∃ k : Nat, k ≤ d.bl.length ∧ i = .int .i64 k ∧ (∀ j, j < k → failsB d r j (s1, s2) = false) ∧ Kept wr (Box2 w (mtC ao d.bl.length cap d oo oc r) (spC (s1, s2)))) (fun i _ => d.bl.length - (intOf i).toNat)
  case atStart => exact ⟨0, Nat.zero_le _, rfl, fun j hj => absurd hj (Nat.not_lt_zero _), HF.out⟩
  case round =>
    obtain ⟨k, hk, rfl, h0, hF⟩ := hrel
    have H0 := Hold.mk h0
    have HF := Hold.mk hF
    clear h0 hF
    by_cases hlt : k < d.bl.length
    · obtain ⟨ha, hb, hm⟩ := HF.out.now
      have c0 := cellsAt ha 0; have c1 := cellsAt ha 1; have c2 := cellsAt ha 2; have c3 := cellsAt ha 3; have c4 := cellsAt ha 4
      have c5 := cellsAt ha 5; have c6 := cellsAt ha 6; have c7 := cellsAt ha 7; have c8 := cellsAt ha 8; have c9 := cellsAt ha 9
      have d0 := cellsAt hb 0; have d1 := cellsAt hb 1
      cases hf : failsB d r k (s1, s2) with
      | true =>
        have HC' := Hold.mk (HC.out k true wr hlt hf hm)
        have HX : Hold (failing d r (s1, s2) = some k) := ⟨find_at hlt hf H0.out⟩
        clear ha hb hm hf
        go_wp2_with (go_at_call 72; refine HC'.out.mono ?_; rintro e w1 ⟨rfl, hM⟩; have HF := Hold.mk (HF.out.later hM); clear hM)
        go_ret2
        exact ⟨by rw [HX.out]; rfl, HF.out.now.2.2⟩
      | false =>
        have HC' := Hold.mk (HC.out k false wr hlt hf hm)
        have HX := Hold.mk hf
        clear ha hb hm hf
        go_wp2_with (go_at_call 72; refine HC'.out.mono ?_; rintro e w1 ⟨rfl, hM⟩; have HF := Hold.mk (HF.out.later hM); clear hM)
        go_roundw
        case rel => exact ⟨k + 1, by omega, by go_num, fun j hj => by
          rcases Nat.lt_succ_iff_lt_or_eq.1 hj with h | rfl
          · exact H0.out j h
          · exact HX.out, HF.out⟩
        case measure => simp [intOf]; omega
    · obtain rfl : k = d.bl.length := by omega
      have HX : Hold (failing d r (s1, s2) = none) := ⟨find_none H0.out⟩
      go_wp2
      go_ret2
      exact ⟨by rw [HX.out]; rfl, HF.out.now.2.2⟩

set_option maxHeartbeats 400000 in
theorem allBlades_any (ao : Option Addr) (cap : Nat) (d : Dye) (w : World) (hn : d.bl.length ≤ 5) :
    Calls Tryd.prog 69 #[dyV ao d.bl.length cap d] w fun e w' => e = .returned (.int .i64 (allS d)) ∧ Mod noB w w' := by
  have he : Hold (∀ n, d.bl.length = n → (allS d : Int) = 2 ^ n - 1) := ⟨fun n hn2 => by
    have : (1 : Nat) ≤ 2 ^ d.bl.length := Nat.one_le_two_pow
    unfold allS
    rw [Int.natCast_sub this, ← hn2]; simp⟩
  obtain ⟨n, hnn⟩ : ∃ n, d.bl.length = n := ⟨_, rfl⟩
  have HE := Hold.mk (he.out n hnn)
  rw [hnn] at hn ⊢
  clear he hnn
  rcases (by omega : n = 0 ∨ n = 1 ∨ n = 2 ∨ n = 3 ∨ n = 4 ∨ n = 5) with rfl | rfl | rfl | rfl | rfl | rfl
  all_goals
    go_enter Tryd.func69, Tryd.ntmps69
    go_wp2
    go_ret
    exact ⟨by rw [HE.out]; rfl, (Mod.refl _ _).alloc _⟩
end Go.Proofs.YtdncppempgpooaaDoor

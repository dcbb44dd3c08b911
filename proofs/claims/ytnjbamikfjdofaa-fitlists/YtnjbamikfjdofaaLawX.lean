/- FitLists: the walk. -/
import Derived.Test.YtnjbamikfjdofaaListsM
set_option linter.unusedSimpArgs false
set_option linter.unusedVariables false
namespace Go.Proofs.Ytnjbamikfjdofaa
open Go.RowKit Go.Shelf

def LS (p : Ply) (s : Edg) (w w' : World) : Prop := (Mod noB w w' ∧ w'.heap[w.heap.size]? = some (.cells (plC p) 25)) ∧ w'.heap[w.heap.size + 1]? = some (.cells (edC s) 27)
theorem ls_kept (p : Ply) (s : Edg) (w : World) : Kept ((w.alloc (.cells (plC p) 25)).alloc (.cells (edC s) 27)) (LS p s w) := fun w' h => by
  rw [allocL2] at h
  exact ⟨⟨(allocL_mod noB _ w).trans h, at_allocL _ h 0 _ rfl⟩, at_allocL _ h 1 _ rfl⟩
theorem at_ltX {w : World} {b : Nat} {o : Obj} (h : w.heap[b]? = some o) : b < w.heap.size := (Array.getElem?_eq_some_iff.1 h).1

/-- How many of the first k numbers are named in a list of indices. -/
structure Count (L : List Int) (A : Nat → Nat) (f : Int → Bool) (Z : Nat → Int) (n : Nat) : Prop where
  zero : A 0 = 0
  last : A n = L.length
  yes : ∀ k, k < n → f (Z k) = true → A k < L.length ∧ L[A k]?.getD 0 = (k : Int) ∧ A (k + 1) = A k + 1
  no : ∀ k, k < n → f (Z k) = false → A (k + 1) = A k
  le : ∀ k, A k ≤ k
theorem count_of (f : Int → Bool) (L : List Int) : Count (indicesR f L) (fun k => (indicesTo f L k).length) f (fun k => L[k]?.getD 0) L.length :=
  ⟨rfl, rfl, fun k hk hf => ⟨(index_next hk hf).1, (index_next hk hf).2, by show (indicesTo f L (k + 1)).length = _; rw [indicesTo_yes hf]; simp⟩, fun k hk hf => by show (indicesTo f L (k + 1)).length = _; rw [indicesTo_no hf], fun k => indicesTo_len f L k⟩

set_option maxHeartbeats 1000000 in
theorem lists_long (p : Ply) (s : Edg) (ao : Option Addr) (n cap : Nat) (c : Int) (w : World) (hn : 50 < n) (hn2 : n ≤ 9223372036854775807) :
    Calls Try.prog 13 #[plV p, edV s, .slice ao n cap, .int .u8 c] w fun e w' => e = .returned (.bool true) ∧ Mod noB w w' := by
  have HF := Hold.mk (ls_kept p s w)
  go_enter Try.func13, Try.ntmps13
  go_wp2_with (go_at_call 21; refine (alive_any _).mono ?_; rintro e w1 ⟨rfl, hM⟩; replace HF := Hold.mk (HF.out.later hM); clear hM)
  go_ret
  exact ⟨rfl, HF.out.now.1.1⟩

set_option maxHeartbeats 4000000 in
theorem lists_err (p : Ply) (s : Edg) (ao : Option Addr) (es : List Edg) (cap : Nat) (c : Int) (w : World) (er : Int) (hn : es.length ≤ 50) (her : er = 1 ∨ er = 3) (hes : EdgesAt w ao es)
    (HL : Hold (∀ w, EdgesAt w ao es → Calls Try.prog 24 #[plV p, edV s, .slice ao es.length cap] w fun e w' => TwoAt e w w' [] [] er)) :
    Calls Try.prog 13 #[plV p, edV s, .slice ao es.length cap, .int .u8 c] w fun e w' => e = .returned (.bool true) ∧ Mod noB w w' := by
  have HF := Hold.mk (ls_kept p s w)
  have HE := Hold.mk hes
  clear hes
  rcases her with rfl | rfl
  all_goals
    go_enter Try.func13, Try.ntmps13
    go_wp2_with (first
      | (go_at_call 24; refine (HL.out _ (HE.out.mod (((Mod.refl noB w).alloc _).alloc _))).mono ?_; rintro e w1 ⟨a1, c1, a2, c2, rfl, i1, i2, hM⟩; clear i1 i2; replace HF := Hold.mk (HF.out.later hM); clear hM)
      | (go_at_call 21; refine (alive_any _).mono ?_; rintro e w2 ⟨rfl, hM⟩; replace HF := Hold.mk (HF.out.later hM); clear hM))
    go_ret
    exact ⟨rfl, HF.out.now.1.1⟩

set_option maxRecDepth 100000 in
set_option maxHeartbeats 16000000 in
theorem lists_ok (p : Ply) (s : Edg) (ao : Option Addr) (es : List Edg) (cap t : Nat) (w : World) (L1 L2 M1 M2 : List Int) (A B : Nat → Nat) (Z : Nat → Int) (hn : es.length ≤ 40) (ht : t ≤ 255) (hes : EdgesAt w ao es)
    (hm1 : M1.length = L1.length) (hm2 : M2.length = L2.length) (CA : Hold (Count L1 A surely Z es.length)) (CB : Hold (Count L2 B maybe Z es.length))
    (HZ : Hold (∀ k x, es[k]? = some x → (Z k = 0 ∨ Z k = 1 ∨ Z k = 2) ∧ ∀ w, Calls Try.prog 15 #[plV p, edV s, edV x] w fun e w' => e = .returned (.tuple #[.int .i64 (Z k), .int .i64 0]) ∧ Mod noB w w'))
    (HL : Hold (∀ w, EdgesAt w ao es → Calls Try.prog 24 #[plV p, edV s, .slice ao es.length cap] w fun e w' => TwoAt e w w' L1 L2 0))
    (HL2 : Hold (∀ bo cap2 w, EdgesAt w bo (turnedTo es t es.length) → Calls Try.prog 24 #[plV p, edV s, .slice bo es.length cap2] w fun e w' => TwoAt e w w' M1 M2 0)) :
    Calls Try.prog 13 #[plV p, edV s, .slice ao es.length cap, .int .u8 t] w fun e w' => e = .returned (.bool true) ∧ Mod noB w w' := by
  have HF := Hold.mk (ls_kept p s w)
  have HE := Hold.mk hes
  clear hes
  obtain ⟨i0, hi, hz0, hz1, hz2⟩ := info_parts info27
  go_enter Try.func13, Try.ntmps13
  go_wp2_with (first
      | (go_at_call 24; refine (HL.out _ (HE.out.mod (((Mod.refl noB w).alloc _).alloc _))).mono ?_; rintro e w1 ⟨a1, c1, a2, c2, rfl, i1, i2, hM⟩; have I1 := Hold.mk i1; have I2 := Hold.mk i2; clear i1 i2; replace HF := Hold.mk (HF.out.later hM); replace HE := Hold.mk (HE.out.mod HF.out.now.1.1); clear hM))
  go_loopw [12, 59] (fun v i wr => ∃ k : Nat, k ≤ es.length ∧ i = .int .i64 k ∧ Hold (wr.ownsRow w1.heap.size 27 7 v k ((turnedTo es t k).flatMap edL)) ∧ Hold (Mod noB w1 wr)) (fun _ i _ => es.length - (intOf i).toNat)
  case atStart => exact ⟨0, Nat.zero_le _, rfl, ⟨World.ownsRow_nil _ _ _ _⟩, ⟨Mod.refl _ _⟩⟩
  case round =>
    obtain ⟨k, hk, rfl, HOW, HMR⟩ := hrel
    by_cases hlt : k < es.length
    · have hq := Nat.mod_lt (k + t) (Nat.lt_of_le_of_lt (Nat.zero_le _) hlt)
      have hrem : ((k : Int) + (t : Int)).tmod (es.length : Int) = (((k + t) % es.length : Nat) : Int) := by
        rw [Int.tmod_eq_emod_of_nonneg (by omega), Int.natCast_emod, Int.natCast_add]
      obtain ⟨x, hx⟩ : ∃ x, es[(k + t) % es.length]? = some x := ⟨_, List.getElem?_eq_getElem hq⟩
      obtain ⟨b, off, rfl, _, hc⟩ := (HE.out.mod HMR.out).lies (fun e => by simp [e] at hlt)
      obtain ⟨q0, q1, q2, q3, q4, q5, q6⟩ := hc _ x hx
      have HX := Hold.mk (turnedTo_succ hx)
      generalize (k + t) % es.length = q at *
      clear hc hx
      go_wp2_with (at_builtin; refine wpList_append_own _ rfl (.tmp 62) (.tmp 73) 42 rfl w1.heap.size 27 i0 (edV ⟨0, (0, 0), (0, 0), (0, 0)⟩) 7 56 Try.underlying42 hi hz0 hz1 hz2 rfl (by decide) _ _ _ rfl (HOW.out.alloc _) ⟨wr.heap.size, 0, none⟩ 1 1 (edL x) rfl rfl (edge_cells wr x) (by simp [edL, Value.oneCell']) (by unfold maxLen; omega) (by omega) (by have := HMR.out.size; simp; omega) ?_; intro v' wa hown' hgr _; have HW2 := Hold.mk (And.intro hown' hgr); clear hown' hgr)
      go_roundw
      case rel =>
        obtain ⟨hown', hgr⟩ := HW2.out
        refine ⟨k + 1, by omega, by go_num, ⟨?_⟩, ⟨?_⟩⟩
        · rw [HX.out]; exact hown'
        · exact HMR.out.then (((Mod.refl (fun b => w1.heap.size ≤ b) wr).alloc _).trans (Mod.of_grownBy hgr (fun r hr _ => own_ge HOW.out hr))) (fun i h1 h2 => absurd h1 (Nat.not_lt.2 h2))
      case measure => simp [intOf]; omega
    · obtain rfl : k = es.length := by omega
      obtain ⟨bo, cap2, rfl, hbo⟩ := edges_of_owns HOW.out (turnedTo_len _ _ _) (by rw [turnedTo_len]; omega)
      have HBO := Hold.mk hbo
      clear hbo HOW
      replace HF := Hold.mk (HF.out.later HMR.out)
      replace HE := Hold.mk (HE.out.mod HMR.out)
      replace I1 := Hold.mk (I1.out.mod HMR.out)
      replace I2 := Hold.mk (I2.out.mod HMR.out)
      obtain ⟨p0, p1, p2, p3, p4⟩ := PlayAt.of HF.out.now.1.2; have hp := at_ltX HF.out.now.1.2; obtain ⟨s0, s1, s2, s3, s4, s5, s6⟩ := EdgeAt.of HF.out.now.2; have hs := at_ltX HF.out.now.2
      clear HMR
      go_wp2_with (go_at_call 24; refine (HL2.out _ _ _ HBO.out).mono ?_; rintro e w2 ⟨b1, d1, b2, d2, rfl, j1, j2, hM⟩; clear j1 j2 p0 p1 p2 p3 p4 hp s0 s1 s2 s3 s4 s5 s6 hs HBO; replace HF := Hold.mk (HF.out.later hM); replace HE := Hold.mk (HE.out.mod hM); replace I1 := Hold.mk (I1.out.mod hM); replace I2 := Hold.mk (I2.out.mod hM); clear hM)
      go_loopw [17, 18, 86] (fun u v i wr => ∃ k : Nat, k ≤ es.length ∧ i = .int .i64 k ∧ u = .int .i64 (A k) ∧ v = .int .i64 (B k) ∧ Hold (Mod noB w2 wr)) (fun _ _ i _ => es.length - (intOf i).toNat)
      case atStart => exact ⟨0, Nat.zero_le _, rfl, by rw [CA.out.zero]; rfl, by rw [CB.out.zero]; rfl, ⟨Mod.refl _ _⟩⟩
      case round =>
        obtain ⟨k, hk, rfl, rfl, rfl, HMR⟩ := hrel
        replace HF := Hold.mk (HF.out.later HMR.out)
        replace I1 := Hold.mk (I1.out.mod HMR.out)
        replace I2 := Hold.mk (I2.out.mod HMR.out)
        have hA := CA.out.le k
        have hB := CB.out.le k
        obtain ⟨p0, p1, p2, p3, p4⟩ := PlayAt.of HF.out.now.1.2; have hp := at_ltX HF.out.now.1.2; obtain ⟨s0, s1, s2, s3, s4, s5, s6⟩ := EdgeAt.of HF.out.now.2; have hs := at_ltX HF.out.now.2
        by_cases hlt : k < es.length
        · obtain ⟨x, hx⟩ : ∃ x, es[k]? = some x := ⟨_, List.getElem?_eq_getElem hlt⟩
          obtain ⟨b, off, rfl, _, hc⟩ := (HE.out.mod HMR.out).lies (fun e => by simp [e] at hlt)
          obtain ⟨q0, q1, q2, q3, q4, q5, q6⟩ := hc _ x hx
          obtain ⟨hzz, HQ0⟩ := HZ.out k x hx
          have HQ := Hold.mk HQ0
          clear hc hx HQ0
          rcases hzz with hz | hz | hz
          · have HQ' : Hold (∀ w, Calls Try.prog 15 #[plV p, edV s, edV x] w fun e w' => e = .returned (.tuple #[.int .i64 0, .int .i64 0]) ∧ Mod noB w w') := ⟨fun w => by have := HQ.out w; rw [hz] at this; exact this⟩
            have y3 := CA.out.no k hlt (by rw [hz]; rfl)
            have v3 := CB.out.no k hlt (by rw [hz]; rfl)
            have HY := Hold.mk (And.intro y3 v3)
            clear y3 v3 hz
            go_wp2_with (go_at_call 15; refine (HQ'.out _).mono ?_; rintro e w3 ⟨rfl, hM⟩; clear p0 p1 p2 p3 p4 hp s0 s1 s2 s3 s4 s5 s6 hs q0 q1 q2 q3 q4 q5 q6; have HM3 := Hold.mk (((Mod.refl noB wr).alloc _).trans hM); clear hM)
            go_roundw
            case rel => exact ⟨k + 1, by omega, by go_num, by rw [HY.out.1] <;> go_num, by rw [HY.out.2] <;> go_num, ⟨HMR.out.trans HM3.out⟩⟩
            case measure => simp [intOf]; omega
          · have HQ' : Hold (∀ w, Calls Try.prog 15 #[plV p, edV s, edV x] w fun e w' => e = .returned (.tuple #[.int .i64 1, .int .i64 0]) ∧ Mod noB w w') := ⟨fun w => by have := HQ.out w; rw [hz] at this; exact this⟩
            have y3 := CA.out.no k hlt (by rw [hz]; rfl)
            obtain ⟨v1, v2, v3⟩ := CB.out.yes k hlt (by rw [hz]; rfl)
            obtain ⟨b2', f2, rfl, l2, g2⟩ := I2.out.lies (fun e => by simp [e] at v1)
            have g2' := g2 _ v1; rw [v2] at g2'; clear g2
            have HY := Hold.mk (And.intro y3 v3)
            clear y3 v3 hz
            go_wp2_with (go_at_call 15; refine (HQ'.out _).mono ?_; rintro e w3 ⟨rfl, hM⟩; clear p0 p1 p2 p3 p4 hp s0 s1 s2 s3 s4 s5 s6 hs q0 q1 q2 q3 q4 q5 q6; have HM3 := Hold.mk (((Mod.refl noB wr).alloc _).trans hM); clear hM; have g2'' := (cell_same (HM3.out.block _ l2 id) _).trans g2'; have l2' := Nat.lt_of_lt_of_le l2 HM3.out.size; clear g2' l2)
            go_roundw
            case rel => exact ⟨k + 1, by omega, by go_num, by rw [HY.out.1] <;> go_num, by rw [HY.out.2] <;> go_num, ⟨HMR.out.trans HM3.out⟩⟩
            case measure => simp [intOf]; omega
          · have HQ' : Hold (∀ w, Calls Try.prog 15 #[plV p, edV s, edV x] w fun e w' => e = .returned (.tuple #[.int .i64 2, .int .i64 0]) ∧ Mod noB w w') := ⟨fun w => by have := HQ.out w; rw [hz] at this; exact this⟩
            obtain ⟨y1, y2, y3⟩ := CA.out.yes k hlt (by rw [hz]; rfl)
            obtain ⟨b1', f1, rfl, l1, g1⟩ := I1.out.lies (fun e => by simp [e] at y1)
            have g1' := g1 _ y1; rw [y2] at g1'; clear g1
            obtain ⟨v1, v2, v3⟩ := CB.out.yes k hlt (by rw [hz]; rfl)
            obtain ⟨b2', f2, rfl, l2, g2⟩ := I2.out.lies (fun e => by simp [e] at v1)
            have g2' := g2 _ v1; rw [v2] at g2'; clear g2
            have HY := Hold.mk (And.intro y3 v3)
            clear y3 v3 hz
            go_wp2_with (go_at_call 15; refine (HQ'.out _).mono ?_; rintro e w3 ⟨rfl, hM⟩; clear p0 p1 p2 p3 p4 hp s0 s1 s2 s3 s4 s5 s6 hs q0 q1 q2 q3 q4 q5 q6; have HM3 := Hold.mk (((Mod.refl noB wr).alloc _).trans hM); clear hM; have g1'' := (cell_same (HM3.out.block _ l1 id) _).trans g1'; have l1' := Nat.lt_of_lt_of_le l1 HM3.out.size; clear g1' l1; have g2'' := (cell_same (HM3.out.block _ l2 id) _).trans g2'; have l2' := Nat.lt_of_lt_of_le l2 HM3.out.size; clear g2' l2)
            go_roundw
            case rel => exact ⟨k + 1, by omega, by go_num, by rw [HY.out.1] <;> go_num, by rw [HY.out.2] <;> go_num, ⟨HMR.out.trans HM3.out⟩⟩
            case measure => simp [intOf]; omega
        · obtain rfl : k = es.length := by omega
          have e1 := CA.out.last
          have e2 := CB.out.last
          rw [e1, e2]
          go_wp2_with (go_at_call 21; refine (alive_any _).mono ?_; rintro e w9 ⟨rfl, hM⟩; replace HF := Hold.mk (HF.out.later hM); clear hM)
          go_ret
          exact ⟨rfl, HF.out.now.1.1⟩
end Go.Proofs.Ytnjbamikfjdofaa

/- FitPairs: the walk. -/
import Derived.Test.YtnjbamikfjdofaaRefRa
import Derived.Test.YtnjbamikfjdofaaAlive
set_option linter.unusedSimpArgs false
set_option linter.unusedVariables false
namespace Go.Proofs.Ytnjbamikfjdofaa
open Go.RowKit Go.Shelf

theorem twoR_at {L1 L2 : List Int} {er : Int} {w w' : World} {e : Ending} (h : TwoR L1 L2 er w e w') (h1 : L1.length ≤ 1000000) (h2 : L2.length ≤ 1000000) : TwoAt e w w' L1 L2 er := by
  obtain ⟨v1, v2, rfl, i1, i2, hm⟩ := h
  obtain ⟨a1, c1, rfl, j1⟩ := i1.ints h1
  obtain ⟨a2, c2, rfl, j2⟩ := i2.ints h2
  exact ⟨a1, c1, a2, c2, rfl, j1, j2, hm⟩

def goodN2 (n : Nat) : Prop := n ≤ 5 ∨ 8 < n ∧ n ≤ 12
/-- Where the numbers of tabs and of holes lie. -/
def PK2 (p : Ply) (s : Edg) (m k : Nat) (w w' : World) : Prop := OK2 p s w w' ∧ w'.heap[w.heap.size + 1 + 1]? = some (.cells #[.int .i64 m, .int .i64 k] 3)
theorem pk2_kept (p : Ply) (s : Edg) (m k : Nat) (w : World) : Kept (((w.alloc (.cells (plC p) 25)).alloc (.cells (edC s) 27)).alloc (.cells #[.int .i64 m, .int .i64 k] 3)) (PK2 p s m k w) := fun w' h => by
  rw [allocL3] at h
  exact ⟨⟨⟨(allocL_mod noB _ w).trans h, at_allocL _ h 0 _ rfl⟩, at_allocL _ h 1 _ rfl⟩, at_allocL _ h 2 _ rfl⟩

set_option maxRecDepth 100000 in
set_option maxHeartbeats 16000000 in
theorem fitPairs_walk (p : Ply) (s : Edg) (a1 b1 c1 : Option Addr) (n m k ca cb cc : Nat) (w : World) (hn : n ≤ 9223372036854775807) (hm : m ≤ 9223372036854775807) (hk : k ≤ 9223372036854775807)
    (HC : Hold (goodN2 m → goodN2 k → n ≤ 50 → ∃ L1 L2 L3 L4 e1 e2, (∀ w', Mod noB w w' → Calls Try.prog 24 #[plV p, edV s, .slice a1 n ca] w' fun e w2 => TwoAt e w' w2 L1 L2 e1) ∧ (∀ w', Mod noB w w' → Calls Try.prog 25 #[plV p, edV s, .slice a1 n ca] w' fun e w2 => TwoAt e w' w2 L1 L2 e1) ∧
      (∀ w', Mod noB w w' → Calls Try.prog 26 #[plV p, .slice b1 m cb, .slice c1 k cc] w' fun e w2 => TwoAt e w' w2 L3 L4 e2) ∧ (∀ w', Mod noB w w' → Calls Try.prog 27 #[plV p, .slice b1 m cb, .slice c1 k cc] w' fun e w2 => TwoAt e w' w2 L3 L4 e2))) :
    Calls Try.prog 5 #[plV p, edV s, .slice a1 n ca, .slice b1 m cb, .slice c1 k cc] w fun e w' => e = .returned (.bool true) ∧ Mod noB w w' := by
  have HF := Hold.mk (pk2_kept p s m k w)
  go_enter Try.func5, Try.ntmps5
  go_wp2_with fail
  go_loopw [31] (fun i wr => ∃ j : Int, i = .int .i64 j ∧ (j = 0 ∨ (j = 1 ∧ goodN2 m) ∨ (j = 2 ∧ goodN2 m ∧ goodN2 k)) ∧ Hold (Kept wr (PK2 p s m k w))) (fun i _ => 2 - (intOf i).toNat)
  case atStart => exact ⟨0, rfl, .inl rfl, HF⟩
  case round =>
    clear HF
    obtain ⟨j, rfl, hj, HF⟩ := hrel
    have c0 := cellsAt HF.out.now.2 0; have c1' := cellsAt HF.out.now.2 1; have hcl := at_ltQ HF.out.now.2
    rcases hj with rfl | ⟨rfl, gm⟩ | ⟨rfl, gm, gk⟩
    · by_cases h5 : m ≤ 5
      · go_wp2_with fail
        go_roundw
        case rel => exact ⟨1, rfl, .inr (.inl ⟨rfl, .inl h5⟩), HF⟩
        case measure => simp [intOf]
      · by_cases h8 : m ≤ 8
        · go_wp2_with (go_at_call 21; refine (alive_any _).mono ?_; rintro e w9 ⟨rfl, hM⟩; replace HF := Hold.mk (HF.out.later hM); clear hM)
          go_ret
          exact ⟨rfl, HF.out.now.1.1.1⟩
        · by_cases h12 : m ≤ 12
          · go_wp2_with fail
            go_roundw
            case rel => exact ⟨1, rfl, .inr (.inl ⟨rfl, .inr ⟨by omega, h12⟩⟩), HF⟩
            case measure => simp [intOf]
          · go_wp2_with (go_at_call 21; refine (alive_any _).mono ?_; rintro e w9 ⟨rfl, hM⟩; replace HF := Hold.mk (HF.out.later hM); clear hM)
            go_ret
            exact ⟨rfl, HF.out.now.1.1.1⟩
    · have GM := Hold.mk gm
      clear gm
      by_cases h5 : k ≤ 5
      · go_wp2_with fail
        go_roundw
        case rel => exact ⟨2, rfl, .inr (.inr ⟨rfl, GM.out, .inl h5⟩), HF⟩
        case measure => simp [intOf]
      · by_cases h8 : k ≤ 8
        · go_wp2_with (go_at_call 21; refine (alive_any _).mono ?_; rintro e w9 ⟨rfl, hM⟩; replace HF := Hold.mk (HF.out.later hM); clear hM)
          go_ret
          exact ⟨rfl, HF.out.now.1.1.1⟩
        · by_cases h12 : k ≤ 12
          · go_wp2_with fail
            go_roundw
            case rel => exact ⟨2, rfl, .inr (.inr ⟨rfl, GM.out, .inr ⟨by omega, h12⟩⟩), HF⟩
            case measure => simp [intOf]
          · go_wp2_with (go_at_call 21; refine (alive_any _).mono ?_; rintro e w9 ⟨rfl, hM⟩; replace HF := Hold.mk (HF.out.later hM); clear hM)
            go_ret
            exact ⟨rfl, HF.out.now.1.1.1⟩
    · clear c0 c1' hcl
      by_cases h50 : n ≤ 50
      · obtain ⟨L1, L2, L3, L4, e1, e2, f1, f2, f3, f4⟩ := HC.out gm gk h50
        have F1 := Hold.mk f1; have F2 := Hold.mk f2; have F3 := Hold.mk f3; have F4 := Hold.mk f4
        clear f1 f2 f3 f4 gm gk HC
        replace HF : Hold (Kept wr (OK2 p s w)) := ⟨fun w2 h => (HF.out w2 h).1⟩
        obtain ⟨p0, p1, p2, p3, p4⟩ := PlayAt.of HF.out.now.1.2; have hp := at_ltQ HF.out.now.1.2; obtain ⟨s0, s1, s2, s3, s4, s5, s6⟩ := EdgeAt.of HF.out.now.2; have hs := at_ltQ HF.out.now.2
        have K0 := Hold.mk trivial
        go_wp2_with (first
          | (go_at_call 24; refine (F1.out _ HF.out.now.1.1).mono ?_; rintro e w4 ⟨x1, d1, x2, d2, rfl, i1, i2, hM⟩; clear p0 p1 p2 p3 p4 hp s0 s1 s2 s3 s4 s5 s6 hs; replace HF := Hold.mk (HF.out.later hM); have I1 := Hold.mk ((kept_ints i1).and (kept_ints i2)); clear i1 i2 hM; obtain ⟨p0, p1, p2, p3, p4⟩ := PlayAt.of HF.out.now.1.2; have hp := at_ltQ HF.out.now.1.2; obtain ⟨s0, s1, s2, s3, s4, s5, s6⟩ := EdgeAt.of HF.out.now.2; have hs := at_ltQ HF.out.now.2)
          | (go_at_call 25; refine (F2.out _ HF.out.now.1.1).mono ?_; rintro e w5 ⟨y1, g1, y2, g2, rfl, i1, i2, hM⟩; clear p0 p1 p2 p3 p4 hp s0 s1 s2 s3 s4 s5 s6 hs; replace HF := Hold.mk (HF.out.later hM); have I2 := Hold.mk ((I1.out.later hM).and ((kept_ints i1).and (kept_ints i2))); clear i1 i2 hM I1; obtain ⟨p0, p1, p2, p3, p4⟩ := PlayAt.of HF.out.now.1.2; have hp := at_ltQ HF.out.now.1.2)
          | (go_at_call 26; refine (F3.out _ HF.out.now.1.1).mono ?_; rintro e w6 ⟨x3, d3, x4, d4, rfl, i1, i2, hM⟩; clear p0 p1 p2 p3 p4 hp; replace HF := Hold.mk (HF.out.later hM); have I3 := Hold.mk ((I2.out.later hM).and ((kept_ints i1).and (kept_ints i2))); clear i1 i2 hM I2; obtain ⟨p0, p1, p2, p3, p4⟩ := PlayAt.of HF.out.now.1.2; have hp := at_ltQ HF.out.now.1.2)
          | (go_at_call 27; refine (F4.out _ HF.out.now.1.1).mono ?_; rintro e w7 ⟨y3, g3, y4, g4, rfl, i1, i2, hM⟩; clear p0 p1 p2 p3 p4 hp; replace HF := Hold.mk (HF.out.later hM); have I4 := Hold.mk ((I3.out.later hM).and ((kept_ints i1).and (kept_ints i2))); clear i1 i2 hM I3)
          | (go_at_call 28; have Kx := K0; refine (callInts _ _ L1 _ _ _ _ rfl rfl _ I4.out.now.1.1.1.1 I4.out.now.1.1.2.1).mono ?_; rintro e w8 ⟨rfl, hM⟩; replace HF := Hold.mk (HF.out.later hM); replace I4 := Hold.mk (I4.out.later hM); clear hM K0 Kx; have K1 := Hold.mk trivial)
          | (go_at_call 28; have Kx := K1; refine (callInts _ _ L2 _ _ _ _ rfl rfl _ I4.out.now.1.1.1.2 I4.out.now.1.1.2.2).mono ?_; rintro e w8 ⟨rfl, hM⟩; replace HF := Hold.mk (HF.out.later hM); replace I4 := Hold.mk (I4.out.later hM); clear hM K1 Kx; have K2 := Hold.mk trivial)
          | (go_at_call 28; have Kx := K2; refine (callInts _ _ L3 _ _ _ _ rfl rfl _ I4.out.now.1.2.1 I4.out.now.2.1).mono ?_; rintro e w8 ⟨rfl, hM⟩; replace HF := Hold.mk (HF.out.later hM); replace I4 := Hold.mk (I4.out.later hM); clear hM K2 Kx; have K3 := Hold.mk trivial)
          | (go_at_call 28; have Kx := K3; refine (callInts _ _ L4 _ _ _ _ rfl rfl _ I4.out.now.1.2.2 I4.out.now.2.2).mono ?_; rintro e w8 ⟨rfl, hM⟩; replace HF := Hold.mk (HF.out.later hM); replace I4 := Hold.mk (I4.out.later hM); clear hM K3 Kx)
          | (go_at_call 21; refine (alive_any _).mono ?_; rintro e w9 ⟨rfl, hM⟩; replace HF := Hold.mk (HF.out.later hM); clear hM))
        go_ret
        exact ⟨rfl, HF.out.now.1.1⟩
      · clear gm gk
        go_wp2_with (go_at_call 21; refine (alive_any _).mono ?_; rintro e w9 ⟨rfl, hM⟩; replace HF := Hold.mk (HF.out.later hM); clear hM)
        go_ret
        exact ⟨rfl, HF.out.now.1.1.1⟩
end Go.Proofs.Ytnjbamikfjdofaa

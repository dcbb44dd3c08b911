/- The document's Cost. -/
import Derived.Test.YtdncppempgpooaaDoorRwG
set_option linter.unusedSimpArgs false
set_option linter.unusedVariables false
namespace Go.Proofs.YtdncppempgpooaaDoor
open Go.RowKit Go.Shelf

def costR (d : Dye) (p : List Int) : Int := (p.map fun x => priceR d x.toNat).sum
theorem costR_snoc (d : Dye) (p : List Int) (x : Int) : costR d (p ++ [x]) = costR d p + priceR d x.toNat := by simp [costR]
def bitsN (s m : Nat) : Nat := ((List.range m).filter s.testBit).length
theorem bitsN_succ (s m : Nat) : bitsN s (m + 1) = bitsN s m + if s.testBit m then 1 else 0 := by
  unfold bitsN
  rw [List.range_succ, List.filter_append, List.length_append]
  by_cases h : s.testBit m <;> simp [h]
theorem bitsN_le (s m : Nat) : bitsN s m ≤ m := by
  unfold bitsN
  exact Nat.le_trans (List.length_filter_le _ _) (by simp)
theorem bitsN_zero (m : Nat) : bitsN 0 m = 0 := by simp [bitsN]
theorem price_bits (d : Dye) (s : Nat) : priceR d s = (if s = 0 then 0 else d.stop) + (bitsN s 5 : Nat) * d.bend := by
  unfold priceR
  by_cases h : s = 0
  · subst h; simp [bitsN_zero]
  · rw [if_neg h, if_neg h]; rfl
theorem bits_mul {b : Nat} {e : Int} (hb : b ≤ 5) (he : 0 ≤ e) (he2 : e ≤ 10000) : 0 ≤ (b : Int) * e ∧ (b : Int) * e ≤ 50000 := by
  have h1 := Int.mul_le_mul (a := (b : Int)) (b := e) (c := 5) (d := 10000) (by omega) he2 he (by omega)
  have h2 := Int.mul_nonneg (a := (b : Int)) (b := e) (by omega) he
  omega
theorem costR_bd (d : Dye) (h1 : 0 ≤ d.stop ∧ d.stop ≤ 10000) (h2 : 0 ≤ d.bend ∧ d.bend ≤ 10000) (p : List Int) : 0 ≤ costR d p ∧ costR d p ≤ p.length * 60000 := by
  induction p with
  | nil => simp [costR]
  | cons x p ih =>
    have : costR d (x :: p) = priceR d x.toNat + costR d p := by simp [costR]
    rw [this, price_bits]
    have hb := bits_mul (bitsN_le x.toNat 5) h2.1 h2.2
    simp only [List.length_cons]
    by_cases h : x.toNat = 0 <;> simp only [h, if_true, if_false] at * <;> omega

set_option maxRecDepth 100000 in
set_option maxHeartbeats 4000000 in
theorem refCost_any (B : Nat) (ao : Option Addr) (cap : Nat) (d : Dye) (po : Option Addr) (pcap : Nat) (p : List Int) (w : World) (hd : dieB d = true) (hp : IntsAt w po p) (h12 : p.length ≤ 12) (hpx : ∀ x ∈ p, 0 ≤ x ∧ x ≤ 31) :
    Calls Tryd.prog 31 #[dyV ao d.bl.length cap d, .slice po p.length pcap] w fun e w' => e = .returned (.int .i64 (costR d p)) ∧ Mod noB w w' := by
  obtain ⟨_, _, _, s1, s2⟩ := dieB_parts hd
  have hb0 := World.alloc_heap_new w (.cells (dyC ao d.bl.length cap d) 24)
  have HF := Hold.mk (show Kept (w.alloc (.cells (dyC ao d.bl.length cap d) 24)) (fun W => (W.heap[w.heap.size]? = some (.cells (dyC ao d.bl.length cap d) 24) ∧ IntsAt W po p) ∧ Mod noB w W) from fun W h => ⟨⟨h.at hb0 id, hp.mod (((Mod.refl noB w).alloc _).trans h)⟩, ((Mod.refl noB w).alloc _).trans h⟩)
  have HP := Hold.mk hpx
  clear hp hb0 hpx hd
  go_enter Tryd.func31, Tryd.ntmps31
  go_wp2
  go_loopw [5, 6] (fun n i wr => ∃ k : Nat, k ≤ p.length ∧ i = .int .i64 k ∧ n = .int .i64 (costR d (p.take k)) ∧ Mod noB (w.alloc (.cells (dyC ao d.bl.length cap d) 24)) wr) (fun _ i _ => p.length - (intOf i).toNat)
  case atStart => exact ⟨0, Nat.zero_le _, rfl, rfl, Mod.refl _ _⟩
  case round =>
    obtain ⟨k, hk, rfl, rfl, hm⟩ := hrel
    have HW := Hold.mk (HF.out.later hm)
    have HMM := Hold.mk hm
    clear hm
    by_cases hlt : k < p.length
    · obtain ⟨x, hx⟩ : ∃ x, p[k]? = some x := ⟨_, List.getElem?_eq_getElem hlt⟩
      obtain ⟨b, off, rfl, hb, hc⟩ := HW.out.now.1.2.lies (fun e => by simp [e] at hlt)
      obtain ⟨x0, x31⟩ := HP.out x (List.mem_of_getElem? hx)
      have hq := hc k hlt
      rw [hx, Option.getD_some] at hq
      have FIN : Hold (∀ W', Mod noB wr W' → W'.cell? ⟨w.heap.size, 2, none⟩ = some (.int .i64 d.stop) ∧ W'.cell? ⟨w.heap.size, 3, none⟩ = some (.int .i64 d.bend) ∧ W'.cell? ⟨b, off + k, none⟩ = some (.int .i64 x)) := ⟨fun W' h => ⟨cellsAt (HW.out W' h).1.1 2, cellsAt (HW.out W' h).1.1 3, (cell_same (h.block b (by omega) id) _).trans hq⟩⟩
      have HN : Hold (costR d (p.take (k + 1)) = costR d (p.take k) + priceR d x.toNat) := ⟨by
        rw [List.take_succ_eq_append_getElem hlt, costR_snoc]
        rw [List.getElem?_eq_getElem hlt] at hx
        rw [Option.some.inj hx]⟩
      have hbd := costR_bd d s1 s2 (p.take k)
      have hlk : (p.take k).length = k := by simp; omega
      rw [hlk] at hbd
      obtain ⟨s, rfl⟩ : ∃ s : Nat, x = s := ⟨x.toNat, by omega⟩
      rw [Int.toNat_natCast] at HN
      have HX := Hold.mk hx
      generalize costR d (p.take k) = c at *
      have hkI : (k : Int) ≤ 12 := by omega
      have hc2 : c ≤ 720000 := by omega
      obtain ⟨hc0, _⟩ := hbd
      clear hc hx hb hlk
      generalize wr = W1 at *
      obtain ⟨d0, d1, d2⟩ := FIN.out W1 (Mod.refl _ _)
      obtain ⟨c1, hc1⟩ : ∃ c1, c + (if s = 0 then 0 else d.stop) = c1 := ⟨_, rfl⟩
      have hcb : 0 ≤ c1 ∧ c1 ≤ 730000 := by split at hc1 <;> omega
      have HN2 : Hold (costR d (p.take (k + 1)) = c1 + (bitsN s 5 : Nat) * d.bend) := ⟨by rw [HN.out, price_bits, ← hc1]; omega⟩
      have hv : IntKind.i64.wrap (c + d.stop) = c + d.stop := IntWalk.i64_in _ (by omega)
      rcases (by omega : s = 0 ∨ 0 < s) with hs0 | hs0
      · have hsI : ¬ (0 : Int) < (s : Int) := by omega
        rw [if_pos hs0] at hc1
        clear hs0
        go_wp2
        go_loopw [5, 7] (fun n j wr => ∃ m : Nat, m ≤ 5 ∧ j = .int .i64 m ∧ n = .int .i64 (c1 + (bitsN s m : Nat) * d.bend) ∧ Mod noB W1 wr) (fun _ j _ => 5 - (intOf j).toNat)
        case atStart => exact ⟨0, by omega, rfl, by rw [show bitsN s 0 = 0 from rfl]; first | (simp; done) | (simp; omega), Mod.refl _ _⟩
        case round =>
          obtain ⟨m, hm5, rfl, rfl, hmm⟩ := hrel
          obtain ⟨e0, e1, e2⟩ := FIN.out wr hmm
          have HMi := Hold.mk hmm
          have hbm := bits_mul (Nat.le_trans (bitsN_le s m) hm5) s2.1 s2.2
          have HC1 := Hold.mk hc1
          clear hmm hc1
          by_cases hlt2 : m < 5
          · have H33 : Hold (∀ W, Calls Tryd.prog 33 #[.int .i64 s, .int .i64 m] W fun e w' => e = .returned (.bool (s.testBit m)) ∧ Mod noB W w') := ⟨fun W => has_any s m W (by omega) (by omega)⟩
            have HS := Hold.mk (bitsN_succ s m)
            generalize bitsN s m = bn at *
            obtain ⟨v, hv⟩ : ∃ v, c1 + (bn : Int) * d.bend = v := ⟨_, rfl⟩
            have HV : Hold (c1 + ((bn + 1 : Nat) : Int) * d.bend = v + d.bend) := ⟨by rw [← hv, Int.natCast_add, Int.add_mul]; omega⟩
            have HV0 := Hold.mk hv
            have hvb : 0 ≤ v ∧ v ≤ 780000 := by omega
            rw [hv]
            clear hv
            cases ht : s.testBit m
            all_goals
              rw [ht] at H33 HS
              go_wp2_with (go_at_call 33; refine (H33.out _).mono ?_; rintro e w2 ⟨rfl, hM⟩; have HMi := Hold.mk (HMi.out.trans hM); obtain ⟨f0, f1, f2⟩ := FIN.out w2 HMi.out; clear hM)
              go_roundw
              case rel => exact ⟨m + 1, by omega, by go_num, by rw [HS.out]; simp only [if_true, Bool.false_eq_true, if_false, Nat.add_zero]; first | rw [HV0.out] | rw [HV.out], HMi.out⟩
              case measure => simp [intOf]; omega
          · obtain rfl : m = 5 := by omega
            rw [← HN2.out]
            go_wp2
            go_roundw
            case rel => exact ⟨k + 1, by omega, by go_num, rfl, HMM.out.trans HMi.out⟩
            case measure => simp [intOf]; omega
      · have hsI : (0 : Int) < (s : Int) := by omega
        rw [if_neg (by omega)] at hc1
        go_wp2
        go_loopw [5, 7] (fun n j wr => ∃ m : Nat, m ≤ 5 ∧ j = .int .i64 m ∧ n = .int .i64 (c1 + (bitsN s m : Nat) * d.bend) ∧ Mod noB W1 wr) (fun _ j _ => 5 - (intOf j).toNat)
        case atStart => exact ⟨0, by omega, rfl, by rw [show bitsN s 0 = 0 from rfl]; first | (simp; done) | (simp; omega), Mod.refl _ _⟩
        case round =>
          obtain ⟨m, hm5, rfl, rfl, hmm⟩ := hrel
          obtain ⟨e0, e1, e2⟩ := FIN.out wr hmm
          have HMi := Hold.mk hmm
          have hbm := bits_mul (Nat.le_trans (bitsN_le s m) hm5) s2.1 s2.2
          have HC1 := Hold.mk hc1
          clear hmm hc1
          by_cases hlt2 : m < 5
          · have H33 : Hold (∀ W, Calls Tryd.prog 33 #[.int .i64 s, .int .i64 m] W fun e w' => e = .returned (.bool (s.testBit m)) ∧ Mod noB W w') := ⟨fun W => has_any s m W (by omega) (by omega)⟩
            have HS := Hold.mk (bitsN_succ s m)
            generalize bitsN s m = bn at *
            obtain ⟨v, hv⟩ : ∃ v, c1 + (bn : Int) * d.bend = v := ⟨_, rfl⟩
            have HV : Hold (c1 + ((bn + 1 : Nat) : Int) * d.bend = v + d.bend) := ⟨by rw [← hv, Int.natCast_add, Int.add_mul]; omega⟩
            have HV0 := Hold.mk hv
            have hvb : 0 ≤ v ∧ v ≤ 780000 := by omega
            rw [hv]
            clear hv
            cases ht : s.testBit m
            all_goals
              rw [ht] at H33 HS
              go_wp2_with (go_at_call 33; refine (H33.out _).mono ?_; rintro e w2 ⟨rfl, hM⟩; have HMi := Hold.mk (HMi.out.trans hM); obtain ⟨f0, f1, f2⟩ := FIN.out w2 HMi.out; clear hM)
              go_roundw
              case rel => exact ⟨m + 1, by omega, by go_num, by rw [HS.out]; simp only [if_true, Bool.false_eq_true, if_false, Nat.add_zero]; first | rw [HV0.out] | rw [HV.out], HMi.out⟩
              case measure => simp [intOf]; omega
          · obtain rfl : m = 5 := by omega
            rw [← HN2.out]
            go_wp2
            go_roundw
            case rel => exact ⟨k + 1, by omega, by go_num, rfl, HMM.out.trans HMi.out⟩
            case measure => simp [intOf]; omega
    · obtain rfl : k = p.length := by omega
      rw [List.take_length]
      go_wp2
      go_ret
      exact ⟨rfl, HW.out.now.2⟩
end Go.Proofs.YtdncppempgpooaaDoor

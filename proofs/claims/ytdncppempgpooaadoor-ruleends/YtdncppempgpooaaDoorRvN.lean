/- The document's Worst, lasts. -/
import Derived.Test.YtdncppempgpooaaDoorRvM
set_option linter.unusedSimpArgs false
set_option linter.unusedVariables false
namespace Go.Proofs.YtdncppempgpooaaDoor
open Go.RowKit Go.Shelf

set_option maxHeartbeats 2000000 in
theorem refWorst_any (B : Nat) (ao : Option Addr) (cap : Nat) (d : Dye) (k : Nat) (n : Int) (w : World) (hB : B ≤ w.heap.size) (hs : BladesAt B w ao d.bl) (hd : dieB d = true) (hk : k < d.bl.length) (hn : 0 ≤ n ∧ n ≤ 100000) :
    Calls Tryd.prog 44 #[dyV ao d.bl.length cap d, .int .i64 k, .int .i64 n] w fun e w' => e = .returned (.int .i64 (mostV (bladeAt d k) n)) ∧ Mod noB w w' := by
  obtain ⟨⟨hl1, hl5⟩, hbs, _⟩ := dieB_parts hd
  have hx := bladeAt_some hk
  have hxb := hbs _ (List.mem_of_getElem? hx)
  obtain ⟨x, hxe⟩ : ∃ x, bladeAt d k = x := ⟨_, rfl⟩
  rw [hxe] at hx hxb
  obtain ⟨b, off, rfl, hb, _⟩ := hs.blade hx
  obtain ⟨b', off', e', _, q0, q1, q2, q3⟩ := (hs.low (Low.ofN ((Mod.refl noB w).alloc (.cells (dyC (some ⟨b, off, none⟩) d.bl.length cap d) 24)) hB)).blade hx
  simp only [Option.some.injEq, Addr.mk.injEq, and_true] at e'
  obtain ⟨rfl, rfl⟩ := e'
  have he : Hold (mostV (bladeAt d k) n = x.f.2 + n * x.w.2) := ⟨by rw [hxe]; rfl⟩
  obtain ⟨⟨f1, f2⟩, w1, w2⟩ := x
  obtain ⟨⟨a1, a2, a3⟩, a4, a5, a6⟩ := hxb
  simp only at a1 a2 a3 a4 a5 a6 q0 q1 q2 q3
  obtain ⟨m1, m2⟩ := mul_bd (m := 10000) (k := 100000) (a := w2) (b := n) (by omega) (by omega)
  have hmul : Hold (n * w2 = w2 * n) := ⟨Int.mul_comm _ _⟩
  obtain ⟨v, hv⟩ : ∃ v, w2 * n = v := ⟨_, rfl⟩
  rw [hv] at m1 m2
  have hki : (k : Int) < (d.bl.length : Int) := by omega
  have hk0 : (0 : Int) ≤ (k : Int) := by omega
  obtain ⟨n1, n2⟩ := hn
  clear hs hbs hx hxe
  go_enter Tryd.func44, Tryd.ntmps44
  go_wp2
  go_ret
  refine ⟨?_, ((Mod.refl _ _).alloc _).alloc _⟩
  rw [he.out, hmul.out, hv]
  rfl

set_option maxHeartbeats 2000000 in
theorem refLasts_any (a c bound : Int) (w : World) (ha : 0 ≤ a ∧ a ≤ 200000) (hc : 0 ≤ c ∧ c ≤ 10000) (hb : 0 ≤ bound ∧ bound ≤ 200000) (hab : a ≤ bound) :
    Calls Tryd.prog 46 #[.int .i64 a, .int .i64 c, .int .i64 bound] w fun e w' => e = .returned (.int .i64 (lastR a c bound)) ∧ Mod noB w w' := by
  obtain ⟨a1, a2⟩ := ha
  obtain ⟨c1, c2⟩ := hc
  obtain ⟨b1, b2⟩ := hb
  have HAB := Hold.mk hab
  clear hab
  go_enter Tryd.func46, Tryd.ntmps46
  go_wp2
  go_loopw [7] (fun i wr => ∃ k : Int, 0 ≤ k ∧ k ≤ 7000 ∧ i = .int .i64 k ∧ a + k * c ≤ bound ∧ Mod noB w wr) (fun i _ => (7000 - intOf i).toNat)
  case atStart => exact ⟨0, by omega, by omega, rfl, by rw [Int.zero_mul]; have := HAB.out; omega, Mod.refl _ _⟩
  case round =>
    obtain ⟨k, hk0, hk7, rfl, hle, hm⟩ := hrel
    have HLE := Hold.mk hle
    have HM := Hold.mk hm
    clear hle hm
    obtain ⟨m1, m2⟩ := mul_bd (m := 10000) (k := 7001) (a := c) (b := k + 1) (by omega) (by omega)
    have hcm : Hold (c * (k + 1) = (k + 1) * c) := ⟨Int.mul_comm _ _⟩
    obtain ⟨v, hv⟩ : ∃ v, c * (k + 1) = v := ⟨_, rfl⟩
    rw [hv] at m1 m2 hcm
    by_cases h1 : k < 7000
    · by_cases h2 : a + v ≤ bound
      · go_wp2
        go_roundw
        case rel => exact ⟨k + 1, by omega, by omega, by go_num, by rw [← hcm.out]; exact h2, HM.out⟩
        case measure => simp [intOf]; omega
      · have hf : Hold (lastR a c bound = k) := ⟨(lastR_of c1 hk0 hk7 HLE.out (.inr (by rw [← hcm.out]; omega))).symm⟩
        go_wp2
        go_ret
        exact ⟨by rw [hf.out]; rfl, HM.out⟩
    · have hf : Hold (lastR a c bound = k) := ⟨(lastR_of c1 hk0 hk7 HLE.out (.inl (by omega))).symm⟩
      go_wp2
      go_ret
      exact ⟨by rw [hf.out]; rfl, HM.out⟩
end Go.Proofs.YtdncppempgpooaaDoor

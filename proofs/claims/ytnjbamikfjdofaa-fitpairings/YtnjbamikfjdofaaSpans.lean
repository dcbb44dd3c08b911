/- What the methods of a span of package fit return. -/
import Derived.Test.YtnjbamikfjdofaaLoop
import Derived.WalkLawsBesides
import Derived.BigQuiet
import Derived.Deep.QuietTactic
set_option linter.unusedSimpArgs false
set_option linter.unusedVariables false
namespace Go.Proofs.Ytnjbamikfjdofaa
open Go.RowKit

@[reducible] def spV (s : Int × Int) : Value := .agg #[.int .i64 s.1, .int .i64 s.2]

/-- A number, or both of a span, within so much. -/
def Small (m : Int) (s : Int × Int) : Prop := (-m ≤ s.1 ∧ s.1 ≤ m) ∧ (-m ≤ s.2 ∧ s.2 ≤ m)
theorem Small.le {m k : Int} {s : Int × Int} (h : Small m s) (hk : m ≤ k) : Small k s := by
  obtain ⟨⟨h1, h2⟩, h3, h4⟩ := h; exact ⟨⟨by omega, by omega⟩, by omega, by omega⟩

def withinB (s : Int × Int) (lo hi : Int) : Bool := decide (lo ≤ s.1) && decide (s.1 ≤ s.2) && decide (s.2 ≤ hi)
def plusR (s o : Int × Int) : Int × Int := (s.1 + o.1, s.2 + o.2)
def lessR (s o : Int × Int) : Int × Int := (s.1 - o.2, s.2 - o.1)
def timesR (s : Int × Int) (n : Int) : Int × Int := (s.1 * n, s.2 * n)
def dampedR (s d : Int × Int) : Int × Int := (min (s.1 * (d.1 + 1000)) (s.1 * (d.2 + 1000)), max (s.2 * (d.1 + 1000)) (s.2 * (d.2 + 1000)))

theorem mul_bd {m k a b : Int} (ha : -m ≤ a ∧ a ≤ m) (hb : -k ≤ b ∧ b ≤ k) : -(m * k) ≤ a * b ∧ a * b ≤ m * k := by
  have h1 : (a * b).natAbs ≤ (m * k).natAbs := by
    rw [Int.natAbs_mul, Int.natAbs_mul]
    exact Nat.mul_le_mul (by omega) (by omega)
  have h2 : 0 ≤ m * k := Int.mul_nonneg (by omega) (by omega)
  omega

theorem plusR_small {m k : Int} {s o : Int × Int} (hs : Small m s) (ho : Small k o) : Small (m + k) (plusR s o) := by
  obtain ⟨⟨a1, a2⟩, a3, a4⟩ := hs; obtain ⟨⟨b1, b2⟩, b3, b4⟩ := ho
  exact ⟨⟨by simp only [plusR]; omega, by simp only [plusR]; omega⟩, by simp only [plusR]; omega, by simp only [plusR]; omega⟩
theorem lessR_small {m k : Int} {s o : Int × Int} (hs : Small m s) (ho : Small k o) : Small (m + k) (lessR s o) := by
  obtain ⟨⟨a1, a2⟩, a3, a4⟩ := hs; obtain ⟨⟨b1, b2⟩, b3, b4⟩ := ho
  exact ⟨⟨by simp only [lessR]; omega, by simp only [lessR]; omega⟩, by simp only [lessR]; omega, by simp only [lessR]; omega⟩
theorem timesR_small {m k n : Int} {s : Int × Int} (hs : Small m s) (hn : -k ≤ n ∧ n ≤ k) : Small (m * k) (timesR s n) := ⟨mul_bd hs.1 hn, mul_bd hs.2 hn⟩
theorem dampedR_small {m k : Int} {s d : Int × Int} (hs : Small m s) (hd : Small k d) : Small (m * (k + 1000)) (dampedR s d) := by
  have e1 : -(k + 1000) ≤ d.1 + 1000 ∧ d.1 + 1000 ≤ k + 1000 := by have := hd.1; omega
  have e2 : -(k + 1000) ≤ d.2 + 1000 ∧ d.2 + 1000 ≤ k + 1000 := by have := hd.2; omega
  have a1 := mul_bd hs.1 e1; have a2 := mul_bd hs.1 e2; have a3 := mul_bd hs.2 e1; have a4 := mul_bd hs.2 e2
  refine ⟨⟨?_, ?_⟩, ?_, ?_⟩ <;> simp only [dampedR] <;> omega

theorem Mod.setNew {T : Nat → Prop} {A B : World} (h : Mod T A B) {b o : Nat} (hb : A.heap.size ≤ b) (v : Value) : Mod T A (B.setCell ⟨b, o, none⟩ v) :=
  h.setCell (fun hl => absurd hl (by show ¬ (b < A.heap.size); omega)) v

/-- All cells that lay read as before, and no mark has turned. -/
theorem bcell {W w1 : World} (hb : Mod noB W w1) : (∀ b o, b < W.heap.size → w1.cell? ⟨b, o, none⟩ = W.cell? ⟨b, o, none⟩) ∧ (∀ b o, b < W.heap.size → w1.frozen? ⟨b, o, none⟩ = W.frozen? ⟨b, o, none⟩) :=
  ⟨fun b o h => hb.below.cell (p := ⟨b, o, none⟩) h, fun b o h => hb.below.frozen (p := ⟨b, o, none⟩) h⟩

set_option maxHeartbeats 400000 in
theorem within_any (s : Int × Int) (lo hi : Int) (w : World) :
    Calls Try.prog 68 #[spV s, .int .i64 lo, .int .i64 hi] w fun e w' => e = .returned (.bool (withinB s lo hi)) ∧ Mod noB w w' := by
  obtain ⟨a, b⟩ := s
  unfold withinB
  by_cases h1 : lo ≤ a <;> by_cases h2 : a ≤ b <;> by_cases h3 : b ≤ hi
  all_goals
    go_enter Try.func68, Try.ntmps68
    go_wp2
    go_ret
    exact ⟨by simp [h1, h2, h3], (Mod.refl _ _).alloc _⟩

set_option maxHeartbeats 400000 in
theorem plus_any (s o : Int × Int) (w : World) (hs : Small 1000000000000 s) (ho : Small 1000000000000 o) :
    Calls Try.prog 75 #[spV s, spV o] w fun e w' => e = .returned (spV (plusR s o)) ∧ Mod noB w w' := by
  obtain ⟨a, b⟩ := s
  obtain ⟨c, d⟩ := o
  obtain ⟨⟨a1, a2⟩, b1, b2⟩ := hs
  obtain ⟨⟨c1, c2⟩, d1, d2⟩ := ho
  go_enter Try.func75, Try.ntmps75
  go_wp2
  exact bodyPost_ret (v := spV (a + c, b + d)) (by simp [results, Try.results75, go_sem]) rfl ⟨rfl, ((((Mod.refl _ _).alloc _).alloc _).alloc _)⟩

set_option maxHeartbeats 400000 in
theorem less_any (s o : Int × Int) (w : World) (hs : Small 1000000000000 s) (ho : Small 1000000000000 o) :
    Calls Try.prog 76 #[spV s, spV o] w fun e w' => e = .returned (spV (lessR s o)) ∧ Mod noB w w' := by
  obtain ⟨a, b⟩ := s
  obtain ⟨c, d⟩ := o
  obtain ⟨⟨a1, a2⟩, b1, b2⟩ := hs
  obtain ⟨⟨c1, c2⟩, d1, d2⟩ := ho
  go_enter Try.func76, Try.ntmps76
  go_wp2
  exact bodyPost_ret (v := spV (a - d, b - c)) (by simp [results, Try.results76, go_sem]) rfl ⟨rfl, ((((Mod.refl _ _).alloc _).alloc _).alloc _)⟩

set_option maxHeartbeats 400000 in
theorem times_any (s : Int × Int) (n : Int) (w : World) (hs : Small 10000000 s) (hn : -20001 ≤ n ∧ n ≤ 20001) :
    Calls Try.prog 78 #[spV s, .int .i64 n] w fun e w' => e = .returned (spV (timesR s n)) ∧ Mod noB w w' := by
  obtain ⟨a, b⟩ := s
  obtain ⟨a1, a2⟩ := mul_bd hs.1 hn
  obtain ⟨b1, b2⟩ := mul_bd hs.2 hn
  obtain ⟨n1, n2⟩ := hn
  obtain ⟨⟨c1, c2⟩, d1, d2⟩ := hs
  simp only at a1 a2 b1 b2 c1 c2 d1 d2
  go_enter Try.func78, Try.ntmps78
  go_wp2
  exact bodyPost_ret (v := spV (a * n, b * n)) (by simp [results, Try.results78, go_sem]) rfl ⟨rfl, (((Mod.refl _ _).alloc _).alloc _)⟩
end Go.Proofs.Ytnjbamikfjdofaa

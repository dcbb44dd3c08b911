/- What the methods of a span of package fit return. -/
import Derived.Test.YtnplhlcifagimaaGev
import Derived.WalkLawsBesides
import Derived.BigQuiet
import Derived.Deep.QuietTactic
set_option linter.unusedSimpArgs false
set_option linter.unusedVariables false
namespace Go.Proofs.Ytnplhlcifagimaa
open Go.RowKit

@[reducible] def spV (s : Int × Int) : Value := .agg #[.int .i64 s.1, .int .i64 s.2]

theorem Small.le {m k : Int} {s : Int × Int} (h : Small m s) (hk : m ≤ k) : Small k s := by
  obtain ⟨⟨h1, h2⟩, h3, h4⟩ := h; exact ⟨⟨by omega, by omega⟩, by omega, by omega⟩

def withinB (s : Int × Int) (lo hi : Int) : Bool := decide (lo ≤ s.1) && decide (s.1 ≤ s.2) && decide (s.2 ≤ hi)
def plusR (s o : Int × Int) : Int × Int := (s.1 + o.1, s.2 + o.2)
def lessR (s o : Int × Int) : Int × Int := (s.1 - o.2, s.2 - o.1)
def timesR (s : Int × Int) (n : Int) : Int × Int := (s.1 * n, s.2 * n)
def dampedR (s d : Int × Int) : Int × Int := (min (s.1 * (d.1 + 1000)) (s.1 * (d.2 + 1000)), max (s.2 * (d.1 + 1000)) (s.2 * (d.2 + 1000)))

theorem plusR_small {m k : Int} {s o : Int × Int} (hs : Small m s) (ho : Small k o) : Small (m + k) (plusR s o) := by
  obtain ⟨⟨a1, a2⟩, a3, a4⟩ := hs; obtain ⟨⟨b1, b2⟩, b3, b4⟩ := ho
  exact ⟨⟨by simp only [plusR]; omega, by simp only [plusR]; omega⟩, by simp only [plusR]; omega, by simp only [plusR]; omega⟩
theorem lessR_small {m k : Int} {s o : Int × Int} (hs : Small m s) (ho : Small k o) : Small (m + k) (lessR s o) := by
  obtain ⟨⟨a1, a2⟩, a3, a4⟩ := hs; obtain ⟨⟨b1, b2⟩, b3, b4⟩ := ho
  exact ⟨⟨by simp only [lessR]; omega, by simp only [lessR]; omega⟩, by simp only [lessR]; omega, by simp only [lessR]; omega⟩
theorem timesR_small {m k n : Int} {s : Int × Int} (hs : Small m s) (hn : -k ≤ n ∧ n ≤ k) : Small (m * k) (timesR s n) := ⟨mul_bd hs.1 hn, mul_bd hs.2 hn⟩
theorem dampedR_small {m k : Int} {s d : Int × Int} (hs : Small m s) (hd : Small k d) : Small (m * (k + 1000)) (dampedR s d) := by
  have e1 : -(k + 1000) ≤ d.1 + 1000 ∧ d.1 + 1000 ≤ k + 1000 := by have := hd.1; omega
  have e2 : -(k + 1000) ≤ d.2 + 1000 ∧ d.2 + 1000 ≤ k + 1000 := by have := hd.2; omega
  have a1 := mul_bd hs.1 e1; have a2 := mul_bd hs.1 e2; have a3 := mul_bd hs.2 e1; have a4 := mul_bd hs.2 e2
  refine ⟨⟨?_, ?_⟩, ?_, ?_⟩ <;> simp only [dampedR] <;> omega

theorem Mod.setNew {T : Nat → Prop} {A B : World} (h : Mod T A B) {b o : Nat} (hb : A.heap.size ≤ b) (v : Value) : Mod T A (B.setCell ⟨b, o, none⟩ v) :=
  h.setCell (fun hl => absurd hl (by show ¬ (b < A.heap.size); omega)) v

/-- All cells that lay read as before, and no mark has turned. -/
theorem bcell {W w1 : World} (hb : Mod noB W w1) : (∀ b o, b < W.heap.size → w1.cell? ⟨b, o, none⟩ = W.cell? ⟨b, o, none⟩) ∧ (∀ b o, b < W.heap.size → w1.frozen? ⟨b, o, none⟩ = W.frozen? ⟨b, o, none⟩) :=
  ⟨fun b o h => hb.below.cell (p := ⟨b, o, none⟩) h, fun b o h => hb.below.frozen (p := ⟨b, o, none⟩) h⟩

set_option maxHeartbeats 400000 in
theorem within_any (s : Int × Int) (lo hi : Int) (w : World) :
    Calls Try.prog 24 #[spV s, .int .i64 lo, .int .i64 hi] w fun e w' => e = .returned (.bool (withinB s lo hi)) ∧ Mod noB w w' := by
  obtain ⟨a, b⟩ := s
  unfold withinB
  by_cases h1 : lo ≤ a <;> by_cases h2 : a ≤ b <;> by_cases h3 : b ≤ hi
  all_goals
    go_enter Try.func24, Try.ntmps24
    go_wp2
    go_ret
    exact ⟨by simp [h1, h2, h3], (Mod.refl _ _).alloc _⟩

set_option maxHeartbeats 400000 in
theorem plus_any (s o : Int × Int) (w : World) (hs : Small 1000000000000 s) (ho : Small 1000000000000 o) :
    Calls Try.prog 38 #[spV s, spV o] w fun e w' => e = .returned (spV (plusR s o)) ∧ Mod noB w w' := by
  obtain ⟨a, b⟩ := s
  obtain ⟨c, d⟩ := o
  obtain ⟨⟨a1, a2⟩, b1, b2⟩ := hs
  obtain ⟨⟨c1, c2⟩, d1, d2⟩ := ho
  go_enter Try.func38, Try.ntmps38
  go_wp2
  exact bodyPost_ret (v := spV (a + c, b + d)) (by simp [results, Try.results38, go_sem]) rfl ⟨rfl, ((((Mod.refl _ _).alloc _).alloc _).alloc _)⟩

set_option maxHeartbeats 400000 in
theorem less_any (s o : Int × Int) (w : World) (hs : Small 1000000000000 s) (ho : Small 1000000000000 o) :
    Calls Try.prog 39 #[spV s, spV o] w fun e w' => e = .returned (spV (lessR s o)) ∧ Mod noB w w' := by
  obtain ⟨a, b⟩ := s
  obtain ⟨c, d⟩ := o
  obtain ⟨⟨a1, a2⟩, b1, b2⟩ := hs
  obtain ⟨⟨c1, c2⟩, d1, d2⟩ := ho
  go_enter Try.func39, Try.ntmps39
  go_wp2
  exact bodyPost_ret (v := spV (a - d, b - c)) (by simp [results, Try.results39, go_sem]) rfl ⟨rfl, ((((Mod.refl _ _).alloc _).alloc _).alloc _)⟩

end Go.Proofs.Ytnplhlcifagimaa

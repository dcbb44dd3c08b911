/- The document's DifferBy, all, some. -/
import Derived.Test.YtnjbamikfjdofaaRefB
import Derived.Test.YtnjbamikfjdofaaKept
set_option linter.unusedSimpArgs false
set_option linter.unusedVariables false
namespace Go.Proofs.Ytnjbamikfjdofaa
open Go.RowKit Go.Shelf

/-- What a tab and a hole differ by, without damp, in six cells. -/
@[reducible] def dfV (x y z : Int × Int) : Value := .agg #[.int .i64 x.1, .int .i64 x.2, .int .i64 y.1, .int .i64 y.2, .int .i64 z.1, .int .i64 z.2]
@[reducible] def dfC (x y z : Int × Int) : Array Value := #[.int .i64 x.1, .int .i64 x.2, .int .i64 y.1, .int .i64 y.2, .int .i64 z.1, .int .i64 z.2]

set_option maxRecDepth 100000 in
set_option maxHeartbeats 2000000 in
theorem differ_any (p : Ply) (t h : Edg) (w : World) (ht : ESmall 1000000 t) (hh : ESmall 1000000 h) (hn : -1000000 ≤ p.len ∧ p.len ≤ 1000000) :
    Calls Try.prog 40 #[plV p, edV t, edV h] w fun e w' => e = .returned (dfV (offR t h p.len) (wideR t h) (deepR t h)) ∧ Mod noB w w' := by
  obtain ⟨len, slack, loose, damp⟩ := p
  obtain ⟨tk, ⟨ta1, ta2⟩, ⟨tw1, tw2⟩, ⟨td1, td2⟩⟩ := t
  obtain ⟨hk, ⟨ha1, ha2⟩, ⟨hw1, hw2⟩, ⟨hd1, hd2⟩⟩ := h
  obtain ⟨⟨⟨l1, l2⟩, l3, l4⟩, ⟨⟨l5, l6⟩, l7, l8⟩, ⟨⟨l9, l10⟩, l11, l12⟩⟩ := ht
  obtain ⟨⟨⟨m1, m2⟩, m3, m4⟩, ⟨⟨m5, m6⟩, m7, m8⟩, ⟨⟨m9, m10⟩, m11, m12⟩⟩ := hh
  obtain ⟨n1, n2⟩ := hn
  simp only at *
  go_enter Try.func40, Try.ntmps40
  go_wp2
  refine bodyPost_ret (v := dfV (ta1 + ha1 - len, ta2 + ha2 - len) (hw1 - tw2, hw2 - tw1) (hd1 - td2, hd2 - td1)) (by simp [results, Try.results40, go_sem, *]) rfl ⟨rfl, ?_⟩
  exact ((((Mod.refl _ _).alloc _).alloc _).alloc _).alloc _

def allB (s : Int × Int) (lo hi : Int) (d : Int × Int) : Bool := decide (1000 * lo ≤ s.1 * (1000 + d.2)) && decide (s.2 * (1000 + d.2) ≤ 1000 * hi)
set_option maxRecDepth 100000 in
set_option maxHeartbeats 2000000 in
theorem all_any (s : Int × Int) (lo hi : Int) (d : Int × Int) (w : World) (hs : Small 10000000 s) (hl : -1000 ≤ lo ∧ lo ≤ 1000) (hh : -1000 ≤ hi ∧ hi ≤ 1000) (hd : 0 ≤ d.2 ∧ d.2 ≤ 1000) :
    Calls Try.prog 73 #[spV s, .int .i64 lo, .int .i64 hi, spV d] w fun e w' => e = .returned (.bool (allB s lo hi d)) ∧ Mod noB w w' := by
  obtain ⟨a, b⟩ := s
  obtain ⟨c, d⟩ := d
  obtain ⟨a1, a2⟩ := mul_bd hs.1 (k := 2000) (b := 1000 + d) (by simp only at hd; omega)
  obtain ⟨b1, b2⟩ := mul_bd hs.2 (k := 2000) (b := 1000 + d) (by simp only at hd; omega)
  obtain ⟨⟨c1, c2⟩, d1, d2⟩ := hs
  obtain ⟨l1, l2⟩ := hl
  obtain ⟨h1, h2⟩ := hh
  obtain ⟨e1, e2⟩ := hd
  simp only at *
  unfold allB
  by_cases p1 : 1000 * lo ≤ a * (1000 + d)
  · by_cases p2 : b * (1000 + d) ≤ 1000 * hi
    all_goals
      go_enter Try.func73, Try.ntmps73
      go_wp2
      go_ret
      exact ⟨by simp [p1, p2], ((Mod.refl _ _).alloc _).alloc _⟩
  · go_enter Try.func73, Try.ntmps73
    go_wp2
    go_ret
    exact ⟨by simp; omega, ((Mod.refl _ _).alloc _).alloc _⟩

/-- The document's some, by the number nearest to 0. -/
def someB (s : Int × Int) (lo hi : Int) (d : Int × Int) : Bool := withinB (dampedR (nearR s, nearR s) (d.1, d.1)) (1000 * lo) (1000 * hi)
def goodN (lo hi d n : Int) : Prop := 1000 * lo ≤ n * (1000 + d) ∧ n * (1000 + d) ≤ 1000 * hi

theorem someB_iff {s : Int × Int} {lo hi : Int} {d : Int × Int} : someB s lo hi d = true ↔ goodN lo hi d.1 (nearR s) := by
  unfold someB goodN withinB dampedR
  simp only [Bool.and_eq_true, decide_eq_true_eq]
  have e : nearR s * (d.1 + 1000) = nearR s * (1000 + d.1) := by rw [Int.add_comm]
  rw [e]
  omega

theorem near_in {s : Int × Int} {lo hi d : Int} (hs : s.1 ≤ s.2) (hl : lo ≤ 0) (hh : 0 ≤ hi) (hd : 0 ≤ d) (h : goodN lo hi d (nearR s)) : max s.1 lo ≤ nearR s ∧ nearR s ≤ min s.2 hi := by
  obtain ⟨h1, h2⟩ := h
  have hn : nearR s = min (max 0 s.1) s.2 := rfl
  rw [Int.mul_add] at h1 h2
  generalize nearR s = n at *
  rcases Int.le_total 0 n with h0 | h0
  · have := Int.mul_nonneg h0 hd
    omega
  · have := Int.mul_nonneg (a := -n) (b := d) (by omega) hd
    rw [Int.neg_mul] at this
    omega

theorem none_good {s : Int × Int} {lo hi d : Int} (hs : s.1 ≤ s.2) (hl : lo ≤ 0) (hh : 0 ≤ hi) (hd : 0 ≤ d) (h : ¬ goodN lo hi d (nearR s)) {n : Int} (h1 : s.1 ≤ n) (h2 : n ≤ s.2) : ¬ goodN lo hi d n := by
  intro hg
  apply h
  obtain ⟨g1, g2⟩ := hg
  have hn : nearR s = min (max 0 s.1) s.2 := rfl
  unfold goodN
  generalize nearR s = m at *
  rcases Int.le_total 0 m with h0 | h0
  · have e1 : m ≤ n ∨ m = 0 := by omega
    rcases e1 with e1 | e1
    · have := Int.mul_le_mul_of_nonneg_right e1 (show 0 ≤ 1000 + d by omega)
      have := Int.mul_nonneg h0 (show 0 ≤ 1000 + d by omega)
      omega
    · subst e1; omega
  · have e1 : n ≤ m ∨ m = 0 := by omega
    rcases e1 with e1 | e1
    · have := Int.mul_le_mul_of_nonneg_right e1 (show 0 ≤ 1000 + d by omega)
      have := Int.mul_nonneg (a := -m) (b := 1000 + d) (by omega) (by omega)
      rw [Int.neg_mul] at this
      omega
    · subst e1; omega

set_option maxRecDepth 100000 in
set_option maxHeartbeats 2000000 in
theorem some_any (s : Int × Int) (lo hi : Int) (d : Int × Int) (w : World) (hs : Small 10000000 s) (h12 : s.1 ≤ s.2) (hl : -1000 ≤ lo ∧ lo ≤ 0) (hh : 0 ≤ hi ∧ hi ≤ 1000) (hd : 0 ≤ d.1 ∧ d.1 ≤ 1000) :
    Calls Try.prog 74 #[spV s, .int .i64 lo, .int .i64 hi, spV d] w fun e w' => e = .returned (.bool (someB s lo hi d)) ∧ Mod noB w w' := by
  have HB : Hold ((someB s lo hi d = true → goodN lo hi d.1 (nearR s) ∧ max s.1 lo ≤ nearR s ∧ nearR s ≤ min s.2 hi) ∧ (someB s lo hi d = false → ∀ n, s.1 ≤ n → n ≤ s.2 → ¬ goodN lo hi d.1 n)) := ⟨by
    refine ⟨fun h => ?_, fun h n h1 h2 => ?_⟩
    · have hg := someB_iff.1 h
      exact ⟨hg, near_in h12 hl.2 hh.1 hd.1 hg⟩
    · refine none_good h12 hl.2 hh.1 hd.1 (fun hg => ?_) h1 h2
      rw [someB_iff.2 hg] at h; cases h⟩
  generalize someB s lo hi d = bb at *
  generalize nearR s = nr at *
  obtain ⟨a, b⟩ := s
  obtain ⟨c, d⟩ := d
  obtain ⟨⟨c1, c2⟩, d1, d2⟩ := hs
  obtain ⟨l1, l2⟩ := hl
  obtain ⟨h1, h2⟩ := hh
  obtain ⟨e1, e2⟩ := hd
  simp only at c1 c2 d1 d2 e1 e2 h12
  have hb0 := allocL_at [.cells #[.int .i64 a, .int .i64 b] 23, .cells #[.int .i64 c, .int .i64 d] 23] w 0 _ rfl
  have hb1 := allocL_at [.cells #[.int .i64 a, .int .i64 b] 23, .cells #[.int .i64 c, .int .i64 d] 23] w 1 _ rfl
  have hm0 := allocL_mod noB [.cells #[.int .i64 a, .int .i64 b] 23, .cells #[.int .i64 c, .int .i64 d] 23] w
  have FIN : Hold (∀ W', Mod noB (allocL w [.cells #[.int .i64 a, .int .i64 b] 23, .cells #[.int .i64 c, .int .i64 d] 23]) W' → W'.cell? ⟨w.heap.size, 0, none⟩ = some (.int .i64 a) ∧ W'.cell? ⟨w.heap.size, 1, none⟩ = some (.int .i64 b) ∧ W'.cell? ⟨w.heap.size + 1, 0, none⟩ = some (.int .i64 c) ∧ Mod noB w W') := ⟨fun W' h =>
    ⟨cellsAt (h.at hb0 id) 0, cellsAt (h.at hb0 id) 1, cellsAt (h.at hb1 id) 0, hm0.trans h⟩⟩
  clear hb0 hb1 hm0
  rw [← allocL2] at FIN
  rcases Int.lt_or_le a lo with hmx | hmx <;> by_cases hmn : b ≤ hi
  all_goals
    go_enter Try.func74, Try.ntmps74
    go_wp2
    go_loopw [9] (fun i wr => ∃ n : Int, i = .int .i64 n ∧ max a lo ≤ n ∧ n ≤ 10000001 ∧ (bb = true → n ≤ nr) ∧ Mod noB ((w.alloc (.cells #[.int .i64 a, .int .i64 b] 23)).alloc (.cells #[.int .i64 c, .int .i64 d] 23)) wr) (fun i _ => (10000002 - intOf i).toNat)
    case atStart =>
      exact ⟨max a lo, by go_num, Int.le_refl _, by omega, fun h => (HB.out.1 h).2.1, Mod.refl _ _⟩
    case round =>
      obtain ⟨n, rfl, n1, n2, n3, hm⟩ := hrel
      obtain ⟨q0, q1, q2, _⟩ := FIN.out _ hm
      have HM := Hold.mk hm
      clear hm
      by_cases hle : n ≤ min b hi
      · have hb2 : n ≤ b := by omega
        obtain ⟨m1, m2⟩ := mul_bd (m := 10000001) (k := 2000) (a := n) (b := 1000 + c) (by omega) (by omega)
        by_cases p1 : 1000 * lo ≤ n * (1000 + c)
        · by_cases p2 : n * (1000 + c) ≤ 1000 * hi
          · have hbb : bb = true := by
              cases hbb : bb with
              | true => rfl
              | false => exact absurd ⟨p1, p2⟩ (HB.out.2 hbb n (by omega) (by omega))
            subst hbb
            go_wp2
            go_ret
            exact ⟨rfl, (FIN.out _ HM.out).2.2.2⟩
          · go_wp2
            go_roundw
            case rel => exact ⟨n + 1, by go_num, by omega, by omega, fun h => by
              have h3 := n3 h
              have hne : n ≠ nr := fun e => by
                have := (HB.out.1 h).1.2
                try simp only at this
                rw [← e] at this
                exact p2 this
              omega, HM.out⟩
            case measure => simp [intOf]; omega
        · go_wp2
          go_roundw
          case rel => exact ⟨n + 1, by go_num, by omega, by omega, fun h => by
              have h3 := n3 h
              have hne : n ≠ nr := fun e => by
                have := (HB.out.1 h).1.1
                try simp only at this
                rw [← e] at this
                exact p1 this
              omega, HM.out⟩
          case measure => simp [intOf]; omega
      · have hbb : bb = false := by
          cases hbb : bb with
          | false => rfl
          | true =>
            have h3 := n3 hbb
            have := (HB.out.1 hbb).2.2
            try simp only at this
            omega
        subst hbb
        go_wp2
        go_ret
        exact ⟨rfl, (FIN.out _ HM.out).2.2.2⟩
end Go.Proofs.Ytnjbamikfjdofaa

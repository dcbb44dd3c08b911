/- Cells that hang together: what a flood of one piece leaves, and how often it must begin anew. No memory, no program. -/
import Derived.Test.YtogalmkeipigeaaFaced
set_option linter.unusedSimpArgs false
set_option linter.unusedVariables false
namespace Go.Proofs.Ytogalmkeipigeaa

def inPic (W H : Nat) (p : Int × Int) : Prop := 0 ≤ p.1 ∧ p.1 < W ∧ 0 ≤ p.2 ∧ p.2 < H
/-- The place of a cell in an array of rows of twelve. -/
def idx (p : Int × Int) : Nat := p.2.toNat * 12 + p.1.toNat

structure Grid (g : Int × Int → Option Int) (W H : Nat) : Prop where
  w1 : 1 ≤ W
  w2 : W ≤ 12
  h1 : 1 ≤ H
  h2 : H ≤ 12
  ins : ∀ p, inPic W H p → ∃ n, g p = some n ∧ 0 ≤ n ∧ n < 40
  out : ∀ p, ¬ inPic W H p → g p = none

variable {g : Int × Int → Option Int} {W H : Nat}

theorem Grid.at_in (G : Grid g W H) {p : Int × Int} (h : inPic W H p) : 0 ≤ atG g p ∧ atG g p < 40 := by
  obtain ⟨n, hn, h1, h2⟩ := G.ins p h
  simp [atG, hn, h1, h2]
theorem Grid.at_out (G : Grid g W H) {p : Int × Int} (h : ¬ inPic W H p) : atG g p = -1 := by
  simp [atG, G.out p h]
theorem Grid.in_of_at (G : Grid g W H) {p : Int × Int} (h : 0 ≤ atG g p) : inPic W H p := Classical.byContradiction fun hn => by
  rw [G.at_out hn] at h; omega

theorem idx_lt (G : Grid g W H) {p : Int × Int} (h : inPic W H p) : idx p < 144 := by
  obtain ⟨h1, h2, h3, h4⟩ := h
  have := G.w2; have := G.h2
  unfold idx
  omega
theorem idx_inj (G : Grid g W H) {p q : Int × Int} (hp : inPic W H p) (hq : inPic W H q) (e : idx p = idx q) : p = q := by
  obtain ⟨h1, h2, h3, h4⟩ := hp
  obtain ⟨k1, k2, k3, k4⟩ := hq
  have := G.w2; have := G.h2
  unfold idx at e
  exact Prod.ext (by omega) (by omega)

inductive Conn (g : Int × Int → Option Int) (p : Int × Int) : Int × Int → Prop
  | refl : Conn g p p
  | step {q r : Int × Int} (h : Conn g p q) (hr : r ∈ besideL q) (he : atG g r = atG g q) : Conn g p r

theorem Conn.trans {p q r : Int × Int} (h : Conn g p q) (k : Conn g q r) : Conn g p r := by
  induction k with
  | refl => exact h
  | step _ hr he ih => exact .step ih hr he
theorem Conn.at {p q : Int × Int} (h : Conn g p q) : atG g q = atG g p := by
  induction h with
  | refl => rfl
  | step _ _ he ih => exact he.trans ih
theorem beside_symm {p q : Int × Int} (h : q ∈ besideL p) : p ∈ besideL q := by
  obtain ⟨a, b⟩ := p
  simp only [besideL, List.mem_cons, List.not_mem_nil, or_false] at h ⊢
  rcases h with rfl | rfl | rfl | rfl
  · right; right; left; exact Prod.ext rfl (by simp only; omega)
  · right; right; right; exact Prod.ext (by simp only; omega) rfl
  · left; exact Prod.ext rfl (by simp only; omega)
  · right; left; exact Prod.ext (by simp only; omega) rfl
theorem Conn.symm {p q : Int × Int} (h : Conn g p q) : Conn g q p := by
  induction h with
  | refl => exact .refl
  | step _ hr he ih => exact Conn.trans (.step .refl (beside_symm hr) he.symm) ih
theorem Conn.inPic (G : Grid g W H) {p q : Int × Int} (hp : inPic W H p) (h : Conn g p q) : inPic W H q :=
  G.in_of_at (by rw [h.at]; exact (G.at_in hp).1)

/-- What a flood that began at c has left of R. -/
structure Flood (g : Int × Int → Option Int) (W H : Nat) (R : Nat → Bool) (c : Int × Int) (R' : Nat → Bool) : Prop where
  more : ∀ k, R k = true → R' k = true
  own : R' (idx c) = true
  conn : ∀ p, inPic W H p → R' (idx p) = true → R (idx p) = true ∨ Conn g c p
  closed : ∀ p, inPic W H p → R' (idx p) = true → R (idx p) = false → ∀ q ∈ besideL p, atG g q = atG g p → R' (idx q) = true

/-- .. while the cells next to c are gone through; 'pre' are done. -/
structure Flooding (g : Int × Int → Option Int) (W H : Nat) (R : Nat → Bool) (c : Int × Int) (pre : List (Int × Int)) (R' : Nat → Bool) : Prop where
  more : ∀ k, R k = true → R' k = true
  own : R' (idx c) = true
  conn : ∀ p, inPic W H p → R' (idx p) = true → R (idx p) = true ∨ Conn g c p
  closed : ∀ p, inPic W H p → R' (idx p) = true → R (idx p) = false → p ≠ c → ∀ q ∈ besideL p, atG g q = atG g p → R' (idx q) = true
  done : ∀ q ∈ pre, atG g q = atG g c → R' (idx q) = true

/-- One place more. -/
def mark (R : Nat → Bool) (k : Nat) : Nat → Bool := fun j => if j = k then true else R j

theorem Flooding.begin (G : Grid g W H) (R : Nat → Bool) {c : Int × Int} (hc : inPic W H c) : Flooding g W H R c [] (mark R (idx c)) where
  more k h := by unfold mark; split <;> first | rfl | exact h
  own := by simp [mark]
  conn p hp h := by
    unfold mark at h
    split at h
    · rename_i e
      exact .inr (idx_inj G hp hc e ▸ .refl)
    · exact .inl h
  closed p hp h h0 hne := by
    unfold mark at h
    split at h
    · rename_i e
      exact absurd (idx_inj G hp hc e) hne
    · rw [h0] at h; cases h
  done q hq := by cases hq

theorem Flooding.skip {R R' : Nat → Bool} {c d : Int × Int} {pre : List (Int × Int)} (h : Flooding g W H R c pre R') (hd : atG g d = atG g c → R' (idx d) = true) : Flooding g W H R c (pre ++ [d]) R' where
  more := h.more
  own := h.own
  conn := h.conn
  closed := h.closed
  done q hq he := by
    rcases List.mem_append.1 hq with hq | hq
    · exact h.done q hq he
    · have : q = d := by simpa using hq
      subst this
      exact hd he

theorem Flooding.reach {R R' R2 : Nat → Bool} {c d : Int × Int} {pre : List (Int × Int)} (h : Flooding g W H R c pre R') (hd : d ∈ besideL c) (he : atG g d = atG g c) (k : Flood g W H R' d R2) : Flooding g W H R c (pre ++ [d]) R2 where
  more j hj := k.more j (h.more j hj)
  own := k.more _ h.own
  conn p hp h2 := by
    rcases k.conn p hp h2 with h3 | h3
    · exact h.conn p hp h3
    · exact .inr (Conn.trans (.step .refl hd he) h3)
  closed p hp h2 h0 hne q hq hqe := by
    cases hr : R' (idx p) with
    | true => exact k.more _ (h.closed p hp hr h0 hne q hq hqe)
    | false => exact k.closed p hp h2 hr q hq hqe
  done q hq hqe := by
    rcases List.mem_append.1 hq with hq | hq
    · exact k.more _ (h.done q hq hqe)
    · have : q = d := by simpa using hq
      subst this
      exact k.own

theorem Flooding.finish {R R' : Nat → Bool} {c : Int × Int} (h : Flooding g W H R c (besideL c) R') : Flood g W H R c R' where
  more := h.more
  own := h.own
  conn := h.conn
  closed p hp h1 h0 q hq he := by
    by_cases e : p = c
    · subst e
      exact h.done q hq he
    · exact h.closed p hp h1 h0 e q hq he

/-- How many of the 144 places are not in R. -/
def cnt (R : Nat → Bool) : Nat := (List.range 144).countP (fun k => !R k)

theorem countP_lt {l : List Nat} {f h : Nat → Bool} (hle : ∀ k, h k = true → f k = true) {k0 : Nat} (hk : k0 ∈ l) (h1 : f k0 = true) (h2 : h k0 = false) : l.countP h < l.countP f := by
  induction l with
  | nil => cases hk
  | cons a l ih =>
    rw [List.countP_cons, List.countP_cons]
    have hmono : l.countP h ≤ l.countP f := List.countP_mono_left (fun x _ => hle x)
    rcases List.mem_cons.1 hk with rfl | hk
    · simp only [h1, h2, if_true, Bool.false_eq_true, if_false]; omega
    · have := ih hk
      cases ha : h a with
      | true => simp only [hle a ha, if_true]; omega
      | false => simp only [Bool.false_eq_true, if_false]; omega

theorem cnt_lt {R R' : Nat → Bool} (hle : ∀ k, R k = true → R' k = true) {k0 : Nat} (hk : k0 < 144) (h1 : R k0 = false) (h2 : R' k0 = true) : cnt R' < cnt R :=
  countP_lt (fun k h => by cases hr : R k with
    | true => rw [hle k hr] at h; cases h
    | false => rfl) (List.mem_range.2 hk) (by rw [h1]; rfl) (by rw [h2]; rfl)

end Go.Proofs.Ytogalmkeipigeaa

/- When all cells of a piece hang together: what the passes of the document's Whole come to. No memory, no program. -/
import Derived.Test.YtogalmkeipigeaaCheck
set_option linter.unusedSimpArgs false
set_option linter.unusedVariables false
namespace Go.Proofs.Ytogalmkeipigeaa

/-- The cell of a place in the list. -/
def cellOf (W i : Nat) : Int × Int := (((i % W : Nat) : Int), ((i / W : Nat) : Int))

theorem cellOf_xy {W x : Nat} (hx : x < W) (y : Nat) : cellOf W (y * W + x) = ((x : Int), (y : Int)) := by
  have e1 : (y * W + x) % W = x := by rw [Nat.mul_comm, Nat.mul_add_mod]; exact Nat.mod_eq_of_lt hx
  have e2 : (y * W + x) / W = y := by rw [Nat.mul_comm, Nat.mul_add_div (by omega), Nat.div_eq_of_lt hx]; rfl
  rw [cellOf, e1, e2]
theorem xy_of {W H i : Nat} (hW : 0 < W) (hi : i < W * H) : ∃ x y, x < W ∧ y < H ∧ i = y * W + x :=
  ⟨i % W, i / W, Nat.mod_lt _ hW, Nat.div_lt_of_lt_mul hi, by rw [Nat.mul_comm]; exact (Nat.div_add_mod i W).symm⟩
theorem xy_lt {W H x y : Nat} (hx : x < W) (hy : y < H) : y * W + x < W * H := by
  have : (y + 1) * W ≤ H * W := Nat.mul_le_mul_right _ hy
  rw [Nat.succ_mul, Nat.mul_comm H W] at this
  omega
theorem xy_inj {W x y x' y' : Nat} (hx : x < W) (hx' : x' < W) (h : y * W + x = y' * W + x') : x = x' ∧ y = y' := by
  have h1 := cellOf_xy hx y
  have h2 := cellOf_xy hx' y'
  rw [h, h2] at h1
  simp only [Prod.mk.injEq] at h1
  omega

/-- Is some cell next to that of place i reached? -/
def nextB (W H : Nat) (R : Nat → Bool) (i : Nat) : Bool :=
  (decide (0 < i % W) && R (i - 1) || decide (i % W < W - 1) && R (i + 1)) || decide (0 < i / W) && R (i - W) || decide (i / W < H - 1) && R (i + W)

section
variable {W H : Nat} {zs : List Int}
theorem CutN.g (C : CutN W H zs) {x y : Nat} (hx : x < W) (hy : y < H) : atG (laidG W zs zs.length) ((x : Int), (y : Int)) = zs[y * W + x]?.getD 0 := by
  have := xy_lt hx hy
  rw [← C.len] at this
  unfold atG laidG
  simp only [Int.toNat_natCast]
  rw [if_pos ⟨by omega, by omega, by omega, this⟩]; rfl
theorem CutN.gi (C : CutN W H zs) {i : Nat} (hi : i < zs.length) : atG (laidG W zs zs.length) (cellOf W i) = zs[i]?.getD 0 := by
  rw [C.len] at hi
  obtain ⟨x, y, hx, hy, rfl⟩ := xy_of C.w1 hi
  rw [cellOf_xy hx, C.g hx hy]
theorem CutN.cin (C : CutN W H zs) {i : Nat} (hi : i < zs.length) : inPic W H (cellOf W i) := by
  rw [C.len] at hi
  obtain ⟨x, y, hx, hy, rfl⟩ := xy_of C.w1 hi
  rw [cellOf_xy hx]
  exact ⟨by simp, by simp; omega, by simp, by simp; omega⟩
theorem CutN.of_in (C : CutN W H zs) {p : Int × Int} (h : inPic W H p) : ∃ i, i < zs.length ∧ p = cellOf W i := by
  obtain ⟨x, y⟩ := p
  obtain ⟨h1, h2, h3, h4⟩ := h
  simp only at h1 h2 h3 h4
  obtain ⟨x, rfl⟩ := Int.eq_ofNat_of_zero_le h1
  obtain ⟨y, rfl⟩ := Int.eq_ofNat_of_zero_le h3
  exact ⟨y * W + x, by rw [C.len]; exact xy_lt (by omega) (by omega), (cellOf_xy (by omega) y).symm⟩

theorem nextB_xy (R : Nat → Bool) {x y : Nat} (hx : x < W) : nextB W H R (y * W + x) = ((decide (0 < x) && R (y * W + x - 1) || decide (x < W - 1) && R (y * W + x + 1)) || decide (0 < y) && R (y * W + x - W) || decide (y < H - 1) && R (y * W + x + W)) := by
  have e1 : (y * W + x) % W = x := by rw [Nat.mul_comm, Nat.mul_add_mod]; exact Nat.mod_eq_of_lt hx
  have e2 : (y * W + x) / W = y := by rw [Nat.mul_comm, Nat.mul_add_div (by omega), Nat.div_eq_of_lt hx]; rfl
  rw [nextB, e1, e2]

theorem CutN.next_to (C : CutN W H zs) {R : Nat → Bool} {i : Nat} (hi : i < zs.length) (h : nextB W H R i = true) : ∃ j, j < zs.length ∧ R j = true ∧ cellOf W j ∈ besideL (cellOf W i) := by
  rw [C.len] at hi ⊢
  obtain ⟨x, y, hx, hy, rfl⟩ := xy_of C.w1 hi
  rw [nextB_xy R hx] at h
  simp only [Bool.or_eq_true, Bool.and_eq_true, decide_eq_true_eq] at h
  rw [cellOf_xy hx]
  rcases h with ((⟨h1, h2⟩ | ⟨h1, h2⟩) | ⟨h1, h2⟩) | ⟨h1, h2⟩
  · have e : y * W + x - 1 = y * W + (x - 1) := by omega
    rw [e] at h2
    refine ⟨_, xy_lt (by omega) hy, h2, ?_⟩
    rw [cellOf_xy (by omega)]
    simp [besideL]; omega
  · refine ⟨y * W + (x + 1), xy_lt (by omega) hy, h2, ?_⟩
    rw [cellOf_xy (by omega)]
    simp [besideL]
  · obtain ⟨y, rfl⟩ : ∃ y', y = y' + 1 := ⟨y - 1, by omega⟩
    have e : (y + 1) * W + x - W = y * W + x := by rw [Nat.succ_mul]; omega
    rw [e] at h2
    refine ⟨_, xy_lt hx (by omega), h2, ?_⟩
    rw [cellOf_xy hx]
    simp [besideL]
  · have e : y * W + x + W = (y + 1) * W + x := by rw [Nat.succ_mul]; omega
    rw [e] at h2
    refine ⟨_, xy_lt hx (by omega), h2, ?_⟩
    rw [cellOf_xy hx]
    simp [besideL]

theorem CutN.next_of (C : CutN W H zs) {R : Nat → Bool} {i j : Nat} (hi : i < zs.length) (hj : j < zs.length) (hR : R j = true) (h : cellOf W j ∈ besideL (cellOf W i)) : nextB W H R i = true := by
  rw [C.len] at hi hj
  obtain ⟨x, y, hx, hy, rfl⟩ := xy_of C.w1 hi
  obtain ⟨x', y', hx', hy', rfl⟩ := xy_of C.w1 hj
  rw [cellOf_xy hx, cellOf_xy hx'] at h
  rw [nextB_xy R hx]
  simp only [besideL, List.mem_cons, List.not_mem_nil, or_false, Prod.mk.injEq] at h
  simp only [Bool.or_eq_true, Bool.and_eq_true, decide_eq_true_eq]
  rcases h with ⟨h1, h2⟩ | ⟨h1, h2⟩ | ⟨h1, h2⟩ | ⟨h1, h2⟩
  · obtain ⟨y, rfl⟩ : ∃ z, y = z + 1 := ⟨y - 1, by omega⟩
    obtain rfl : x' = x := by omega
    obtain rfl : y' = y := by omega
    have e : (y' + 1) * W + x' - W = y' * W + x' := by rw [Nat.succ_mul]; omega
    exact .inl (.inr ⟨by omega, by rw [e]; exact hR⟩)
  · obtain rfl : y' = y := by omega
    obtain rfl : x' = x + 1 := by omega
    exact .inl (.inl (.inr ⟨by omega, hR⟩))
  · obtain rfl : x' = x := by omega
    obtain rfl : y' = y + 1 := by omega
    have e : y * W + x' + W = (y + 1) * W + x' := by rw [Nat.succ_mul]; omega
    exact .inr ⟨by omega, by rw [e]; exact hR⟩
  · obtain rfl : y' = y := by omega
    obtain ⟨x, rfl⟩ : ∃ z, x = z + 1 := ⟨x - 1, by omega⟩
    obtain rfl : x' = x := by omega
    exact .inl (.inl (.inl ⟨by omega, by rw [← Nat.add_assoc, Nat.add_sub_cancel]; exact hR⟩))

/-- All cells of number k hang together. -/
def WholeP (g : Int × Int → Option Int) (W H : Nat) (k : Int) : Prop := ∀ p q, inPic W H p → inPic W H q → atG g p = k → atG g q = k → Conn g p q

/-- How many places are reached. -/
def cntN (n : Nat) (R : Nat → Bool) : Nat := (List.range n).countP R
theorem cntN_mark {n : Nat} {R : Nat → Bool} {i : Nat} (hi : i < n) (h : R i = false) : cntN n (mark R i) = cntN n R + 1 := by
  unfold cntN
  induction n with
  | zero => omega
  | succ n ih =>
    rw [List.range_succ, List.countP_append, List.countP_append]
    by_cases e : i = n
    · subst e
      have h1 : (List.range i).countP (mark R i) = (List.range i).countP R := List.countP_congr (fun a ha => by
        have := List.mem_range.1 ha
        simp [mark, show a ≠ i by omega])
      rw [h1]
      simp [mark, h]
    · rw [ih (by omega)]
      have : mark R i n = R n := by simp [mark, Ne.symm e]
      simp [List.countP_cons, this]
      omega
theorem cntN_le (n : Nat) (R : Nat → Bool) : cntN n R ≤ n := by
  unfold cntN; have := List.countP_le_length (p := R) (l := List.range n); simpa using this
theorem cntN_zero {n : Nat} {R : Nat → Bool} (h : cntN n R = 0) {i : Nat} (hi : i < n) : R i = false := by
  unfold cntN at h
  rw [List.countP_eq_zero] at h
  simpa using h i (List.mem_range.2 hi)
theorem count_cntN (zs : List Int) (k : Int) : zs.count k = cntN zs.length (fun i => decide (zs[i]?.getD 0 = k)) := by
  unfold cntN
  induction zs with
  | nil => simp
  | cons z zs ih =>
    rw [List.length_cons, List.range_succ_eq_map, List.countP_cons, List.countP_map, List.count_cons, ih]
    congr 1
theorem cntN_eq {n : Nat} {R S : Nat → Bool} (hle : ∀ i, i < n → R i = true → S i = true) : cntN n R = cntN n S ↔ ∀ i, i < n → S i = true → R i = true := by
  constructor
  · intro h i hi hs
    cases hr : R i with
    | true => rfl
    | false =>
      exfalso
      have : cntN n (mark R i) ≤ cntN n S := by
        unfold cntN
        refine List.countP_mono_left (fun a ha h' => ?_)
        have ha := List.mem_range.1 ha
        unfold mark at h'
        split at h'
        · rename_i e; rw [e]; exact hs
        · exact hle a ha h'
      rw [cntN_mark hi hr] at this
      omega
  · intro h
    unfold cntN
    refine List.countP_congr (fun a ha => ?_)
    have ha := List.mem_range.1 ha
    exact ⟨fun hr => hle a ha hr, fun hs => h a ha hs⟩

/-- May place i be reached now? -/
def mayB (W H : Nat) (zs : List Int) (k : Int) (R : Nat → Bool) (m i : Nat) : Prop := zs[i]?.getD 0 = k ∧ R i = false ∧ (m = 0 ∨ nextB W H R i = true)

/-- What holds in a pass of Whole behind the places below i. -/
structure WInv (W H : Nat) (zs : List Int) (k : Int) (R : Nat → Bool) (m i : Nat) (more : Bool) : Prop where
  num : m = cntN zs.length R
  own : ∀ j, j < zs.length → R j = true → zs[j]?.getD 0 = k
  conn : ∀ j l, j < zs.length → l < zs.length → R j = true → R l = true → Conn (laidG W zs zs.length) (cellOf W j) (cellOf W l)
  no : more = false → ∀ j, j < i → ¬ mayB W H zs k R m j

variable {k : Int} {R : Nat → Bool} {m i : Nat} {more : Bool}
theorem WInv.begin : WInv W H zs k (fun _ => false) 0 0 false where
  num := by simp [cntN]
  own j _ h := by cases h
  conn j l _ _ h := by cases h
  no _ j h := by omega
theorem WInv.anew (h : WInv W H zs k R m i more) : WInv W H zs k R m 0 false := ⟨h.num, h.own, h.conn, fun _ j hj => by omega⟩
theorem WInv.skip (h : WInv W H zs k R m i more) (hn : ¬ mayB W H zs k R m i) : WInv W H zs k R m (i + 1) more :=
  ⟨h.num, h.own, h.conn, fun hm j hj => by
    by_cases e : j = i
    · subst e; exact hn
    · exact h.no hm j (by omega)⟩
theorem WInv.add (C : CutN W H zs) (h : WInv W H zs k R m i more) (hi : i < zs.length) (hm : mayB W H zs k R m i) : WInv W H zs k (mark R i) (m + 1) (i + 1) true where
  num := by rw [cntN_mark hi hm.2.1, h.num]
  own j hj hr := by
    unfold mark at hr
    split at hr
    · rename_i e; rw [e]; exact hm.1
    · exact h.own j hj hr
  no h := by cases h
  conn := by
    have key : ∀ j, j < zs.length → R j = true → Conn (laidG W zs zs.length) (cellOf W j) (cellOf W i) := by
      intro j hj hr
      rcases hm.2.2 with h0 | hn
      · have hz := cntN_zero (by rw [← h.num]; exact h0) hj
        rw [hz] at hr; cases hr
      · obtain ⟨l, hl, hrl, hb⟩ := C.next_to hi hn
        refine Conn.trans (h.conn j l hj hl hr hrl) (.step .refl (beside_symm hb) ?_)
        rw [C.gi hi, C.gi hl, hm.1, h.own l hl hrl]
    intro j l hj hl hr1 hr2
    unfold mark at hr1 hr2
    split at hr1 <;> split at hr2
    · rename_i e1 e2; rw [e1, e2]; exact .refl
    · rename_i e1 e2; rw [e1]; exact (key l hl hr2).symm
    · rename_i e1 e2; rw [e2]; exact key j hj hr1
    · exact h.conn j l hj hl hr1 hr2

theorem WInv.whole (C : CutN W H zs) (h : WInv W H zs k R m zs.length false) : m = zs.count k ↔ WholeP (laidG W zs zs.length) W H k := by
  rw [h.num, count_cntN, cntN_eq (fun j hj hr => by simpa using h.own j hj hr)]
  have hno := h.no rfl
  constructor
  · intro hall p q hp hq hpk hqk
    obtain ⟨i, hi, rfl⟩ := C.of_in hp
    obtain ⟨j, hj, rfl⟩ := C.of_in hq
    rw [C.gi hi] at hpk
    rw [C.gi hj] at hqk
    exact h.conn i j hi hj (hall i hi (by simpa using hpk)) (hall j hj (by simpa using hqk))
  · intro hw i hi hs
    have hs : zs[i]?.getD 0 = k := by simpa using hs
    cases hri : R i with
    | true => rfl
    | false =>
      exfalso
      have hm0 : m ≠ 0 := fun e => hno i hi ⟨hs, hri, .inl e⟩
      obtain ⟨j, hj, hrj⟩ : ∃ j, j < zs.length ∧ R j = true := by
        apply Classical.byContradiction
        intro hn
        apply hm0
        rw [h.num]
        unfold cntN
        rw [List.countP_eq_zero]
        intro a ha hr
        exact hn ⟨a, List.mem_range.1 ha, hr⟩
      have key : ∀ q, Conn (laidG W zs zs.length) (cellOf W j) q → ∀ l, l < zs.length → q = cellOf W l → R l = true := by
        intro q hq
        induction hq with
        | refl =>
          intro l hl e
          rw [C.len] at hj hl
          obtain ⟨x, y, hx, hy, rfl⟩ := xy_of C.w1 hj
          obtain ⟨x', y', hx', hy', rfl⟩ := xy_of C.w1 hl
          rw [cellOf_xy hx, cellOf_xy hx'] at e
          simp only [Prod.mk.injEq] at e
          obtain rfl : x = x' := by omega
          obtain rfl : y = y' := by omega
          exact hrj
        | step hc hr he ih =>
          rename_i q r
          intro l hl e
          subst e
          have hjk := h.own j hj hrj
          have hqk : atG (laidG W zs zs.length) q = k := by rw [hc.at, C.gi hj, hjk]
          have hqin : inPic W H q := Conn.inPic C.grid (C.cin hj) hc
          obtain ⟨t, ht, rfl⟩ := C.of_in hqin
          have hrt := ih t ht rfl
          have hlk : zs[l]?.getD 0 = k := by rw [← C.gi hl, he, hqk]
          cases hrl : R l with
          | true => rfl
          | false => exact absurd ⟨hlk, hrl, .inr (C.next_of hl ht hrt (beside_symm hr))⟩ (hno l hl)
      have := key _ (hw _ _ (C.cin hj) (C.cin hi) (by rw [C.gi hj]; exact h.own j hj hrj) (by rw [C.gi hi]; exact hs)) i hi rfl
      rw [this] at hri; cases hri
end
end Go.Proofs.Ytogalmkeipigeaa

/- Several texts in one (a claim holds at most 60 files): each has its own words ahead of it. -/
import Derived.Test.YtogalmkeipigeaaLinA
import Derived.Test.YtogalmkeipigeaaOpened
import Derived.Test.YtogalmkeipigeaaRefS
import Derived.Test.YtogalmkeipigeaaLayOut
import Derived.Test.YtogalmkeipigeaaMnW
import Derived.Test.YtogalmkeipigeaaSame
import Derived.Test.YtogalmkeipigeaaMnF
set_option linter.unusedSimpArgs false
set_option linter.unusedVariables false

/- CutWhole's mathematics: edges in common are the same both ways; what goes around a piece is even; the border; the lines counted twice. -/
namespace Go.Proofs.Ytogalmkeipigeaa
open Go.RowKit

def rowL (A : Int → Int) (n : Nat) (a b : Int) : Nat := sm n (fun x => bn (A x = a ∧ A ((x : Int) - 1) = b))
def rowR (A : Int → Int) (n : Nat) (a b : Int) : Nat := sm n (fun x => bn (A x = a ∧ A ((x : Int) + 1) = b))
theorem row_swap {A : Int → Int} {n : Nat} {a b : Int} (h0 : A (-1) = -1) (h1 : A n = -1) (ha : 0 ≤ a) (hb : 0 ≤ b) : rowL A n a b = rowR A n b a := by
  cases n with
  | zero => rfl
  | succ n =>
    unfold rowL rowR
    rw [sm_first, sm_succ]
    have e0 : bn (A ((0 : Nat) : Int) = a ∧ A (((0 : Nat) : Int) - 1) = b) = 0 := by
      unfold bn; rw [if_neg]; rintro ⟨_, h⟩; rw [show ((0 : Nat) : Int) - 1 = -1 by omega, h0] at h; omega
    have e1 : bn (A (n : Int) = b ∧ A ((n : Int) + 1) = a) = 0 := by
      unfold bn; rw [if_neg]; rintro ⟨_, h⟩; rw [show (n : Int) + 1 = ((n + 1 : Nat) : Int) by omega, h1] at h; omega
    rw [e0, e1, Nat.zero_add, Nat.add_zero]
    refine sm_congr fun x _ => ?_
    rw [show ((x + 1 : Nat) : Int) - 1 = (x : Int) by omega, show ((x + 1 : Nat) : Int) = (x : Int) + 1 by omega]
    unfold bn
    by_cases h : A ((x : Int) + 1) = a <;> by_cases h' : A (x : Int) = b <;> simp [h, h']

section
variable {g : Int × Int → Option Int} {W H : Nat}
theorem eAt_four (g : Int × Int → Option Int) (a b x y : Int) : eAt g a b (x, y) =
    (bn (atG g (x, y) = a ∧ atG g (x - 1, y) = b) + bn (atG g (x, y) = a ∧ atG g (x + 1, y) = b)) + (bn (atG g (x, y) = a ∧ atG g (x, y - 1) = b) + bn (atG g (x, y) = a ∧ atG g (x, y + 1) = b)) := by
  by_cases h : atG g (x, y) = a
  · rw [eAt_yes h]
    simp only [aroundL, List.count_cons, List.count_nil, beq_iff_eq, h, true_and, bn]
    omega
  · rw [eAt_no h]
    simp [bn, h]
theorem sm_add2 (m n : Nat) (A B : Nat → Nat → Nat) : sm m (fun y => sm n (fun x => A x y + B x y)) = sm m (fun y => sm n (fun x => A x y)) + sm m (fun y => sm n (fun x => B x y)) := by
  rw [← sm_add]; exact sm_congr fun y _ => sm_add _ _ _
theorem edges_rows (g : Int × Int → Option Int) (W H : Nat) (a b : Int) : edgesTo g W a b (H * W) =
    sm H (fun y => rowL (fun i => atG g (i, (y : Int))) W a b + rowR (fun i => atG g (i, (y : Int))) W a b) + sm W (fun x => rowL (fun j => atG g ((x : Int), j)) H a b + rowR (fun j => atG g ((x : Int), j)) H a b) := by
  have e1 : edgesTo g W a b (H * W) = sm H (fun y => sm W (fun x => eAt g a b ((x : Int), (y : Int)))) := sm_grid W H (fun x y => eAt g a b ((x : Int), (y : Int)))
  rw [e1]
  simp only [eAt_four]
  rw [sm_add2 H W (fun x y => bn (atG g ((x : Int), (y : Int)) = a ∧ atG g ((x : Int) - 1, (y : Int)) = b) + bn (atG g ((x : Int), (y : Int)) = a ∧ atG g ((x : Int) + 1, (y : Int)) = b)) (fun x y => bn (atG g ((x : Int), (y : Int)) = a ∧ atG g ((x : Int), (y : Int) - 1) = b) + bn (atG g ((x : Int), (y : Int)) = a ∧ atG g ((x : Int), (y : Int) + 1) = b))]
  congr 1
  · exact sm_congr fun y _ => sm_add _ _ _
  · rw [sm_swap]
    exact sm_congr fun x _ => sm_add _ _ _
/-- As many edges both ways. -/
theorem edges_sym (G : Grid g W H) {a b : Int} (ha : 0 ≤ a) (hb : 0 ≤ b) : edgesTo g W a b (H * W) = edgesTo g W b a (H * W) := by
  have o1 : ∀ y : Int, atG g (-1, y) = -1 := fun y => G.at_out (out_x (by omega))
  have o2 : ∀ y : Int, atG g ((W : Int), y) = -1 := fun y => G.at_out (out_x (by omega))
  have o3 : ∀ x : Int, atG g (x, -1) = -1 := fun y => G.at_out (out_y (by omega))
  have o4 : ∀ x : Int, atG g (x, (H : Int)) = -1 := fun y => G.at_out (out_y (by omega))
  rw [edges_rows, edges_rows]
  congr 1
  · refine sm_congr fun y _ => ?_
    rw [row_swap (A := fun i => atG g (i, (y : Int))) (o1 _) (o2 _) ha hb, row_swap (A := fun i => atG g (i, (y : Int))) (o1 _) (o2 _) hb ha, Nat.add_comm]
  · refine sm_congr fun x _ => ?_
    rw [row_swap (A := fun j => atG g ((x : Int), j)) (o3 _) (o4 _) ha hb, row_swap (A := fun j => atG g ((x : Int), j)) (o3 _) (o4 _) hb ha, Nat.add_comm]
/-- A piece's edges within itself are counted twice. -/
theorem edges_even (G : Grid g W H) {a : Int} (ha : 0 ≤ a) : ∃ m, edgesTo g W a a (H * W) = 2 * m := by
  have o1 : ∀ y : Int, atG g (-1, y) = -1 := fun y => G.at_out (out_x (by omega))
  have o2 : ∀ y : Int, atG g ((W : Int), y) = -1 := fun y => G.at_out (out_x (by omega))
  have o3 : ∀ x : Int, atG g (x, -1) = -1 := fun y => G.at_out (out_y (by omega))
  have o4 : ∀ x : Int, atG g (x, (H : Int)) = -1 := fun y => G.at_out (out_y (by omega))
  have e1 : sm H (fun y => rowL (fun i => atG g (i, (y : Int))) W a a + rowR (fun i => atG g (i, (y : Int))) W a a) = sm H (fun y => rowR (fun i => atG g (i, (y : Int))) W a a + rowR (fun i => atG g (i, (y : Int))) W a a) :=
    sm_congr fun y _ => by rw [row_swap (A := fun i => atG g (i, (y : Int))) (o1 _) (o2 _) ha ha]
  have e2 : sm W (fun x => rowL (fun j => atG g ((x : Int), j)) H a a + rowR (fun j => atG g ((x : Int), j)) H a a) = sm W (fun x => rowR (fun j => atG g ((x : Int), j)) H a a + rowR (fun j => atG g ((x : Int), j)) H a a) :=
    sm_congr fun x _ => by rw [row_swap (A := fun j => atG g ((x : Int), j)) (o3 _) (o4 _) ha ha]
  refine ⟨sm H (fun y => rowR (fun i => atG g (i, (y : Int))) W a a) + sm W (fun x => rowR (fun j => atG g ((x : Int), j)) H a a), ?_⟩
  rw [edges_rows, e1, e2, sm_add, sm_add]
  omega
/-- How many cells a piece has. -/
def cellsN (g : Int × Int → Option Int) (W H : Nat) (a : Int) : Nat := sm H (fun y => sm W (fun x => bn (atG g ((x : Int), (y : Int)) = a)))
theorem count_all (l : List Int) {N : Nat} (h : ∀ v ∈ l, -1 ≤ v ∧ v < N) : l.count (-1) + sm N (fun o => l.count (o : Int)) = l.length := by
  rw [less_sum]
  induction l with
  | nil => rfl
  | cons v l ih =>
    have h1 := h v (by simp)
    have h2 := ih fun u hu => h u (by simp [hu])
    simp only [List.count_cons, List.countP_cons, List.length_cons, beq_iff_eq, decide_eq_true_eq]
    by_cases c : v = -1
    · rw [if_pos c, if_neg (by omega)]; omega
    · rw [if_neg c, if_pos (by omega)]; omega
theorem bn_true {p : Prop} [Decidable p] (h : p) : bn p = 1 := if_pos h
theorem bn_false {p : Prop} [Decidable p] (h : ¬ p) : bn p = 0 := if_neg h
theorem sm_mul (k n : Nat) (f : Nat → Nat) : k * sm n f = sm n (fun i => k * f i) := by
  induction n with
  | zero => rfl
  | succ n ih => rw [sm_succ, sm_succ, Nat.mul_add, ih]
theorem sm_const (n k : Nat) : sm n (fun _ => k) = n * k := by
  induction n with
  | zero => simp [sm_zero]
  | succ n ih => rw [sm_succ, ih, Nat.succ_mul]
theorem Grid.low (G : Grid g W H) (p : Int × Int) : -1 ≤ atG g p := by
  by_cases hp : inPic W H p
  · have := G.at_in hp; omega
  · rw [G.at_out hp]; omega
theorem edges_grid (g : Int × Int → Option Int) (W H : Nat) (a b : Int) : edgesTo g W a b (H * W) = sm H (fun y => sm W (fun x => eAt g a b ((x : Int), (y : Int)))) := sm_grid W H (fun x y => eAt g a b ((x : Int), (y : Int)))
/-- All edges of a piece, with those within it: four a cell. -/
theorem edges_all (G : Grid g W H) {N : Nat} (hN : ∀ p, atG g p < N) (a : Int) : edgesTo g W a (-1) (H * W) + sm N (fun o => edgesTo g W a o (H * W)) = 4 * cellsN g W H a := by
  simp only [edges_grid]
  rw [sm_swap N H (fun o y => sm W (fun x => eAt g a (o : Int) ((x : Int), (y : Int)))), ← sm_add]
  unfold cellsN
  rw [sm_mul]
  refine sm_congr fun y _ => ?_
  rw [sm_swap N W (fun o x => eAt g a (o : Int) ((x : Int), (y : Int))), ← sm_add, sm_mul]
  refine sm_congr fun x _ => ?_
  by_cases h : atG g ((x : Int), (y : Int)) = a
  · rw [bn_true h]
    simp only [eAt_yes h]
    have := count_all (aroundL g (x : Int) (y : Int)) (N := N) (fun v hv => by
      simp only [aroundL, List.mem_cons, List.not_mem_nil, or_false] at hv
      rcases hv with rfl | rfl | rfl | rfl <;> exact ⟨G.low _, hN _⟩)
    rw [this]
    rfl
  · rw [bn_false h]
    simp only [eAt_no h]
    rw [sm_none fun _ _ => rfl]
/-- The border: twice as many edges as the picture is wide and high. -/
theorem edges_border (G : Grid g W H) {N : Nat} (hN : ∀ p, atG g p < N) : sm N (fun a => edgesTo g W a (-1) (H * W)) = 2 * (W + H) := by
  simp only [edges_grid]
  rw [sm_swap]
  have cell : ∀ y, y < H → sm N (fun a => sm W (fun x => eAt g (a : Int) (-1) ((x : Int), (y : Int)))) = sm W (fun x => (bn (x = 0) + bn (x + 1 = W)) + (bn (y = 0) + bn (y + 1 = H))) := fun y hy => by
    rw [sm_swap]
    refine sm_congr fun x hx => ?_
    have h0 := (G.at_in (p := ((x : Int), (y : Int))) ⟨by simp only; omega, by simp only; omega, by simp only; omega, by simp only; omega⟩).1
    have h1 := hN ((x : Int), (y : Int))
    obtain ⟨A, hA⟩ : ∃ A : Nat, atG g ((x : Int), (y : Int)) = A := ⟨(atG g ((x : Int), (y : Int))).toNat, by omega⟩
    refine sm_one N A _ (by omega) _ (fun i _ hi => eAt_no (by omega)) ?_
    rw [eAt_yes hA]
    have out : ∀ p : Int × Int, (atG g p = -1) ↔ ¬ inPic W H p := fun p => ⟨fun h hp => by have := (G.at_in hp).1; omega, fun h => G.at_out h⟩
    have l : (atG g ((x : Int) - 1, (y : Int)) = -1) ↔ x = 0 := by rw [out]; unfold inPic; simp only; omega
    have r : (atG g ((x : Int) + 1, (y : Int)) = -1) ↔ x + 1 = W := by rw [out]; unfold inPic; simp only; omega
    have u : (atG g ((x : Int), (y : Int) - 1) = -1) ↔ y = 0 := by rw [out]; unfold inPic; simp only; omega
    have d : (atG g ((x : Int), (y : Int) + 1) = -1) ↔ y + 1 = H := by rw [out]; unfold inPic; simp only; omega
    simp only [aroundL, List.count_cons, List.count_nil, beq_iff_eq, l, r, u, d, bn]
    omega
  rw [sm_congr cell]
  have one : ∀ n, 0 < n → sm n (fun x => bn (x = 0) + bn (x + 1 = n)) = 2 := fun n hn => by
    rw [sm_add, sm_one n 0 1 hn _ (fun i _ hi => bn_false hi) (bn_true rfl), sm_one n (n - 1) 1 (by omega) _ (fun i _ hi => bn_false (by omega)) (bn_true (by omega))]
  have row : ∀ y, sm W (fun x => (bn (x = 0) + bn (x + 1 = W)) + (bn (y = 0) + bn (y + 1 = H))) = 2 + W * (bn (y = 0) + bn (y + 1 = H)) := fun y => by
    rw [sm_add, one W G.w1, sm_const]
  rw [sm_congr fun y _ => row y, sm_add, sm_const, ← sm_mul, one H G.h1]
  omega
/-- The edges between pieces, counted for both: twice the lines. -/
theorem pairs_twice (S : Nat → Nat → Nat) (hS : ∀ a b, S a b = S b a) (N : Nat) : sm N (fun a => sm N (fun b => if b = a then 0 else S a b)) = 2 * sm N (fun a => sm a (fun b => S a b)) := by
  induction N with
  | zero => rfl
  | succ n ih =>
    rw [sm_succ, sm_succ n (fun a => sm a (fun b => S a b)), Nat.mul_add, ← ih]
    have e1 : sm n (fun a => sm (n + 1) (fun b => if b = a then 0 else S a b)) = sm n (fun a => sm n (fun b => if b = a then 0 else S a b)) + sm n (fun b => S n b) := by
      rw [← sm_add]
      refine sm_congr fun a ha => ?_
      rw [sm_succ, if_neg (by omega), hS a n]
    have e2 : sm (n + 1) (fun b => if b = n then 0 else S n b) = sm n (fun b => S n b) := by
      rw [sm_succ, if_pos rfl, Nat.add_zero]
      exact sm_congr fun b hb => if_neg (by omega)
    rw [e1, e2]
    omega
end
end Go.Proofs.Ytogalmkeipigeaa

/- CutWhole: what a list of sides holds: in order, each piece once, with as many edges; their sums. -/
namespace Go.Proofs.Ytogalmkeipigeaa
open Go.RowKit

theorem sides_at {F : List Int} : ∀ {n j : Nat} {p : Int × Int}, (sidesTo F n)[j]? = some p → -1 ≤ p.1 ∧ p.1 < (n : Int) - 1 ∧ p.2 = (F.count p.1 : Nat) ∧ 0 < F.count p.1 := by
  intro n
  induction n with
  | zero => intro j p h; simp [sidesTo] at h
  | succ n ih =>
    intro j p h
    simp only [sidesTo] at h
    rcases Nat.lt_or_ge j (sidesTo F n).length with hj | hj
    · rw [List.getElem?_append_left hj] at h
      have := ih h
      omega
    · rw [List.getElem?_append_right hj] at h
      split at h
      · rename_i hc
        rcases Nat.eq_zero_or_pos (j - (sidesTo F n).length) with h0 | h0
        · rw [h0] at h
          obtain rfl := Option.some.inj h
          exact ⟨by simp only; omega, by simp only; omega, rfl, hc⟩
        · rw [List.getElem?_eq_none (by simp; omega)] at h; cases h
      · simp at h
theorem sides_asc {F : List Int} : ∀ {n i j : Nat} {p q : Int × Int}, i < j → (sidesTo F n)[i]? = some p → (sidesTo F n)[j]? = some q → p.1 < q.1 := by
  intro n
  induction n with
  | zero => intro i j p q _ h; simp [sidesTo] at h
  | succ n ih =>
    intro i j p q hij hi hj
    simp only [sidesTo] at hi hj
    rcases Nat.lt_or_ge j (sidesTo F n).length with h1 | h1
    · rw [List.getElem?_append_left h1] at hj
      rw [List.getElem?_append_left (by omega)] at hi
      exact ih hij hi hj
    · rw [List.getElem?_append_right h1] at hj
      split at hj
      · rcases Nat.eq_zero_or_pos (j - (sidesTo F n).length) with h0 | h0
        · rw [h0] at hj
          obtain rfl := Option.some.inj hj
          rw [List.getElem?_append_left (by omega)] at hi
          have := sides_at hi
          simp only
          omega
        · rw [List.getElem?_eq_none (by simp; omega)] at hj; cases hj
      · simp at hj
/-- All edges of a list of sides, and those on the border. -/
theorem sides_sum (F : List Int) (n : Nat) : ((sidesTo F n).map fun p => p.2.toNat).sum = sm n (fun k => F.count ((k : Int) - 1)) := by
  induction n with
  | zero => rfl
  | succ n ih =>
    simp only [sidesTo, List.map_append, List.sum_append, ih, sm_succ]
    congr 1
    split
    · simp
    · rename_i h
      simp only [List.map_nil, List.sum_nil]
      omega
theorem sides_border (F : List Int) (n : Nat) (hn : 0 < n) : ((sidesTo F n).map fun p => if p.1 = -1 then p.2.toNat else 0).sum = F.count (-1) := by
  induction n with
  | zero => omega
  | succ n ih =>
    simp only [sidesTo, List.map_append, List.sum_append]
    rcases Nat.eq_zero_or_pos n with h0 | h0
    · subst h0
      simp only [sidesTo, List.map_nil, List.sum_nil, Nat.zero_add]
      rw [show ((0 : Nat) : Int) - 1 = -1 by omega]
      split
      · simp
      · rename_i h; simp only [List.map_nil, List.sum_nil]; omega
    · rw [ih h0]
      split
      · simp only [List.map_cons, List.map_nil, List.sum_cons, List.sum_nil]
        rw [if_neg (by omega)]
        omega
      · simp
/-- What goes around a piece: even, and no more than four a cell. -/
theorem around_even {W H N : Nat} {g : Int × Int → Option Int} (G : Grid g W H) (hN : ∀ p, atG g p < N) {k : Nat} (hk : k < N) : ∃ m, sm (N + 1) (fun o => (facedL g W H k).count ((o : Int) - 1)) = 2 * m ∧ sm (N + 1) (fun o => (facedL g W H k).count ((o : Int) - 1)) ≤ 4 * cellsN g W H k := by
  have h1 := edges_all G hN (k : Int)
  obtain ⟨m, hm⟩ := edges_even G (a := (k : Int)) (by omega)
  have e : sm (N + 1) (fun o => (facedL g W H k).count ((o : Int) - 1)) + edgesTo g W k k (H * W) = edgesTo g W k (-1) (H * W) + sm N (fun o => edgesTo g W k o (H * W)) := by
    rw [sm_first]
    have b0 : (facedL g W H k).count (((0 : Nat) : Int) - 1) = edgesTo g W k (-1) (H * W) := by
      rw [show ((0 : Nat) : Int) - 1 = -1 by omega, edgesTo_faced _ _ _ _ _ (by omega)]
    rw [b0, Nat.add_assoc]
    congr 1
    have split : ∀ n, n ≤ N → sm n (fun i => (facedL g W H k).count (((i + 1 : Nat) : Int) - 1)) + (if k < n then edgesTo g W k k (H * W) else 0) = sm n (fun o => edgesTo g W k o (H * W)) := fun n => by
      induction n with
      | zero => intro _; rfl
      | succ n ih =>
        intro hn
        have := ih (by omega)
        rw [sm_succ, sm_succ, show ((n + 1 : Nat) : Int) - 1 = (n : Int) by omega]
        by_cases hkn : k = n
        · subst hkn
          rw [faced_self g W H (k : Int)]
          rw [if_neg (by omega)] at this
          rw [if_pos (by omega)]
          omega
        · rw [← edgesTo_faced g W H (k : Int) (n : Int) (by omega)]
          by_cases h : k < n
          · rw [if_pos h] at this; rw [if_pos (by omega)]; omega
          · rw [if_neg h] at this; rw [if_neg (by omega)]; omega
    have := split N (Nat.le_refl _)
    rw [if_pos hk] at this
    exact this
  exact ⟨2 * cellsN g W H k - m, by omega, by omega⟩
end Go.Proofs.Ytogalmkeipigeaa

/- CutWhole: the cells of a piece are as many as its numbers in the list; all together they are the picture's. -/
namespace Go.Proofs.Ytogalmkeipigeaa
open Go.RowKit

theorem list_range (zs : List Int) : zs = (List.range zs.length).map (fun k => zs[k]?.getD 0) := by
  apply List.ext_getElem?
  intro k
  by_cases h : k < zs.length
  · rw [List.getElem?_map, List.getElem?_range h, List.getElem?_eq_getElem h, Option.map_some, List.getElem?_eq_getElem h]; rfl
  · rw [List.getElem?_eq_none (by omega), List.getElem?_eq_none (by simp; omega)]

theorem laid_at {W H : Nat} {zs : List Int} (hW : 0 < W) (hl : zs.length = W * H) {x y : Nat} (hx : x < W) (hy : y < H) : atG (laidG W zs zs.length) ((x : Int), (y : Int)) = zs[y * W + x]?.getD 0 := by
  have h1 : y * W + x < zs.length := by
    rw [hl]
    have h2 : y * W + W ≤ H * W := by rw [← Nat.succ_mul]; exact Nat.mul_le_mul_right W hy
    rw [Nat.mul_comm W H]; omega
  unfold atG laidG
  rw [if_pos ⟨by omega, by simp; omega, by omega, by simpa using h1⟩]
  simp

theorem cells_count {W H : Nat} {zs : List Int} (hW : 0 < W) (hl : zs.length = W * H) (n : Int) : cellsN (laidG W zs zs.length) W H n = zs.count n := by
  conv => rhs; rw [list_range zs]
  rw [count_range]
  generalize hg : laidG W zs zs.length = g
  rw [hl, Nat.mul_comm W H]
  unfold cellsN
  rw [← sm_grid W H (fun x y => bn (atG g ((x : Int), (y : Int)) = n))]
  refine sm_congr fun m hm => ?_
  have h1 : m % W < W := Nat.mod_lt _ hW
  have h2 : m / W < H := (Nat.div_lt_iff_lt_mul hW).2 hm
  rw [← hg, laid_at hW hl h1 h2]
  have h3 : m / W * W + m % W = m := by rw [Nat.mul_comm]; exact Nat.div_add_mod m W
  rw [h3]

theorem cells_total {zs : List Int} {N : Nat} (h : ∀ v ∈ zs, 0 ≤ v ∧ v < (N : Int)) : sm N (fun a => zs.count (a : Int)) = zs.length := by
  rw [less_sum, List.countP_eq_length]
  intro v hv
  simpa using h v hv
end Go.Proofs.Ytogalmkeipigeaa

/- CutWhole: what the sides of the pieces bring, side by side. -/
namespace Go.Proofs.Ytogalmkeipigeaa
open Go Go.RowKit Go.Shelf

def partS (L : List (Int × Int)) (f : Int × Int → Nat) (j : Nat) : Nat := ((L.take j).map f).sum
theorem partS_zero (L : List (Int × Int)) (f : Int × Int → Nat) : partS L f 0 = 0 := rfl
theorem partS_all (L : List (Int × Int)) (f : Int × Int → Nat) : partS L f L.length = (L.map f).sum := by unfold partS; rw [List.take_length]
theorem partS_succ {L : List (Int × Int)} (f : Int × Int → Nat) {j : Nat} {p : Int × Int} (h : L[j]? = some p) : partS L f (j + 1) = partS L f j + f p := by
  unfold partS
  rw [List.take_add_one, h]
  simp
theorem partS_le (f : Int × Int → Nat) : ∀ (L : List (Int × Int)) (j : Nat), partS L f j ≤ (L.map f).sum := by
  intro L
  induction L with
  | nil => intro j; simp [partS]
  | cons p L ih =>
    intro j
    cases j with
    | zero => simp [partS]
    | succ j => have := ih j; simp only [partS, List.take_succ_cons, List.map_cons, List.sum_cons] at this ⊢; omega
theorem partS_none {L : List (Int × Int)} {f : Int × Int → Nat} : ∀ {j : Nat}, (∀ i p, i < j → L[i]? = some p → f p = 0) → partS L f j = 0 := by
  intro j
  induction j with
  | zero => intro _; rfl
  | succ j ih =>
    intro h
    have h0 := ih fun i p hi hp => h i p (by omega) hp
    cases hp : L[j]? with
    | none => unfold partS at h0 ⊢; rw [List.take_add_one, hp]; simpa using h0
    | some p => rw [partS_succ f hp, h0, h j p (by omega) hp]
theorem partS_add (L : List (Int × Int)) (f h : Int × Int → Nat) (j : Nat) : partS L (fun p => f p + h p) j = partS L f j + partS L h j := by
  unfold partS
  generalize L.take j = l
  induction l with
  | nil => rfl
  | cons p l ih => simp only [List.map_cons, List.sum_cons]; omega

/-- The edges with one piece, among all sides. -/
theorem sides_one (F : List Int) (n b : Nat) : ((sidesTo F n).map fun p => if p.1 = (b : Int) - 1 then p.2.toNat else 0).sum = if b < n then F.count ((b : Int) - 1) else 0 := by
  induction n with
  | zero => rfl
  | succ n ih =>
    simp only [sidesTo, List.map_append, List.sum_append]
    rw [ih]
    by_cases hc : 0 < F.count ((n : Int) - 1)
    · rw [if_pos hc]
      simp only [List.map_cons, List.map_nil, List.sum_cons, List.sum_nil]
      by_cases hb : b = n
      · subst hb
        rw [if_neg (Nat.lt_irrefl _), if_pos rfl, if_pos (Nat.lt_succ_self _)]
        simp
      · rw [if_neg (by omega : ¬ ((n : Int) - 1 = (b : Int) - 1))]
        by_cases hbn : b < n
        · rw [if_pos hbn, if_pos (by omega)]; omega
        · rw [if_neg hbn, if_neg (by omega)]; rfl
    · rw [if_neg hc]
      simp only [List.map_nil, List.sum_nil, Nat.add_zero]
      by_cases hb : b = n
      · subst hb
        rw [if_neg (Nat.lt_irrefl _), if_pos (Nat.lt_succ_self _)]
        omega
      · by_cases hbn : b < n
        · rw [if_pos hbn, if_pos (by omega)]
        · rw [if_neg hbn, if_neg (by omega)]

def pAt (L : List (Int × Int)) (j : Nat) : Int := (L[j]?.getD (0, 0)).1
def mAt (L : List (Int × Int)) (j : Nat) : Nat := (L[j]?.getD (0, 0)).2.toNat
def lastAt (L : List (Int × Int)) (j : Nat) : Int := if j = 0 then -2 else pAt L (j - 1)
def fA (p : Int × Int) : Nat := p.2.toNat
def fB (p : Int × Int) : Nat := if p.1 = -1 then p.2.toNat else 0
def fC (p : Int × Int) : Nat := if p.1 = -1 then 0 else p.2.toNat
def fR (b : Nat) (p : Int × Int) : Nat := if p.1 = (b : Int) then p.2.toNat else 0
def efS (k : Nat) (L : List (Int × Int)) (E0 : Nat → Nat) (j : Nat) : Nat → Nat := fun i => if i / 40 = k then partS L (fR (i % 40)) j else E0 i

theorem step_sides {F : List Int} {N k : Nat} (hN : N ≤ 40) (hk : F.count (k : Int) = 0) (hF : F.length ≤ 1000000) (tb tc : Nat) (E0 : Nat → Nat)
    (hA : ((sidesTo F (N + 1)).map fA).sum ≤ 900000) (hB : tb ≤ 50000) (hC : tc ≤ 950000) (hA2 : ((sidesTo F (N + 1)).map fA).sum ≤ 1000) :
    StepOk N k (sidesTo F (N + 1)).length (pAt (sidesTo F (N + 1))) (mAt (sidesTo F (N + 1))) (partS (sidesTo F (N + 1)) fA) (fun j => tb + partS (sidesTo F (N + 1)) fB j) (fun j => tc + partS (sidesTo F (N + 1)) fC j)
      (lastAt (sidesTo F (N + 1))) (efS k (sidesTo F (N + 1)) E0) := by
  intro j hj
  generalize hL : sidesTo F (N + 1) = L at *
  obtain ⟨p, hp⟩ : ∃ p, L[j]? = some p := ⟨_, List.getElem?_eq_getElem hj⟩
  have s1 := sides_at (F := F) (n := N + 1) (by rw [hL]; exact hp)
  obtain ⟨a1, a2, a3, a4⟩ := s1
  have eP : pAt L j = p.1 := by unfold pAt; rw [hp]; rfl
  have eM : mAt L j = p.2.toNat := by unfold mAt; rw [hp]; rfl
  have eMc : mAt L j = F.count p.1 := by rw [eM, a3]; simp
  have hcl := List.count_le_length (a := p.1) (l := F)
  have hlast : lastAt L j < p.1 := by
    unfold lastAt
    split
    · omega
    · rename_i h0
      obtain ⟨r, hr⟩ : ∃ r, L[j - 1]? = some r := ⟨_, List.getElem?_eq_getElem (by omega)⟩
      have := sides_asc (F := F) (n := N + 1) (i := j - 1) (j := j) (by omega) (by rw [hL]; exact hr) (by rw [hL]; exact hp)
      show pAt L (j - 1) < p.1
      unfold pAt; rw [hr]; exact this
  have hbB : ∀ j, partS L fB j ≤ partS L fA j := fun j => by
    have := partS_add L fB fC j
    have e : (fun p => fB p + fC p) = fA := by funext p; unfold fB fC fA; split <;> omega
    rw [e] at this; omega
  have hbC : ∀ j, partS L fC j ≤ partS L fA j := fun j => by
    have := partS_add L fB fC j
    have e : (fun p => fB p + fC p) = fA := by funext p; unfold fB fC fA; split <;> omega
    rw [e] at this; omega
  have hAj := partS_le fA L j
  have hBj := hbB j
  have hCj := hbC j
  refine ⟨⟨by rw [eP]; exact hlast, by rw [eP]; omega, ?_, by rw [eMc]; exact a4, ?_, ?_, by rw [eMc]; omega, by omega, by show tb + partS L fB j ≤ _; omega, by show tc + partS L fC j ≤ _; omega⟩, ?_⟩
  · rw [eP]; intro e; rw [e] at a4; omega
  · unfold lastAt; rw [if_neg (by omega), Nat.add_sub_cancel]
  · rw [partS_succ fA hp, eM]; rfl
  · rw [eP, eM]
    show (_ ∧ tb + partS L fB (j + 1) = tb + partS L fB j + _ ∧ tc + partS L fC (j + 1) = tc + partS L fC j ∧ _) ∨ ∃ q : Nat, _ ∧ _ ∧ tb + partS L fB (j + 1) = tb + partS L fB j ∧ tc + partS L fC (j + 1) = tc + partS L fC j + _ ∧ _
    rw [partS_succ fB hp, partS_succ fC hp]
    by_cases h1 : p.1 = -1
    · refine .inl ⟨h1, by unfold fB; rw [if_pos h1]; omega, by unfold fC; rw [if_pos h1]; omega, ?_⟩
      funext i
      unfold efS
      split
      · rw [partS_succ _ hp]
        have : fR (i % 40) p = 0 := by unfold fR; rw [if_neg (by omega)]
        omega
      · rfl
    · obtain ⟨q, hq⟩ : ∃ q : Nat, p.1 = q := ⟨p.1.toNat, by omega⟩
      refine .inr ⟨q, hq, by omega, by unfold fB; rw [if_neg h1]; omega, by unfold fC; rw [if_neg h1]; omega, ?_⟩
      funext i
      unfold efS
      have hq40 : q < 40 := by omega
      by_cases hi : i / 40 = k
      · rw [if_pos hi, if_pos hi, partS_succ _ hp]
        by_cases hm : i % 40 = q
        · rw [if_pos (by omega)]
          have z : partS L (fR (i % 40)) j = 0 := partS_none fun u r hu hr => by
            have := sides_asc (F := F) (n := N + 1) hu (by rw [hL]; exact hr) (by rw [hL]; exact hp)
            unfold fR; rw [if_neg (by omega)]
          rw [z]; unfold fR; rw [if_pos (by omega)]; omega
        · rw [if_neg (by omega)]
          have : fR (i % 40) p = 0 := by unfold fR; rw [if_neg (by omega)]
          omega
      · rw [if_neg hi, if_neg hi, if_neg (by omega)]

theorem sideRow_of {w : World} {base n : Nat} {v : Value} {L : List (Int × Int)} (hL : ∀ p ∈ L, 0 ≤ p.2) (h : w.ownsRow base 54 2 v L.length (sideCells L)) (sb0 : Nat) (hb : sb0 < base) :
    ∃ ao cap, v = .slice ao L.length cap ∧ SideRow sb0 L.length ao (pAt L) (mAt L) w := by
  obtain ⟨hl, ⟨rfl, e0⟩ | ⟨r, cap, cur, rfl, hbr, hg, h1, _, h2, h3⟩⟩ := h
  · exact ⟨none, 0, by rw [e0], fun h => absurd e0 (by omega)⟩
  · refine ⟨_, cap, rfl, fun _ => ⟨r, rfl, by omega, (Array.getElem?_eq_some_iff.1 hg).1, fun j hj => ?_⟩⟩
    have cell : ∀ i, i < (sideCells L).length → w.cell? ⟨r, i, none⟩ = (sideCells L)[i]? := fun i hi => by
      have e1 : (cur.toList.take (L.length * 2))[i]? = cur.toList[i]? := List.getElem?_take_of_lt (by omega)
      rw [h3] at e1
      simp only [World.cell?, hg]
      rw [e1, Array.getElem?_toList]
      simp
    obtain ⟨p, hp⟩ : ∃ p, L[j]? = some p := ⟨_, List.getElem?_eq_getElem hj⟩
    have hq := sideCells_at L j _ hp
    have hp2 := hL p (List.mem_of_getElem? hp)
    have eP : pAt L j = p.1 := by unfold pAt; rw [hp]; rfl
    have eM : ((mAt L j : Nat) : Int) = p.2 := by unfold mAt; rw [hp]; simp; omega
    rw [eP, eM]
    rw [cell _ (by rw [sideCells_len]; omega), cell _ (by rw [sideCells_len]; omega)]
    exact hq
end Go.Proofs.Ytogalmkeipigeaa

/- CutWhole: a cut that is too large, and what is no cut or not whole. -/
namespace Go.Proofs.Ytogalmkeipigeaa
open Go.RowKit

theorem idxOf_lt (p : Int → Bool) (l : List Int) (h : 0 ≤ idxOf p l) : idxOf p l < l.length := by
  unfold idxOf at h ⊢
  cases hf : l.findIdx? p with
  | none => rw [hf] at h; simp at h
  | some k =>
    obtain ⟨h1, _⟩ := List.findIdx?_eq_some_iff_getElem.1 hf
    simpa [hf] using h1
theorem countR_range {f : Nat → Int} {N : Nat} (hN : N ≤ 40) (h : (countR f N).2 ≠ 0) : ((countR f N).2 = 4 ∨ (countR f N).2 = 6) ∧ 0 ≤ (countR f N).1 ∧ (countR f N).1 < 40 := by
  unfold countR at h ⊢
  split
  · rename_i h1
    have h2 := idxOf_lt _ _ h1
    rw [firsts_len] at h2
    exact ⟨.inl rfl, h1, by show idxOf _ _ < 40; omega⟩
  · split
    · rename_i h1
      have h2 := idxOf_lt _ _ h1
      rw [firsts_len] at h2
      exact ⟨.inr rfl, h1, by show idxOf _ _ < 40; omega⟩
    · rename_i h1 h2; rw [if_neg h1, if_neg h2] at h; exact absurd rfl h
theorem checkR_range {W H : Int} {zs : List Int} (h : (checkR W H zs).2 ≠ 0) :
    decide ((checkR W H zs).2 = 1) = (!isCutB W H zs) ∧ ((checkR W H zs).2 = 1 ∨ (checkR W H zs).2 = 4 ∨ (checkR W H zs).2 = 6) ∧ 0 ≤ (checkR W H zs).1 ∧ (checkR W H zs).1 < 40 := by
  cases hb : isCutB W H zs with
  | false => rw [checkR_bad hb]; exact ⟨rfl, .inl rfl, by decide, by decide⟩
  | true =>
    obtain ⟨W, H, rfl, rfl, C⟩ := isCutB_true hb
    rw [checkR_good hb] at h ⊢
    obtain ⟨h1, h2⟩ := countR_range C.many_le.2 h
    refine ⟨?_, .inr h1, h2⟩
    rw [Bool.not_true, decide_eq_false_iff_not]
    omega

set_option maxRecDepth 100000 in
set_option maxHeartbeats 2000000 in
theorem cutWhole_large (W H : Int) (ao : Option Addr) (n cap : Nat) (w : World) (hn : 288 < n) :
    Calls Try.prog 6 #[cutV W H ao n cap] w fun e w' => e = .returned (.bool true) ∧ Mod noB w w' := by
  have hd : decide (288 < (n : Int)) = true := by simp; omega
  have HL : Hold (∀ w1, Calls Try.prog 12 #[cutV W H ao n cap] w1 fun e w' => e = .returned (.bool true) ∧ Mod noB w1 w') := ⟨fun w1 => by rw [← hd]; exact large_any W H ao n cap w1⟩
  have HM0 := Hold.mk ((Mod.refl noB w).alloc (.cells #[.int .i64 W, .int .i64 H, .slice ao n cap] 24))
  clear hd hn
  go_enter Try.func6, Try.ntmps6
  go_wp2_with (first
    | (go_at_call 12; refine (HL.out _).mono ?_; rintro e w1 ⟨rfl, hM1⟩; have HM1 := Hold.mk hM1; clear hM1)
    | (go_at_call 13; refine (awake_any w1).mono ?_; rintro e w2 ⟨rfl, hM2⟩; have HM2 := Hold.mk hM2; clear hM2))
  go_ret
  exact ⟨rfl, (HM0.out.trans HM1.out).trans HM2.out⟩
end Go.Proofs.Ytogalmkeipigeaa

/- CutWhole: what is no cut or not whole. -/
namespace Go.Proofs.Ytogalmkeipigeaa
open Go.RowKit

set_option maxRecDepth 100000 in
set_option maxHeartbeats 4000000 in
theorem whole_no (W H : Int) (ao : Option Addr) (zs : List Int) (cap : Nat) (w : World) (hs : IntsAt w ao zs) (hn : zs.length ≤ 288) (h : (checkR W H zs).2 ≠ 0) :
    Calls Try.prog 6 #[cutV W H ao zs.length cap] w fun e w' => e = .returned (.bool true) ∧ Mod noB w w' := by
  have hd : decide (288 < (zs.length : Int)) = false := by simp; omega
  have HL : Hold (∀ w1, Calls Try.prog 12 #[cutV W H ao zs.length cap] w1 fun e w' => e = .returned (.bool false) ∧ Mod noB w1 w') := ⟨fun w1 => by rw [← hd]; exact large_any W H ao zs.length cap w1⟩
  have HB := Hold.mk (box_facts (W := W) (H := H) (cap := cap) hs)
  have HM0 := Hold.mk ((Mod.refl noB w).alloc (.cells #[.int .i64 W, .int .i64 H, .slice ao zs.length cap] 24))
  have HC := Hold.mk (fun w1 => check_any W H ao zs cap w1)
  have HD := Hold.mk (fun w1 => refCut_any W H ao zs cap w1)
  obtain ⟨hA, hE, hlo, hhi⟩ := checkR_range h
  have he : (checkR W H zs).2 ≠ 0 := h
  clear hd hs h
  generalize (checkR W H zs).1 = k1 at *
  generalize (checkR W H zs).2 = e1 at *
  generalize isCutB W H zs = b1 at *
  have he1 : (e1 != 0) = true := by simpa using he
  have hl1 : decide (0 ≤ k1) = true := decide_eq_true hlo
  have hl2 : decide (k1 < 40) = true := decide_eq_true hhi
  have hb1 : b1 = !decide (e1 = 1) := by rw [hA]; simp
  clear hA he hlo hhi hn
  subst hb1
  go_enter Try.func6, Try.ntmps6
  go_wp2_with (first
    | (go_at_call 12; refine (HL.out _).mono ?_; rintro e w1 ⟨rfl, hM⟩; obtain ⟨c0, c1, c2, hI⟩ := HB.out _ hM; have HW1 := Hold.mk (And.intro hM hI); clear hM hI HL)
    | (go_at_call 14; refine (HC.out w1 HW1.out.2).mono ?_; rintro e w2 ⟨rfl, hM⟩; clear c0 c1 c2; obtain ⟨c0, c1, c2, hI⟩ := HB.out _ (HW1.out.1.trans hM); have HW2 := Hold.mk (And.intro (HW1.out.1.trans hM) hI); clear hM hI HC)
    | (go_at_call 30; refine (HD.out w2 HW2.out.2).mono ?_; rintro e w3 ⟨rfl, hM⟩; clear c0 c1 c2; have HW3 := Hold.mk (HW2.out.1.trans hM); clear hM HD)
    | (go_at_call 13; refine (awake_any w3).mono ?_; rintro e w4 ⟨rfl, hM⟩; have HW4 := Hold.mk (HW3.out.trans hM); clear hM))
  all_goals go_ret
  all_goals exact ⟨by first | rfl | simp, HM0.out.trans HW4.out⟩
end Go.Proofs.Ytogalmkeipigeaa

/- CutWhole: the pieces one after another, and what they come to. -/
namespace Go.Proofs.Ytogalmkeipigeaa
open Go Go.RowKit Go.Shelf

theorem count_pos {W H : Nat} {zs : List Int} (C : CutN W H zs) (h : (checkR W H zs).2 = 0) : ∀ k : Nat, k < many zs → zs.count (k : Int) ≠ 0 := by
  have hb := (checkR_ok h).1
  have hm := many_eq zs
  intro k
  induction k using Nat.strongRecOn with
  | ind k ih =>
    intro hk h0
    by_cases hlt : (k : Int) < greatest zs
    · have := checkR_4 C hb hlt h0 (fun j hj => ih j hj (by omega))
      rw [this] at h; cases h
    · have e : (k : Int) = greatest zs := by omega
      rw [e, List.count_eq_zero] at h0
      exact h0 (greatest_mem C.pos (fun z hz => (C.num z hz).1))

theorem le_greatest2 {zs : List Int} {z : Int} (h : z ∈ zs) : z ≤ greatest zs := by
  have key : ∀ (l : List Int) (a : Int), a ≤ l.foldl max a ∧ ∀ x ∈ l, x ≤ l.foldl max a := by
    intro l
    induction l with
    | nil => intro a; simp
    | cons y l ih =>
      intro a
      obtain ⟨h1, h2⟩ := ih (max a y)
      refine ⟨by simp only [List.foldl_cons]; omega, fun x hx => ?_⟩
      simp only [List.foldl_cons]
      rcases List.mem_cons.1 hx with rfl | hx
      · omega
      · exact h2 x hx
  exact (key zs 0).2 z h
theorem at_many2 {W H : Nat} {zs : List Int} (C : CutN W H zs) (p : Int × Int) : atG (laidG W zs zs.length) p < many zs := by
  have hm := many_eq zs
  have h0 := greatest_nonneg zs
  by_cases hp : inPic W H p
  · obtain ⟨h1, h2, h3, h4⟩ := hp
    obtain ⟨x, hx⟩ : ∃ x : Nat, p.1 = x := ⟨p.1.toNat, by omega⟩
    obtain ⟨y, hy⟩ : ∃ y : Nat, p.2 = y := ⟨p.2.toNat, by omega⟩
    have e : p = ((x : Int), (y : Int)) := by rw [← hx, ← hy]
    have hxy := xy_lt (W := W) (H := H) (x := x) (y := y) (by omega) (by omega)
    rw [e, C.g (by omega) (by omega)]
    rw [← C.len] at hxy
    rw [List.getElem?_eq_getElem hxy, Option.getD_some]
    have := le_greatest2 (List.getElem_mem hxy)
    omega
  · rw [C.grid.at_out hp]; omega

theorem sm_le2 {n k : Nat} {f : Nat → Nat} (h : ∀ i, f i ≤ k) : sm n f ≤ k * n := by
  induction n with
  | zero => exact Nat.zero_le _
  | succ n ih => rw [sm_succ, Nat.mul_succ]; have := h n; omega
/-- The sides of the piece k, as a list. -/
def sdL (g : Int × Int → Option Int) (W H N k : Nat) : List (Int × Int) := sidesTo (facedL g W H (k : Int)) (N + 1)
def tz (zs : List Int) (k : Nat) : Nat := sm k (fun a => zs.count (a : Int))
def tb (g : Int × Int → Option Int) (W H k : Nat) : Nat := sm k (fun a => edgesTo g W a (-1) (H * W))
def tc (g : Int × Int → Option Int) (W H N k : Nat) : Nat := sm k (fun a => sm N (fun b => if b = a then 0 else edgesTo g W a b (H * W)))
def et (g : Int × Int → Option Int) (W H N k : Nat) : Nat → Nat := fun i => if i / 40 < k ∧ i % 40 < N then (facedL g W H ((i / 40 : Nat) : Int)).count ((i % 40 : Nat) : Int) else 0

theorem sum_fB (g : Int × Int → Option Int) (W H N k : Nat) : ((sdL g W H N k).map fB).sum = edgesTo g W k (-1) (H * W) := by
  have := sides_border (facedL g W H (k : Int)) (N + 1) (by omega)
  rw [edgesTo_faced g W H (k : Int) (-1) (by omega)]
  exact this
theorem sum_fA (g : Int × Int → Option Int) (W H N k : Nat) : ((sdL g W H N k).map fA).sum = sm (N + 1) (fun o => (facedL g W H (k : Int)).count ((o : Int) - 1)) := sides_sum _ _
theorem sum_fC (g : Int × Int → Option Int) (W H N k : Nat) : ((sdL g W H N k).map fC).sum = sm N (fun b => if b = k then 0 else edgesTo g W k b (H * W)) := by
  have h1 := partS_add (sdL g W H N k) fB fC (sdL g W H N k).length
  rw [show (fun p => fB p + fC p) = fA from by funext p; unfold fB fC fA; split <;> omega] at h1
  rw [partS_all, partS_all, partS_all, sum_fA, sum_fB, sm_first] at h1
  have e0 : (facedL g W H (k : Int)).count (((0 : Nat) : Int) - 1) = edgesTo g W k (-1) (H * W) := by
    rw [show ((0 : Nat) : Int) - 1 = -1 by omega]
    exact (edgesTo_faced g W H (k : Int) (-1) (by omega)).symm
  rw [e0] at h1
  have e1 : sm N (fun i => (facedL g W H (k : Int)).count (((i + 1 : Nat) : Int) - 1)) = sm N (fun b => if b = k then 0 else edgesTo g W k b (H * W)) := sm_congr fun b _ => by
    rw [show ((b + 1 : Nat) : Int) - 1 = (b : Int) by omega]
    by_cases hb : b = k
    · rw [if_pos hb, hb]; exact faced_self g W H (k : Int)
    · rw [if_neg hb, edgesTo_faced g W H (k : Int) (b : Int) (by omega)]
  omega
theorem sum_fR (g : Int × Int → Option Int) (W H N k b : Nat) : ((sdL g W H N k).map (fR b)).sum = if b < N then (facedL g W H (k : Int)).count (b : Int) else 0 := by
  have := sides_one (facedL g W H (k : Int)) (N + 1) (b + 1)
  rw [show ((b + 1 : Nat) : Int) - 1 = (b : Int) by omega] at this
  refine Eq.trans this ?_
  by_cases hb : b < N
  · rw [if_pos hb, if_pos (by omega)]
  · rw [if_neg hb, if_neg (by omega)]

theorem who_link {W H : Nat} {zs : List Int} (C : CutN W H zs) (h : (checkR W H zs).2 = 0) {g : Int × Int → Option Int} (hg : laidG W zs zs.length = g) {N : Nat} (hN : many zs = N) : ∀ k, k < N →
    (partS (sdL g W H N k) fA 0 = 0 ∧ tb g W H k + partS (sdL g W H N k) fB 0 = tb g W H k ∧ tc g W H N k + partS (sdL g W H N k) fC 0 = tc g W H N k ∧ lastAt (sdL g W H N k) 0 = -2 ∧ efS k (sdL g W H N k) (et g W H N k) 0 = et g W H N k) ∧
    (tz zs (k + 1) = tz zs k + zs.count (k : Int) ∧ tb g W H (k + 1) = tb g W H k + partS (sdL g W H N k) fB (sdL g W H N k).length ∧ tc g W H N (k + 1) = tc g W H N k + partS (sdL g W H N k) fC (sdL g W H N k).length ∧ et g W H N (k + 1) = efS k (sdL g W H N k) (et g W H N k) (sdL g W H N k).length) ∧
    ((sdL g W H N k).length ≤ 1000 ∧ 1 ≤ zs.count (k : Int) ∧ zs.count (k : Int) ≤ 1000000 ∧ tz zs k ≤ 1000000) ∧ ∃ m : Nat, partS (sdL g W H N k) fA (sdL g W H N k).length = 2 * m ∧ 2 * m ≤ 4 * zs.count (k : Int) := by
  intro k hk
  have hN40 : N ≤ 40 := by rw [← hN]; exact C.many_le.2
  have hlen : zs.length ≤ 144 := by rw [C.len]; exact Nat.mul_le_mul C.w2 C.h2
  have hgN : ∀ p, atG g p < N := fun p => by rw [← hg, ← hN]; exact at_many2 C p
  have G := C.grid
  rw [hg] at G
  refine ⟨⟨rfl, rfl, rfl, rfl, ?_⟩, ⟨sm_succ _ _, ?_, ?_, ?_⟩, ⟨?_, ?_, ?_, ?_⟩, ?_⟩
  · funext i
    unfold efS et
    by_cases hi : i / 40 = k
    · rw [if_pos hi, if_neg (by omega)]; rfl
    · rw [if_neg hi]
  · rw [partS_all, sum_fB]; exact sm_succ _ _
  · rw [partS_all, sum_fC]; exact sm_succ _ _
  · funext i
    unfold efS
    by_cases hi : i / 40 = k
    · rw [if_pos hi, partS_all, sum_fR]
      unfold et
      by_cases hb : i % 40 < N
      · rw [if_pos hb, if_pos ⟨by omega, hb⟩, hi]
      · rw [if_neg hb, if_neg (fun h => hb h.2)]
    · rw [if_neg hi]
      unfold et
      by_cases hb : i / 40 < k ∧ i % 40 < N
      · rw [if_pos hb, if_pos ⟨by omega, hb.2⟩]
      · rw [if_neg hb, if_neg (fun h => hb ⟨by omega, h.2⟩)]
  · have := sidesTo_len (facedL g W H (k : Int)) (N + 1)
    unfold sdL; omega
  · have := count_pos C h k (by omega); omega
  · have := List.count_le_length (a := (k : Int)) (l := zs); omega
  · have : tz zs k ≤ 144 * k := sm_le2 fun i => by have := List.count_le_length (a := (i : Int)) (l := zs); omega
    omega
  · obtain ⟨m, h1, h2⟩ := around_even G hgN hk
    refine ⟨m, by rw [partS_all, sum_fA]; exact h1, ?_⟩
    rw [h1] at h2
    have e := cells_count (W := W) (H := H) (zs := zs) C.w1 C.len (k : Int)
    rw [hg] at e
    rw [e] at h2
    exact h2

theorem who_step {W H : Nat} {zs : List Int} (C : CutN W H zs) {g : Int × Int → Option Int} (hg : laidG W zs zs.length = g) {N : Nat} (hN : many zs = N) : ∀ k, k < N →
    StepOk N k (sdL g W H N k).length (pAt (sdL g W H N k)) (mAt (sdL g W H N k)) (partS (sdL g W H N k) fA) (fun j => tb g W H k + partS (sdL g W H N k) fB j) (fun j => tc g W H N k + partS (sdL g W H N k) fC j)
      (lastAt (sdL g W H N k)) (efS k (sdL g W H N k) (et g W H N k)) := by
  intro k hk
  have hN40 : N ≤ 40 := by rw [← hN]; exact C.many_le.2
  have hlen : zs.length ≤ 144 := by rw [C.len]; exact Nat.mul_le_mul C.w2 C.h2
  have hgN : ∀ p, atG g p < N := fun p => by rw [← hg, ← hN]; exact at_many2 C p
  have G := C.grid
  rw [hg] at G
  have HHW : H * W ≤ 144 := Nat.le_trans (Nat.mul_le_mul C.h2 C.w2) (by decide)
  have hE : ∀ a b : Int, edgesTo g W a b (H * W) ≤ 576 := fun a b => Nat.le_trans (edgesTo_le _ _ _ _ _) (by omega)
  have hA : ((sdL g W H N k).map fA).sum ≤ 576 := by
    obtain ⟨m, h1, h2⟩ := around_even G hgN hk
    rw [sum_fA]
    have e := cells_count (W := W) (H := H) (zs := zs) C.w1 C.len (k : Int)
    rw [hg] at e
    rw [e] at h2
    have := List.count_le_length (a := (k : Int)) (l := zs)
    omega
  refine step_sides hN40 (faced_self g W H (k : Int)) (faced_len g W H _ C.w2 C.h2) _ _ _ (by show ((sdL g W H N k).map fA).sum ≤ _; omega) ?_ ?_ (by show ((sdL g W H N k).map fA).sum ≤ _; omega)
  · have : tb g W H k ≤ 576 * k := sm_le2 fun i => hE _ _
    omega
  · have h1 : ∀ a : Nat, sm N (fun b => if b = a then 0 else edgesTo g W a b (H * W)) ≤ 576 * N := fun a => sm_le2 fun b => by
      split
      · omega
      · exact hE _ _
    have : tc g W H N k ≤ 23040 * k := sm_le2 fun i => by have := h1 i; omega
    omega

theorem who_total {W H : Nat} {zs : List Int} (C : CutN W H zs) {g : Int × Int → Option Int} (hg : laidG W zs zs.length = g) {N : Nat} (hN : many zs = N) :
    tz zs N = W * H ∧ tb g W H N = 2 * (W + H) ∧ tc g W H N N = 2 * (edgesL g W H).count true ∧ ∀ a b : Nat, a < N → b < N → et g W H N N (b * 40 + a) = et g W H N N (a * 40 + b) := by
  have hN40 : N ≤ 40 := by rw [← hN]; exact C.many_le.2
  have hgN : ∀ p, atG g p < N := fun p => by rw [← hg, ← hN]; exact at_many2 C p
  have G := C.grid
  rw [hg] at G
  have hm := many_eq zs
  refine ⟨?_, edges_border G hgN, ?_, ?_⟩
  · rw [← C.len]
    exact cells_total fun v hv => ⟨(C.num v hv).1, by have := le_greatest2 hv; omega⟩
  · rw [← edges_pairs G hgN]
    exact pairs_twice (fun a b => edgesTo g W a b (H * W)) (fun a b => edges_sym G (by omega) (by omega)) N
  · intro a b ha hb
    have e1 : ∀ x y : Nat, x < N → y < N → et g W H N N (x * 40 + y) = if y = x then 0 else edgesTo g W x y (H * W) := fun x y hx hy => by
      unfold et
      have h1 : (x * 40 + y) / 40 = x := by omega
      have h2 : (x * 40 + y) % 40 = y := by omega
      rw [h1, h2, if_pos ⟨hx, hy⟩]
      by_cases e : y = x
      · rw [if_pos e, e]; exact faced_self g W H (x : Int)
      · rw [if_neg e, edgesTo_faced g W H (x : Int) (y : Int) (by omega)]
    rw [e1 b a hb ha, e1 a b ha hb]
    by_cases e : a = b
    · rw [if_pos e, if_pos e.symm]
    · rw [if_neg e, if_neg (Ne.symm e)]; exact edges_sym G (by omega) (by omega)
end Go.Proofs.Ytogalmkeipigeaa

/- CutWhole: a cut that is whole. -/
namespace Go.Proofs.Ytogalmkeipigeaa
open Go Go.RowKit Go.Shelf

set_option maxRecDepth 100000 in
set_option maxHeartbeats 16000000 in
theorem whole_yes {W H : Nat} {zs : List Int} (C : CutN W H zs) (ao : Option Addr) (cap : Nat) (w : World) (hs : IntsAt w ao zs) (hn : zs.length ≤ 288) (h : (checkR W H zs).2 = 0) :
    Calls Try.prog 6 #[cutV W H ao zs.length cap] w fun e w' => e = .returned (.bool true) ∧ Mod noB w w' := by
  have hd : decide (288 < (zs.length : Int)) = false := by simp; omega
  have HL : Hold (∀ w1, Calls Try.prog 12 #[cutV W H ao zs.length cap] w1 fun e w' => e = .returned (.bool false) ∧ Mod noB w1 w') := ⟨fun w1 => by rw [← hd]; exact large_any W H ao zs.length cap w1⟩
  have HB := Hold.mk (box_facts (W := W) (H := H) (cap := cap) hs)
  have HM0 := Hold.mk ((Mod.refl noB w).alloc (.cells #[.int .i64 W, .int .i64 H, .slice ao zs.length cap] 24))
  obtain ⟨g, hg⟩ : ∃ g, laidG W zs zs.length = g := ⟨_, rfl⟩
  obtain ⟨N, hN⟩ : ∃ N, many zs = N := ⟨_, rfl⟩
  have hN1 : 1 ≤ N := by rw [← hN]; exact C.many_le.1
  have hN40 : N ≤ 40 := by rw [← hN]; exact C.many_le.2
  have hb := (checkR_ok h).1
  have hW1 := C.w1
  have hW2 := C.w2
  have hH1 := C.h1
  have hH2 := C.h2
  have hck : checkR W H zs = ((N : Int), 0) := by rw [(checkR_ok h).2, hN]
  have HC : Hold (∀ w1, IntsAt w1 ao zs → Calls Try.prog 14 #[cutV W H ao zs.length cap] w1 fun e w' => e = .returned (.tuple #[.int .i64 (N : Int), .int .i64 0]) ∧ Mod noB w1 w') := ⟨fun w1 hi => by
    have := check_any W H ao zs cap w1 hi
    rw [hck] at this
    exact this⟩
  have HD : Hold (∀ w1, IntsAt w1 ao zs → Calls Try.prog 30 #[cutV W H ao zs.length cap] w1 fun e w' => e = .returned (.bool true) ∧ Mod noB w1 w') := ⟨fun w1 hi => by
    have := refCut_any W H ao zs cap w1 hi
    rw [hb] at this
    exact this⟩
  obtain ⟨T1, T2, T3, T4⟩ := who_total C hg hN
  obtain ⟨len, hlen⟩ : ∃ n, (edgesL g W H).count true = n := ⟨_, rfl⟩
  rw [hlen] at T3
  have hlen2 : len ≤ 1000000 := by
    have h1 : tc g W H N N ≤ 23040 * N := sm_le2 fun a => Nat.le_trans (sm_le2 (k := 576) (fun b => by
      have HHW : H * W ≤ 144 := Nat.le_trans (Nat.mul_le_mul hH2 hW2) (by decide)
      split
      · omega
      · exact Nat.le_trans (edgesTo_le _ _ _ _ _) (by omega))) (by omega)
    omega
  obtain ⟨l2, l3, l4, HLN⟩ : ∃ l2 l3 l4 : Int, Hold (∀ w1, IntsAt w1 ao zs → Calls Try.prog 22 #[cutV W H ao zs.length cap] w1 fun e w' => e = .returned (.tuple #[linesV ((len : Nat), l2, l3, l4), .int .i64 0]) ∧ Mod noB w1 w') := by
    refine ⟨(((pointsL g W H).count 1 : Nat) : Int), (((pointsL g W H).count 2 : Nat) : Int), (((pointsL g W H).count 3 : Nat) : Int), ⟨fun w1 hi => ?_⟩⟩
    have := lines_yes C ao cap w1 hi h
    have hR : linesR W H zs = (((((edgesL g W H).count true : Nat) : Int), (((pointsL g W H).count 1 : Nat) : Int), (((pointsL g W H).count 2 : Nat) : Int), (((pointsL g W H).count 3 : Nat) : Int)), 0) := by
      unfold linesR; rw [if_neg (fun h' => h' h), ← hg]; rfl
    rw [hR, hlen] at this
    exact this
  have HS := Hold.mk (who_step C hg hN)
  have HK := Hold.mk (who_link C h hg hN)
  have H31 : Hold (∀ (k : Nat) (W' : World), k < N → IntsAt W' ao zs → Calls Try.prog 31 #[cutV W H ao zs.length cap, .int .i64 k] W' fun e w' => e = .returned (.int .i64 (zs.count (k : Int) : Nat)) ∧ Mod noB W' w') :=
    ⟨fun k W' _ hi => refCells_any W H ao zs cap k W' hi⟩
  have H16' : ∀ (eb k : Nat) (W' : World), k < N → IntsAt W' ao zs → eb < W'.heap.size → Calls Try.prog 16 #[cutV W H ao zs.length cap, .int .i64 k] W' fun e w' => ∃ so scap, e = .returned (.tuple #[.slice so (sdL g W H N k).length scap, .int .i64 0]) ∧ SideRow eb (sdL g W H N k).length so (pAt (sdL g W H N k)) (mAt (sdL g W H N k)) w' ∧ Mod noB W' w' := fun eb k W' hk hi he => by
    refine (sides_yes C ao cap k W' hi h (by omega) (by omega)).mono ?_
    rintro e w' ⟨v, rfl, ho, hm⟩
    have e0 : sidesR W H zs (k : Int) = sdL g W H N k := by unfold sidesR sdL; rw [hg, hN]
    rw [e0] at ho
    obtain ⟨so, scap, rfl, hr⟩ := sideRow_of (n := 0) (fun p hp => by
      obtain ⟨i, hi⟩ := List.getElem?_of_mem hp
      have := (sides_at hi).2.2.1
      omega) ho eb he
    exact ⟨so, scap, rfl, hr, hm⟩
  have H16 := Hold.mk H16'
  have HY := Hold.mk T4
  have HT : Hold (((tz zs N : Nat) : Int) = (W : Int) * (H : Int) ∧ ((tb g W H N : Nat) : Int) = 2 * ((W : Int) + (H : Int)) ∧ ((tc g W H N N : Nat) : Int) = 2 * (len : Int)) := ⟨by rw [T1]; simp, by rw [T2]; simp, by rw [T3]; simp⟩
  have HET0 : Hold (et g W H N 0 = fun _ => 0) := ⟨by funext i; unfold et; rw [if_neg (by omega)]⟩
  have hwh : IntKind.i64.wrap ((W : Int) * (H : Int)) = (W : Int) * (H : Int) := by
    have h1 : W * H ≤ 144 := Nat.le_trans (Nat.mul_le_mul hW2 hH2) (by decide)
    have h2 : ((W * H : Nat) : Int) = (W : Int) * (H : Int) := by simp
    refine IntWalk.i64_in _ ?_
    omega
  clear h hb hd hck T1 T2 T3 T4 hlen hg hN C H16' hs
  have q1 : ¬ ((N : Int) < 1) := by omega
  have q2 : ¬ ((40 : Int) < (N : Int)) := by omega
  go_enter Try.func6, Try.ntmps6
  go_upto_region 9 with (first
    | (go_at_call 12; refine (HL.out _).mono ?_; rintro e w1 ⟨rfl, hM⟩; obtain ⟨c0, c1, c2, hI⟩ := HB.out _ hM; have HW1 := Hold.mk (And.intro hM hI); clear hM hI HL)
    | (go_at_call 14; refine (HC.out w1 HW1.out.2).mono ?_; rintro e w2 ⟨rfl, hM⟩; clear c0 c1 c2; obtain ⟨c0, c1, c2, hI⟩ := HB.out _ (HW1.out.1.trans hM); have HW2 := Hold.mk (And.intro (HW1.out.1.trans hM) hI); clear hM hI HC)
    | (go_at_call 30; refine (HD.out w2 HW2.out.2).mono ?_; rintro e w3 ⟨rfl, hM⟩; clear c0 c1 c2; obtain ⟨c0, c1, c2, hI⟩ := HB.out _ (HW2.out.1.trans hM); have HW3 := Hold.mk (And.intro (HW2.out.1.trans hM) hI); clear hM hI HD))
  refine region_alloc51 ?_
  simp only [Act.put, List.setIfInBounds_toArray, List.set_cons_succ, List.set_cons_zero]
  obtain ⟨w4, hw4⟩ : ∃ w4, w3.alloc (.cells (fcells 1600 fun _ => .int .i64 0) 51) = w4 := ⟨_, rfl⟩
  have HE4 : Hold (SqAt w3.heap.size (et g W H N 0) w4) := ⟨by rw [HET0.out, ← hw4]; exact World.alloc_heap_new _ _⟩
  have HM4 : Hold (Mod noB (w.alloc (.cells #[.int .i64 W, .int .i64 H, .slice ao zs.length cap] 24)) w4) := ⟨by rw [← hw4]; exact HW3.out.1.alloc _⟩
  have HLT : Hold ((w.alloc (.cells #[.int .i64 W, .int .i64 H, .slice ao zs.length cap] 24)).heap.size ≤ w3.heap.size) := ⟨HW3.out.1.size⟩
  have HF : Hold (∀ W', Mod (fun k => k = w3.heap.size) w4 W' → Mod noB (w.alloc (.cells #[.int .i64 W, .int .i64 H, .slice ao zs.length cap] 24)) W') := ⟨fun W' hm => HM4.out.then hm (fun i h1 h2 => by have := HLT.out; omega)⟩
  have HFB : Hold (∀ W', Mod (fun k => k = w3.heap.size) w4 W' → W'.heap[w.heap.size]? = some (.cells #[.int .i64 W, .int .i64 H, .slice ao zs.length cap] 24) ∧ IntsAt W' ao zs) := ⟨fun W' hm => ⟨(HF.out W' hm).at (World.alloc_heap_new w _) id, (HB.out _ (HF.out W' hm)).2.2.2⟩⟩
  rw [hw4]
  clear hw4 c0 c1 c2
  go_upto_block 0 with fail
  refine wp_mono (who_pieces W H ao zs cap N w3.heap.size w.heap.size w4 (fun k => (sdL g W H N k).length) (fun k => zs.count (k : Int)) (tz zs) (tb g W H) (tc g W H N) (fun k => pAt (sdL g W H N k)) (fun k => mAt (sdL g W H N k)) (fun k => partS (sdL g W H N k) fA) (fun k j => tb g W H k + partS (sdL g W H N k) fB j) (fun k j => tc g W H N k + partS (sdL g W H N k) fC j) (fun k => lastAt (sdL g W H N k)) (fun k => efS k (sdL g W H N k) (et g W H N k)) (et g W H N) hN40 _ _ _ rfl rfl rfl HFB H31 ⟨H16.out w3.heap.size⟩ ⟨HS.out⟩ ⟨HK.out⟩ HE4) (then_only ?_)
  rintro a' w5 ⟨v, rfl, ho, hm⟩
  have HR5 := Hold.mk (And.intro ho hm)
  clear ho hm
  go_upto_block 4 with fail
  refine wp_mono (who_square N w3.heap.size (et g W H N N) w5 hN40 HY ⟨HR5.out.1⟩) (then_only ?_)
  rintro a' w6 ⟨v2, rfl, hm6⟩
  have HR6 := Hold.mk (HF.out _ (HR5.out.2.thenB hm6))
  clear hm6
  obtain ⟨c0, c1, c2, hI⟩ := HB.out _ HR6.out
  have HI6 := Hold.mk hI
  clear hI
  rw [HT.out.1, HT.out.2.1, HT.out.2.2]
  go_wp2_with (first
    | (go_at_call 22; refine (HLN.out w6 HI6.out).mono ?_; rintro e w7 ⟨rfl, hM⟩; clear c0 c1 c2; have HW7 := Hold.mk (HR6.out.trans hM); obtain ⟨c0, c1, c2, hI⟩ := HB.out _ (HW7.out.alloc (.cells #[.int .i64 (len : Nat), .int .i64 l2, .int .i64 l3, .int .i64 l4] 39)); clear hM hI)
    | (go_at_call 13; refine (awake_any _).mono ?_; rintro e w8 ⟨rfl, hM⟩; have HW8 := Hold.mk hM; clear hM))
  go_ret
  exact ⟨rfl, HM0.out.trans ((HW7.out.alloc _).trans HW8.out)⟩
end Go.Proofs.Ytogalmkeipigeaa

/- Several texts in one (a claim holds at most 60 files): each has its own words ahead of it. -/
import Derived.Test.YtogalmkeipigeaaRefY
import Derived.Test.YtogalmkeipigeaaLines
set_option linter.unusedSimpArgs false
set_option linter.unusedVariables false

/- Counting: the edges of the lines, each counted once, are those that pieces have in common, each pair of pieces counted once. -/
namespace Go.Proofs.Ytogalmkeipigeaa
open Go.RowKit

def sm (n : Nat) (f : Nat → Nat) : Nat := ((List.range n).map f).sum
theorem sm_zero (f : Nat → Nat) : sm 0 f = 0 := rfl
theorem sm_succ (n : Nat) (f : Nat → Nat) : sm (n + 1) f = sm n f + f n := by
  unfold sm; rw [List.range_succ, List.map_append, List.sum_append]; simp
theorem sm_congr {n : Nat} {f g : Nat → Nat} (h : ∀ i, i < n → f i = g i) : sm n f = sm n g := by
  induction n with
  | zero => rfl
  | succ n ih => rw [sm_succ, sm_succ, ih fun i hi => h i (by omega), h n (by omega)]
theorem sm_add (n : Nat) (f g : Nat → Nat) : sm n (fun i => f i + g i) = sm n f + sm n g := by
  induction n with
  | zero => rfl
  | succ n ih => simp only [sm_succ, ih]; omega
theorem sm_none {n : Nat} {f : Nat → Nat} (h : ∀ i, i < n → f i = 0) : sm n f = 0 := by
  induction n with
  | zero => rfl
  | succ n ih => rw [sm_succ, ih fun i hi => h i (by omega), h n (by omega)]
theorem sm_split (n m : Nat) (f : Nat → Nat) : sm (n + m) f = sm n f + sm m (fun i => f (n + i)) := by
  induction m with
  | zero => rfl
  | succ m ih => rw [← Nat.add_assoc, sm_succ, sm_succ, ih]; omega
theorem sm_first (n : Nat) (f : Nat → Nat) : sm (n + 1) f = f 0 + sm n (fun i => f (i + 1)) := by
  rw [Nat.add_comm n 1, sm_split, sm_succ, sm_zero, Nat.zero_add]
  congr 1
  exact sm_congr fun i _ => by rw [Nat.add_comm 1 i]
theorem sm_swap (n m : Nat) (f : Nat → Nat → Nat) : sm n (fun i => sm m (fun j => f i j)) = sm m (fun j => sm n (fun i => f i j)) := by
  induction n with
  | zero => rw [sm_zero]; exact (sm_none fun i _ => rfl).symm
  | succ n ih => rw [sm_succ, ih, ← sm_add]; exact sm_congr fun j _ => (sm_succ n _).symm
theorem sm_grid (W H : Nat) (f : Nat → Nat → Nat) : sm (H * W) (fun m => f (m % W) (m / W)) = sm H (fun y => sm W (fun x => f x y)) := by
  induction H with
  | zero => rw [Nat.zero_mul]; rfl
  | succ H ih =>
    rw [Nat.succ_mul, sm_split, ih, sm_succ]
    congr 1
    refine sm_congr fun i hi => ?_
    rw [show H * W + i = i + W * H by rw [Nat.mul_comm H W, Nat.add_comm], Nat.add_mul_mod_self_left, Nat.add_mul_div_left _ _ (by omega), Nat.mod_eq_of_lt hi, Nat.div_eq_of_lt hi, Nat.zero_add]
def bn (p : Prop) [Decidable p] : Nat := if p then 1 else 0
theorem count_range {α : Type} [BEq α] [LawfulBEq α] [DecidableEq α] (n : Nat) (f : Nat → α) (v : α) : ((List.range n).map f).count v = sm n (fun i => bn (f i = v)) := by
  induction n with
  | zero => rfl
  | succ n ih =>
    rw [List.range_succ, List.map_append, List.count_append, ih, sm_succ]
    congr 1
    unfold bn
    by_cases h : f n = v
    · simp [h]
    · simp [h]
theorem count_flat (n : Nat) (c : Nat → Int × Int) (F : Int × Int → List Bool) : (((List.range n).map c).flatMap F).count true = sm n (fun i => (F (c i)).count true) := by
  induction n with
  | zero => rfl
  | succ n ih => rw [List.range_succ, List.map_append, List.flatMap_append, List.count_append, ih, sm_succ]; simp
/-- In a row of numbers whose ends are beside none: the lesser ones beside each are as many as the places where two differ. -/
theorem sm_row (a : Int → Int) (n : Nat) (h : ∀ i : Nat, i < n → 0 ≤ a i) (h0 : a (-1) = -1) (h1 : a n = -1) :
    sm n (fun x => bn (0 ≤ a ((x : Int) - 1) ∧ a ((x : Int) - 1) < a x) + bn (0 ≤ a ((x : Int) + 1) ∧ a ((x : Int) + 1) < a x)) = sm n (fun x => bn (a x ≠ a ((x : Int) + 1) ∧ a x ≠ -1 ∧ a ((x : Int) + 1) ≠ -1)) := by
  cases n with
  | zero => rfl
  | succ n =>
    rw [sm_add, sm_first n (fun x => bn (0 ≤ a ((x : Int) - 1) ∧ a ((x : Int) - 1) < a x)), sm_succ, sm_succ n (fun x => bn (a x ≠ a ((x : Int) + 1) ∧ a x ≠ -1 ∧ a ((x : Int) + 1) ≠ -1))]
    have e0 : bn (0 ≤ a (((0 : Nat) : Int) - 1) ∧ a (((0 : Nat) : Int) - 1) < a ((0 : Nat) : Int)) = 0 := by
      unfold bn; rw [if_neg]; rintro ⟨h2, _⟩; rw [show ((0 : Nat) : Int) - 1 = -1 by omega, h0] at h2; omega
    have en : ((n : Nat) : Int) + 1 = ((n + 1 : Nat) : Int) := by omega
    have e1 : bn (0 ≤ a ((n : Int) + 1) ∧ a ((n : Int) + 1) < a n) = 0 := by
      unfold bn; rw [if_neg]; rintro ⟨h2, _⟩; rw [en, h1] at h2; omega
    have e2 : bn (a n ≠ a ((n : Int) + 1) ∧ a n ≠ -1 ∧ a ((n : Int) + 1) ≠ -1) = 0 := by
      unfold bn; rw [if_neg]; rintro ⟨_, _, h2⟩; rw [en, h1] at h2; exact h2 rfl
    rw [e0, e1, e2, Nat.zero_add, Nat.add_zero, Nat.add_zero, ← sm_add]
    refine sm_congr fun x hx => ?_
    have p := h x (by omega)
    have q := h (x + 1) (by omega)
    have ex : ((x + 1 : Nat) : Int) = (x : Int) + 1 := by omega
    rw [ex] at q ⊢
    rw [show (x : Int) + 1 - 1 = (x : Int) by omega]
    generalize a (x : Int) = u at *
    generalize a ((x : Int) + 1) = v at *
    unfold bn
    by_cases c1 : u < v
    · rw [if_pos ⟨p, c1⟩, if_neg (by omega), if_pos (by omega)]
    · by_cases c2 : v < u
      · rw [if_neg (by omega), if_pos ⟨q, c2⟩, if_pos (by omega)]
      · rw [if_neg (by omega), if_neg (by omega), if_neg (by omega)]

section
variable {g : Int × Int → Option Int} {W H : Nat}
theorem bn_apart (g : Int × Int → Option Int) (p q : Int × Int) : bn (apartB g p q = true) = bn (atG g p ≠ atG g q ∧ atG g p ≠ -1 ∧ atG g q ≠ -1) := by
  unfold apartB bn
  congr 1
  simp [and_assoc]
theorem edges_count (G : Grid g W H) : (edgesL g W H).count true = sm H (fun y => sm W (fun x => bn (apartB g ((x : Int), (y : Int)) ((x : Int) + 1, (y : Int)) = true) + bn (apartB g ((x : Int), (y : Int)) ((x : Int), (y : Int) + 1) = true))) := by
  have e : ∀ x y : Int, (edgesAt g (x, y)).count true = bn (apartB g (x, y) (x + 1, y) = true) + bn (apartB g (x, y) (x, y + 1) = true) := fun x y => by
    have e1 : ((besideL (x, y)).filter fun d => !otherB (x, y) d) = [(x + 1, y), (x, y + 1)] := by
      simp only [besideL, List.filter_cons, List.filter_nil, otherB]
      have a1 : decide (y - 1 < y) = true := decide_eq_true (by omega)
      have a2 : decide (x + 1 < x) = false := decide_eq_false (by omega)
      have a3 : decide (y + 1 < y) = false := decide_eq_false (by omega)
      have a4 : decide (x - 1 < x) = true := decide_eq_true (by omega)
      have a5 : decide (x < x) = false := decide_eq_false (by omega)
      have a6 : decide (y < y) = false := decide_eq_false (by omega)
      simp [a1, a2, a3, a4, a5, a6]
    unfold edgesAt
    rw [e1]
    simp only [List.map_cons, List.map_nil, List.count_cons, List.count_nil, bn, beq_iff_eq]
    omega
  have hc : cellsL 0 0 W H = (List.range (H * W)).map fun m => (((m % W : Nat) : Int), ((m / W : Nat) : Int)) := by simp [cellsL]
  unfold edgesL
  rw [hc, count_flat]
  simp only [e]
  exact sm_grid W H (fun x y => bn (apartB g ((x : Int), (y : Int)) ((x : Int) + 1, (y : Int)) = true) + bn (apartB g ((x : Int), (y : Int)) ((x : Int), (y : Int) + 1) = true))
/-- How many cells around one have a lesser number. -/
def lessAt (g : Int × Int → Option Int) (x y : Int) : Nat :=
  (bn (0 ≤ atG g (x - 1, y) ∧ atG g (x - 1, y) < atG g (x, y)) + bn (0 ≤ atG g (x + 1, y) ∧ atG g (x + 1, y) < atG g (x, y))) +
  (bn (0 ≤ atG g (x, y - 1) ∧ atG g (x, y - 1) < atG g (x, y)) + bn (0 ≤ atG g (x, y + 1) ∧ atG g (x, y + 1) < atG g (x, y)))
theorem less_edges (G : Grid g W H) : sm H (fun y => sm W (fun x => lessAt g x y)) = (edgesL g W H).count true := by
  rw [edges_count G]
  have inn : ∀ x y : Nat, x < W → y < H → 0 ≤ atG g ((x : Int), (y : Int)) := fun x y hx hy => (G.at_in ⟨by simp only; omega, by simp only; omega, by simp only; omega, by simp only; omega⟩).1
  have o1 : ∀ y : Int, atG g (-1, y) = -1 := fun y => G.at_out (out_x (by omega))
  have o2 : ∀ y : Int, atG g ((W : Int), y) = -1 := fun y => G.at_out (out_x (by omega))
  have o3 : ∀ x : Int, atG g (x, -1) = -1 := fun y => G.at_out (out_y (by omega))
  have o4 : ∀ x : Int, atG g (x, (H : Int)) = -1 := fun y => G.at_out (out_y (by omega))
  have s1 : sm H (fun y => sm W (fun x => bn (0 ≤ atG g ((x : Int) - 1, (y : Int)) ∧ atG g ((x : Int) - 1, (y : Int)) < atG g ((x : Int), (y : Int))) + bn (0 ≤ atG g ((x : Int) + 1, (y : Int)) ∧ atG g ((x : Int) + 1, (y : Int)) < atG g ((x : Int), (y : Int))))) = sm H (fun y => sm W (fun x => bn (apartB g ((x : Int), (y : Int)) ((x : Int) + 1, (y : Int)) = true))) :=
    sm_congr fun y hy => by
      rw [sm_row (fun i => atG g (i, (y : Int))) W (fun i hi => inn i y hi hy) (o1 _) (o2 _)]
      exact sm_congr fun x _ => (bn_apart g _ _).symm
  have s2 : sm H (fun y => sm W (fun x => bn (0 ≤ atG g ((x : Int), (y : Int) - 1) ∧ atG g ((x : Int), (y : Int) - 1) < atG g ((x : Int), (y : Int))) + bn (0 ≤ atG g ((x : Int), (y : Int) + 1) ∧ atG g ((x : Int), (y : Int) + 1) < atG g ((x : Int), (y : Int))))) = sm H (fun y => sm W (fun x => bn (apartB g ((x : Int), (y : Int)) ((x : Int), (y : Int) + 1) = true))) := by
    rw [sm_swap, sm_swap H W (fun y x => bn (apartB g ((x : Int), (y : Int)) ((x : Int), (y : Int) + 1) = true))]
    exact sm_congr fun x hx => by
      rw [sm_row (fun j => atG g ((x : Int), j)) H (fun j hj => inn x j hx hj) (o3 _) (o4 _)]
      exact sm_congr fun y _ => (bn_apart g _ _).symm
  have add2 : ∀ (A B : Nat → Nat → Nat), sm H (fun y => sm W (fun x => A x y + B x y)) = sm H (fun y => sm W (fun x => A x y)) + sm H (fun y => sm W (fun x => B x y)) := fun A B => by
    rw [← sm_add]; exact sm_congr fun y _ => sm_add _ _ _
  unfold lessAt
  rw [add2 (fun x y => bn (0 ≤ atG g ((x : Int) - 1, (y : Int)) ∧ atG g ((x : Int) - 1, (y : Int)) < atG g ((x : Int), (y : Int))) + bn (0 ≤ atG g ((x : Int) + 1, (y : Int)) ∧ atG g ((x : Int) + 1, (y : Int)) < atG g ((x : Int), (y : Int)))) (fun x y => bn (0 ≤ atG g ((x : Int), (y : Int) - 1) ∧ atG g ((x : Int), (y : Int) - 1) < atG g ((x : Int), (y : Int))) + bn (0 ≤ atG g ((x : Int), (y : Int) + 1) ∧ atG g ((x : Int), (y : Int) + 1) < atG g ((x : Int), (y : Int)))), s1, s2]
  exact (add2 _ _).symm
theorem less_sum (l : List Int) (A : Nat) : sm A (fun b => l.count (b : Int)) = l.countP (fun v => decide (0 ≤ v ∧ v < (A : Int))) := by
  induction A with
  | zero =>
    rw [sm_zero, eq_comm, List.countP_eq_zero]
    intro v _
    simp only [decide_eq_true_eq]; omega
  | succ A ih =>
    rw [sm_succ, ih]
    clear ih
    induction l with
    | nil => rfl
    | cons v l ih =>
      simp only [List.countP_cons, List.count_cons, beq_iff_eq, decide_eq_true_eq]
      by_cases h1 : v = (A : Int)
      · subst h1
        rw [if_neg (by omega), if_pos rfl, if_pos (by omega)]; omega
      · rw [if_neg h1]
        by_cases h2 : 0 ≤ v ∧ v < (A : Int)
        · rw [if_pos h2, if_pos (by omega)]; omega
        · rw [if_neg h2, if_neg (by omega)]; omega
theorem sm_one (n A s : Nat) (h : A < n) (f : Nat → Nat) (hf : ∀ i, i < n → i ≠ A → f i = 0) (hA : f A = s) : sm n f = s := by
  induction n with
  | zero => omega
  | succ n ih =>
    rw [sm_succ]
    by_cases e : A = n
    · subst e; rw [sm_none fun i hi => hf i (by omega) (by omega), hA, Nat.zero_add]
    · rw [ih (by omega) (fun i hi hn => hf i (by omega) hn), hf n (by omega) (by omega), Nat.add_zero]
theorem pair_less {N : Nat} {x y : Int} (h0 : 0 ≤ atG g (x, y)) (hN : atG g (x, y) < N) : sm N (fun a => sm a (fun b => eAt g a b (x, y))) = lessAt g x y := by
  obtain ⟨A, hA⟩ : ∃ A : Nat, atG g (x, y) = A := ⟨(atG g (x, y)).toNat, by omega⟩
  refine sm_one N A _ (by omega) _ (fun i _ hi => sm_none fun b _ => eAt_no (by omega)) ?_
  have e : ∀ b : Nat, eAt g A b (x, y) = (aroundL g x y).count (b : Int) := fun b => eAt_yes hA
  simp only [e]
  rw [less_sum]
  unfold lessAt aroundL bn
  rw [hA]
  simp only [List.countP_cons, List.countP_nil, decide_eq_true_eq]
  omega
/-- The edges between pieces, each pair counted once, are the edges of the lines. -/
theorem edges_pairs (G : Grid g W H) {N : Nat} (hN : ∀ p, atG g p < N) : sm N (fun a => sm a (fun b => edgesTo g W a b (H * W))) = (edgesL g W H).count true := by
  have e1 : ∀ a b : Int, edgesTo g W a b (H * W) = sm H (fun y => sm W (fun x => eAt g a b ((x : Int), (y : Int)))) := fun a b =>
    sm_grid W H (fun x y => eAt g a b ((x : Int), (y : Int)))
  simp only [e1]
  rw [← less_edges G]
  have e2 : sm N (fun a => sm a (fun b => sm H (fun y => sm W (fun x => eAt g a b ((x : Int), (y : Int)))))) = sm N (fun a => sm H (fun y => sm W (fun x => sm a (fun b => eAt g a b ((x : Int), (y : Int)))))) :=
    sm_congr fun a _ => by rw [sm_swap]; exact sm_congr fun y _ => sm_swap _ _ _
  rw [e2, sm_swap]
  refine sm_congr fun y hy => ?_
  rw [sm_swap]
  refine sm_congr fun x hx => ?_
  exact pair_less (G.at_in ⟨by simp only; omega, by simp only; omega, by simp only; omega, by simp only; omega⟩).1 (hN _)
end
end Go.Proofs.Ytogalmkeipigeaa

/- Counting the points: what the document counts within the picture, and along the border. -/
namespace Go.Proofs.Ytogalmkeipigeaa
open Go.RowKit

section
variable {g : Int × Int → Option Int} {W H : Nat}
/-- How many of the first m points are v. -/
def ptsN (g : Int × Int → Option Int) (W : Nat) (v : Int) (m : Nat) : Nat := sm m (fun i => bn (pointR g ((i % (W + 1) : Nat) : Int) ((i / (W + 1) : Nat) : Int) = v))
theorem points_count (g : Int × Int → Option Int) (W H : Nat) (v : Int) : (pointsL g W H).count v = ptsN g W v ((H + 1) * (W + 1)) := count_range _ _ _
theorem ptsN_step (v : Int) {x y : Nat} (hx : x ≤ W) : ptsN g W v (y * (W + 1) + (x + 1)) = ptsN g W v (y * (W + 1) + x) + bn (pointR g (x : Int) (y : Int) = v) := by
  unfold ptsN
  rw [← Nat.add_assoc, sm_succ]
  have h1 : (y * (W + 1) + x) % (W + 1) = x := by rw [Nat.mul_comm, Nat.mul_add_mod]; exact Nat.mod_eq_of_lt (by omega)
  have h2 : (y * (W + 1) + x) / (W + 1) = y := by rw [Nat.mul_comm, Nat.mul_add_div (by omega), Nat.div_eq_of_lt (by omega)]; omega
  rw [h1, h2]
theorem pointR_border (G : Grid g W H) {x y : Nat} (hx : x ≤ W) (hy : y ≤ H) (h : x = 0 ∨ x = W ∨ y = 0 ∨ y = H) : pointR g (x : Int) (y : Int) = 0 ∨ pointR g (x : Int) (y : Int) = 3 := by
  have sp : ∀ b : Bool, (if b then (3 : Int) else 0) = 0 ∨ (if b then (3 : Int) else 0) = 3 := fun b => by cases b <;> simp
  by_cases cx : x = 0 ∨ x = W
  · by_cases cy : y = 0 ∨ y = H
    · exact .inl (pointR_corner G (by omega) (by omega))
    · rcases cx with rfl | rfl
      · have := pointR_left G (y := (y : Int)) (by omega) (by omega)
        rw [show ((0 : Nat) : Int) = 0 from rfl, this]; exact sp _
      · rw [pointR_right G (by omega) (by omega)]; exact sp _
  · have cy : y = 0 ∨ y = H := by omega
    rcases cy with rfl | rfl
    · have := pointR_top G (x := (x : Int)) (by omega) (by omega)
      rw [show ((0 : Nat) : Int) = 0 from rfl, this]; exact sp _
    · rw [pointR_bottom G (by omega) (by omega)]; exact sp _
theorem ptsN_first (G : Grid g W H) {v : Int} (hv : v = 1 ∨ v = 2) : ∀ m, m ≤ W + 1 → ptsN g W v m = 0 := by
  intro m
  induction m with
  | zero => intro _; rfl
  | succ m ih =>
    intro hm
    have := ptsN_step (g := g) (W := W) v (x := m) (y := 0) (by omega)
    rw [Nat.zero_mul, Nat.zero_add, Nat.zero_add] at this
    rw [this, ih (by omega)]
    have hb := pointR_border G (x := m) (y := 0) (by omega) (Nat.zero_le _) (by omega)
    unfold bn
    rw [if_neg (by omega)]
theorem ptsN_start (G : Grid g W H) {v : Int} (hv : v = 1 ∨ v = 2) : ptsN g W v (1 * (W + 1) + 1) = 0 := by
  rw [ptsN_step v (x := 0) (y := 1) (by omega), Nat.add_zero, Nat.one_mul, ptsN_first G hv _ (Nat.le_refl _)]
  have hb := pointR_border G (x := 0) (y := 1) (by omega) G.h1 (.inl rfl)
  unfold bn
  rw [if_neg (by omega)]
theorem ptsN_row (G : Grid g W H) {v : Int} (hv : v = 1 ∨ v = 2) {y : Nat} (hy : y < H) : ptsN g W v ((y + 1) * (W + 1) + 1) = ptsN g W v (y * (W + 1) + W) := by
  rw [ptsN_step v (x := 0) (y := y + 1) (by omega), Nat.add_zero, show (y + 1) * (W + 1) = y * (W + 1) + (W + 1) by rw [Nat.succ_mul], ptsN_step v (x := W) (y := y) (by omega)]
  have h1 := pointR_border G (x := W) (y := y) (by omega) (by omega) (.inr (.inl rfl))
  have h2 := pointR_border G (x := 0) (y := y + 1) (by omega) (by omega) (.inl rfl)
  unfold bn
  rw [if_neg (by omega), if_neg (by omega)]
  omega
theorem ptsN_end (G : Grid g W H) {v : Int} (hv : v = 1 ∨ v = 2) : ∀ k, 1 ≤ k → k ≤ W + 1 → ptsN g W v (H * (W + 1) + k) = ptsN g W v (H * (W + 1) + 1) := by
  intro k
  induction k with
  | zero => intro h; omega
  | succ k ih =>
    intro _ hk
    by_cases h : k = 0
    · subst h; rfl
    · rw [ptsN_step v (x := k) (y := H) (by omega), ih (by omega) (by omega)]
      have h1 := pointR_border G (x := k) (y := H) (by omega) (by omega) (.inr (.inr (.inr rfl)))
      unfold bn
      rw [if_neg (by omega)]
      rfl
theorem points_in (G : Grid g W H) {v : Int} (hv : v = 1 ∨ v = 2) : (pointsL g W H).count v = ptsN g W v (H * (W + 1) + 1) := by
  rw [points_count, show (H + 1) * (W + 1) = H * (W + 1) + (W + 1) by rw [Nat.succ_mul]]
  exact ptsN_end G hv (W + 1) (by omega) (Nat.le_refl _)
theorem ptsN_le (v : Int) (m : Nat) : ptsN g W v m ≤ m := by
  unfold ptsN
  induction m with
  | zero => exact Nat.le_refl _
  | succ m ih => rw [sm_succ]; have : bn (pointR g ((m % (W + 1) : Nat) : Int) ((m / (W + 1) : Nat) : Int) = v) ≤ 1 := by unfold bn; split <;> omega
                 omega
/-- The starts: the points of the border where two pieces meet. -/
def topN (g : Int × Int → Option Int) (H : Nat) (x : Nat) : Nat := bn (atG g ((x : Int) - 1, 0) ≠ atG g ((x : Int), 0)) + bn (atG g ((x : Int) - 1, (H : Int) - 1) ≠ atG g ((x : Int), (H : Int) - 1))
def sideN (g : Int × Int → Option Int) (W : Nat) (y : Nat) : Nat := bn (atG g (0, (y : Int) - 1) ≠ atG g (0, (y : Int))) + bn (atG g ((W : Int) - 1, (y : Int) - 1) ≠ atG g ((W : Int) - 1, (y : Int)))
theorem bn_three (a b : Int) : bn ((if (a != b) then (3 : Int) else 0) = 3) = bn (a ≠ b) := by
  unfold bn
  by_cases h : a = b
  · simp [h]
  · simp [h]
theorem starts_count (G : Grid g W H) : (pointsL g W H).count 3 = sm (W - 1) (fun i => topN g H (i + 1)) + sm (H - 1) (fun j => sideN g W (j + 1)) := by
  obtain ⟨W', rfl⟩ : ∃ n, W = n + 1 := ⟨W - 1, by have := G.w1; omega⟩
  obtain ⟨H', rfl⟩ : ∃ n, H = n + 1 := ⟨H - 1, by have := G.h1; omega⟩
  rw [points_count]
  have e := sm_grid (W' + 1 + 1) (H' + 1 + 1) (fun x y => bn (pointR g (x : Int) (y : Int) = 3))
  unfold ptsN
  rw [e]
  clear e
  have none0 : ∀ v : Int, v = 0 → bn (v = 3) = 0 := fun v h => by unfold bn; rw [if_neg (by omega)]
  have edge : ∀ y : Nat, (y = 0 ∨ y = H' + 1) → sm (W' + 1 + 1) (fun x => bn (pointR g (x : Int) (y : Int) = 3)) = sm W' (fun i => bn (pointR g ((i + 1 : Nat) : Int) (y : Int) = 3)) := fun y hy => by
    rw [sm_first, sm_succ, none0 _ (pointR_corner G (x := ((0 : Nat) : Int)) (y := (y : Int)) (.inl rfl) (by omega)), none0 _ (pointR_corner G (x := ((W' + 1 : Nat) : Int)) (y := (y : Int)) (.inr rfl) (by omega)), Nat.zero_add, Nat.add_zero]
  rw [sm_first (H' + 1) (fun y => sm (W' + 1 + 1) (fun x => bn (pointR g (x : Int) (y : Int) = 3))), sm_succ H' (fun i => sm (W' + 1 + 1) (fun x => bn (pointR g (x : Int) ((i + 1 : Nat) : Int) = 3))), edge 0 (.inl rfl), edge (H' + 1) (.inr rfl)]
  have top : sm W' (fun i => bn (pointR g ((i + 1 : Nat) : Int) ((0 : Nat) : Int) = 3)) + sm W' (fun i => bn (pointR g ((i + 1 : Nat) : Int) ((H' + 1 : Nat) : Int) = 3)) = sm (W' + 1 - 1) (fun i => topN g (H' + 1) (i + 1)) := by
    rw [← sm_add]
    refine sm_congr fun i hi => ?_
    have t := pointR_top G (x := ((i + 1 : Nat) : Int)) (by omega) (by omega)
    have b := pointR_bottom G (x := ((i + 1 : Nat) : Int)) (by omega) (by omega)
    rw [show ((0 : Nat) : Int) = 0 from rfl, t, b, bn_three, bn_three]
    rfl
  have mid : sm H' (fun j => sm (W' + 1 + 1) (fun x => bn (pointR g (x : Int) ((j + 1 : Nat) : Int) = 3))) = sm (H' + 1 - 1) (fun j => sideN g (W' + 1) (j + 1)) := by
    refine sm_congr fun j hj => ?_
    rw [sm_first, sm_succ]
    have l := pointR_left G (y := ((j + 1 : Nat) : Int)) (by omega) (by omega)
    have r := pointR_right G (y := ((j + 1 : Nat) : Int)) (by omega) (by omega)
    rw [show ((0 : Nat) : Int) = 0 from rfl, l, r, bn_three, bn_three, sm_none, Nat.zero_add]
    · rfl
    · intro i hi
      rw [pointR_in G (by omega) (by omega) (by omega) (by omega)]
      unfold bn
      rw [if_neg]
      split
      · decide
      · split <;> decide
  rw [mid]
  omega
theorem topN_le (g : Int × Int → Option Int) (H x : Nat) : topN g H x ≤ 2 := by unfold topN bn; split <;> split <;> omega
theorem sideN_le (g : Int × Int → Option Int) (W y : Nat) : sideN g W y ≤ 2 := by unfold sideN bn; split <;> split <;> omega
theorem sm_le {n k : Nat} {f : Nat → Nat} (h : ∀ i, f i ≤ k) : sm n f ≤ k * n := by
  induction n with
  | zero => exact Nat.zero_le _
  | succ n ih => rw [sm_succ, Nat.mul_succ]; have := h n; omega
end
end Go.Proofs.Ytogalmkeipigeaa

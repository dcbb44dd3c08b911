/- Counting: the edges of the lines, each counted once, are those that pieces have in common, each pair of pieces counted once. -/
import Derived.Test.YtogalmkeipigeaaRefY
import Derived.Test.YtogalmkeipigeaaLines
set_option linter.unusedSimpArgs false
set_option linter.unusedVariables false
namespace Go.Proofs.Ytogalmkeipigeaa
open Go.RowKit

def sm (n : Nat) (f : Nat → Nat) : Nat := ((List.range n).map f).sum
theorem sm_zero (f : Nat → Nat) : sm 0 f = 0 := rfl
theorem sm_succ (n : Nat) (f : Nat → Nat) : sm (n + 1) f = sm n f + f n := by
  unfold sm; rw [List.range_succ, List.map_append, List.sum_append]; simp
theorem sm_congr {n : Nat} {f g : Nat → Nat} (h : ∀ i, i < n → f i = g i) : sm n f = sm n g := by
  induction n with
  | zero => rfl
  | succ n ih => rw [sm_succ, sm_succ, ih fun i hi => h i (by omega), h n (by omega)]
theorem sm_add (n : Nat) (f g : Nat → Nat) : sm n (fun i => f i + g i) = sm n f + sm n g := by
  induction n with
  | zero => rfl
  | succ n ih => simp only [sm_succ, ih]; omega
theorem sm_none {n : Nat} {f : Nat → Nat} (h : ∀ i, i < n → f i = 0) : sm n f = 0 := by
  induction n with
  | zero => rfl
  | succ n ih => rw [sm_succ, ih fun i hi => h i (by omega), h n (by omega)]
theorem sm_split (n m : Nat) (f : Nat → Nat) : sm (n + m) f = sm n f + sm m (fun i => f (n + i)) := by
  induction m with
  | zero => rfl
  | succ m ih => rw [← Nat.add_assoc, sm_succ, sm_succ, ih]; omega
theorem sm_first (n : Nat) (f : Nat → Nat) : sm (n + 1) f = f 0 + sm n (fun i => f (i + 1)) := by
  rw [Nat.add_comm n 1, sm_split, sm_succ, sm_zero, Nat.zero_add]
  congr 1
  exact sm_congr fun i _ => by rw [Nat.add_comm 1 i]
theorem sm_swap (n m : Nat) (f : Nat → Nat → Nat) : sm n (fun i => sm m (fun j => f i j)) = sm m (fun j => sm n (fun i => f i j)) := by
  induction n with
  | zero => rw [sm_zero]; exact (sm_none fun i _ => rfl).symm
  | succ n ih => rw [sm_succ, ih, ← sm_add]; exact sm_congr fun j _ => (sm_succ n _).symm
theorem sm_grid (W H : Nat) (f : Nat → Nat → Nat) : sm (H * W) (fun m => f (m % W) (m / W)) = sm H (fun y => sm W (fun x => f x y)) := by
  induction H with
  | zero => rw [Nat.zero_mul]; rfl
  | succ H ih =>
    rw [Nat.succ_mul, sm_split, ih, sm_succ]
    congr 1
    refine sm_congr fun i hi => ?_
    rw [show H * W + i = i + W * H by rw [Nat.mul_comm H W, Nat.add_comm], Nat.add_mul_mod_self_left, Nat.add_mul_div_left _ _ (by omega), Nat.mod_eq_of_lt hi, Nat.div_eq_of_lt hi, Nat.zero_add]
def bn (p : Prop) [Decidable p] : Nat := if p then 1 else 0
theorem count_range {α : Type} [BEq α] [LawfulBEq α] [DecidableEq α] (n : Nat) (f : Nat → α) (v : α) : ((List.range n).map f).count v = sm n (fun i => bn (f i = v)) := by
  induction n with
  | zero => rfl
  | succ n ih =>
    rw [List.range_succ, List.map_append, List.count_append, ih, sm_succ]
    congr 1
    unfold bn
    by_cases h : f n = v
    · simp [h]
    · simp [h]
theorem count_flat (n : Nat) (c : Nat → Int × Int) (F : Int × Int → List Bool) : (((List.range n).map c).flatMap F).count true = sm n (fun i => (F (c i)).count true) := by
  induction n with
  | zero => rfl
  | succ n ih => rw [List.range_succ, List.map_append, List.flatMap_append, List.count_append, ih, sm_succ]; simp
/-- In a row of numbers whose ends are beside none: the lesser ones beside each are as many as the places where two differ. -/
theorem sm_row (a : Int → Int) (n : Nat) (h : ∀ i : Nat, i < n → 0 ≤ a i) (h0 : a (-1) = -1) (h1 : a n = -1) :
    sm n (fun x => bn (0 ≤ a ((x : Int) - 1) ∧ a ((x : Int) - 1) < a x) + bn (0 ≤ a ((x : Int) + 1) ∧ a ((x : Int) + 1) < a x)) = sm n (fun x => bn (a x ≠ a ((x : Int) + 1) ∧ a x ≠ -1 ∧ a ((x : Int) + 1) ≠ -1)) := by
  cases n with
  | zero => rfl
  | succ n =>
    rw [sm_add, sm_first n (fun x => bn (0 ≤ a ((x : Int) - 1) ∧ a ((x : Int) - 1) < a x)), sm_succ, sm_succ n (fun x => bn (a x ≠ a ((x : Int) + 1) ∧ a x ≠ -1 ∧ a ((x : Int) + 1) ≠ -1))]
    have e0 : bn (0 ≤ a (((0 : Nat) : Int) - 1) ∧ a (((0 : Nat) : Int) - 1) < a ((0 : Nat) : Int)) = 0 := by
      unfold bn; rw [if_neg]; rintro ⟨h2, _⟩; rw [show ((0 : Nat) : Int) - 1 = -1 by omega, h0] at h2; omega
    have en : ((n : Nat) : Int) + 1 = ((n + 1 : Nat) : Int) := by omega
    have e1 : bn (0 ≤ a ((n : Int) + 1) ∧ a ((n : Int) + 1) < a n) = 0 := by
      unfold bn; rw [if_neg]; rintro ⟨h2, _⟩; rw [en, h1] at h2; omega
    have e2 : bn (a n ≠ a ((n : Int) + 1) ∧ a n ≠ -1 ∧ a ((n : Int) + 1) ≠ -1) = 0 := by
      unfold bn; rw [if_neg]; rintro ⟨_, _, h2⟩; rw [en, h1] at h2; exact h2 rfl
    rw [e0, e1, e2, Nat.zero_add, Nat.add_zero, Nat.add_zero, ← sm_add]
    refine sm_congr fun x hx => ?_
    have p := h x (by omega)
    have q := h (x + 1) (by omega)
    have ex : ((x + 1 : Nat) : Int) = (x : Int) + 1 := by omega
    rw [ex] at q ⊢
    rw [show (x : Int) + 1 - 1 = (x : Int) by omega]
    generalize a (x : Int) = u at *
    generalize a ((x : Int) + 1) = v at *
    unfold bn
    by_cases c1 : u < v
    · rw [if_pos ⟨p, c1⟩, if_neg (by omega), if_pos (by omega)]
    · by_cases c2 : v < u
      · rw [if_neg (by omega), if_pos ⟨q, c2⟩, if_pos (by omega)]
      · rw [if_neg (by omega), if_neg (by omega), if_neg (by omega)]

section
variable {g : Int × Int → Option Int} {W H : Nat}
theorem bn_apart (g : Int × Int → Option Int) (p q : Int × Int) : bn (apartB g p q = true) = bn (atG g p ≠ atG g q ∧ atG g p ≠ -1 ∧ atG g q ≠ -1) := by
  unfold apartB bn
  congr 1
  simp [and_assoc]
theorem edges_count (G : Grid g W H) : (edgesL g W H).count true = sm H (fun y => sm W (fun x => bn (apartB g ((x : Int), (y : Int)) ((x : Int) + 1, (y : Int)) = true) + bn (apartB g ((x : Int), (y : Int)) ((x : Int), (y : Int) + 1) = true))) := by
  have e : ∀ x y : Int, (edgesAt g (x, y)).count true = bn (apartB g (x, y) (x + 1, y) = true) + bn (apartB g (x, y) (x, y + 1) = true) := fun x y => by
    have e1 : ((besideL (x, y)).filter fun d => !otherB (x, y) d) = [(x + 1, y), (x, y + 1)] := by
      simp only [besideL, List.filter_cons, List.filter_nil, otherB]
      have a1 : decide (y - 1 < y) = true := decide_eq_true (by omega)
      have a2 : decide (x + 1 < x) = false := decide_eq_false (by omega)
      have a3 : decide (y + 1 < y) = false := decide_eq_false (by omega)
      have a4 : decide (x - 1 < x) = true := decide_eq_true (by omega)
      have a5 : decide (x < x) = false := decide_eq_false (by omega)
      have a6 : decide (y < y) = false := decide_eq_false (by omega)
      simp [a1, a2, a3, a4, a5, a6]
    unfold edgesAt
    rw [e1]
    simp only [List.map_cons, List.map_nil, List.count_cons, List.count_nil, bn, beq_iff_eq]
    omega
  have hc : cellsL 0 0 W H = (List.range (H * W)).map fun m => (((m % W : Nat) : Int), ((m / W : Nat) : Int)) := by simp [cellsL]
  unfold edgesL
  rw [hc, count_flat]
  simp only [e]
  exact sm_grid W H (fun x y => bn (apartB g ((x : Int), (y : Int)) ((x : Int) + 1, (y : Int)) = true) + bn (apartB g ((x : Int), (y : Int)) ((x : Int), (y : Int) + 1) = true))
/-- How many cells around one have a lesser number. -/
def lessAt (g : Int × Int → Option Int) (x y : Int) : Nat :=
  (bn (0 ≤ atG g (x - 1, y) ∧ atG g (x - 1, y) < atG g (x, y)) + bn (0 ≤ atG g (x + 1, y) ∧ atG g (x + 1, y) < atG g (x, y))) +
  (bn (0 ≤ atG g (x, y - 1) ∧ atG g (x, y - 1) < atG g (x, y)) + bn (0 ≤ atG g (x, y + 1) ∧ atG g (x, y + 1) < atG g (x, y)))
theorem less_edges (G : Grid g W H) : sm H (fun y => sm W (fun x => lessAt g x y)) = (edgesL g W H).count true := by
  rw [edges_count G]
  have inn : ∀ x y : Nat, x < W → y < H → 0 ≤ atG g ((x : Int), (y : Int)) := fun x y hx hy => (G.at_in ⟨by simp only; omega, by simp only; omega, by simp only; omega, by simp only; omega⟩).1
  have o1 : ∀ y : Int, atG g (-1, y) = -1 := fun y => G.at_out (out_x (by omega))
  have o2 : ∀ y : Int, atG g ((W : Int), y) = -1 := fun y => G.at_out (out_x (by omega))
  have o3 : ∀ x : Int, atG g (x, -1) = -1 := fun y => G.at_out (out_y (by omega))
  have o4 : ∀ x : Int, atG g (x, (H : Int)) = -1 := fun y => G.at_out (out_y (by omega))
  have s1 : sm H (fun y => sm W (fun x => bn (0 ≤ atG g ((x : Int) - 1, (y : Int)) ∧ atG g ((x : Int) - 1, (y : Int)) < atG g ((x : Int), (y : Int))) + bn (0 ≤ atG g ((x : Int) + 1, (y : Int)) ∧ atG g ((x : Int) + 1, (y : Int)) < atG g ((x : Int), (y : Int))))) = sm H (fun y => sm W (fun x => bn (apartB g ((x : Int), (y : Int)) ((x : Int) + 1, (y : Int)) = true))) :=
    sm_congr fun y hy => by
      rw [sm_row (fun i => atG g (i, (y : Int))) W (fun i hi => inn i y hi hy) (o1 _) (o2 _)]
      exact sm_congr fun x _ => (bn_apart g _ _).symm
  have s2 : sm H (fun y => sm W (fun x => bn (0 ≤ atG g ((x : Int), (y : Int) - 1) ∧ atG g ((x : Int), (y : Int) - 1) < atG g ((x : Int), (y : Int))) + bn (0 ≤ atG g ((x : Int), (y : Int) + 1) ∧ atG g ((x : Int), (y : Int) + 1) < atG g ((x : Int), (y : Int))))) = sm H (fun y => sm W (fun x => bn (apartB g ((x : Int), (y : Int)) ((x : Int), (y : Int) + 1) = true))) := by
    rw [sm_swap, sm_swap H W (fun y x => bn (apartB g ((x : Int), (y : Int)) ((x : Int), (y : Int) + 1) = true))]
    exact sm_congr fun x hx => by
      rw [sm_row (fun j => atG g ((x : Int), j)) H (fun j hj => inn x j hx hj) (o3 _) (o4 _)]
      exact sm_congr fun y _ => (bn_apart g _ _).symm
  have add2 : ∀ (A B : Nat → Nat → Nat), sm H (fun y => sm W (fun x => A x y + B x y)) = sm H (fun y => sm W (fun x => A x y)) + sm H (fun y => sm W (fun x => B x y)) := fun A B => by
    rw [← sm_add]; exact sm_congr fun y _ => sm_add _ _ _
  unfold lessAt
  rw [add2 (fun x y => bn (0 ≤ atG g ((x : Int) - 1, (y : Int)) ∧ atG g ((x : Int) - 1, (y : Int)) < atG g ((x : Int), (y : Int))) + bn (0 ≤ atG g ((x : Int) + 1, (y : Int)) ∧ atG g ((x : Int) + 1, (y : Int)) < atG g ((x : Int), (y : Int)))) (fun x y => bn (0 ≤ atG g ((x : Int), (y : Int) - 1) ∧ atG g ((x : Int), (y : Int) - 1) < atG g ((x : Int), (y : Int))) + bn (0 ≤ atG g ((x : Int), (y : Int) + 1) ∧ atG g ((x : Int), (y : Int) + 1) < atG g ((x : Int), (y : Int)))), s1, s2]
  exact (add2 _ _).symm
theorem less_sum (l : List Int) (A : Nat) : sm A (fun b => l.count (b : Int)) = l.countP (fun v => decide (0 ≤ v ∧ v < (A : Int))) := by
  induction A with
  | zero =>
    rw [sm_zero, eq_comm, List.countP_eq_zero]
    intro v _
    simp only [decide_eq_true_eq]; omega
  | succ A ih =>
    rw [sm_succ, ih]
    clear ih
    induction l with
    | nil => rfl
    | cons v l ih =>
      simp only [List.countP_cons, List.count_cons, beq_iff_eq, decide_eq_true_eq]
      by_cases h1 : v = (A : Int)
      · subst h1
        rw [if_neg (by omega), if_pos rfl, if_pos (by omega)]; omega
      · rw [if_neg h1]
        by_cases h2 : 0 ≤ v ∧ v < (A : Int)
        · rw [if_pos h2, if_pos (by omega)]; omega
        · rw [if_neg h2, if_neg (by omega)]; omega
theorem sm_one (n A s : Nat) (h : A < n) (f : Nat → Nat) (hf : ∀ i, i < n → i ≠ A → f i = 0) (hA : f A = s) : sm n f = s := by
  induction n with
  | zero => omega
  | succ n ih =>
    rw [sm_succ]
    by_cases e : A = n
    · subst e; rw [sm_none fun i hi => hf i (by omega) (by omega), hA, Nat.zero_add]
    · rw [ih (by omega) (fun i hi hn => hf i (by omega) hn), hf n (by omega) (by omega), Nat.add_zero]
theorem pair_less {N : Nat} {x y : Int} (h0 : 0 ≤ atG g (x, y)) (hN : atG g (x, y) < N) : sm N (fun a => sm a (fun b => eAt g a b (x, y))) = lessAt g x y := by
  obtain ⟨A, hA⟩ : ∃ A : Nat, atG g (x, y) = A := ⟨(atG g (x, y)).toNat, by omega⟩
  refine sm_one N A _ (by omega) _ (fun i _ hi => sm_none fun b _ => eAt_no (by omega)) ?_
  have e : ∀ b : Nat, eAt g A b (x, y) = (aroundL g x y).count (b : Int) := fun b => eAt_yes hA
  simp only [e]
  rw [less_sum]
  unfold lessAt aroundL bn
  rw [hA]
  simp only [List.countP_cons, List.countP_nil, decide_eq_true_eq]
  omega
/-- The edges between pieces, each pair counted once, are the edges of the lines. -/
theorem edges_pairs (G : Grid g W H) {N : Nat} (hN : ∀ p, atG g p < N) : sm N (fun a => sm a (fun b => edgesTo g W a b (H * W))) = (edgesL g W H).count true := by
  have e1 : ∀ a b : Int, edgesTo g W a b (H * W) = sm H (fun y => sm W (fun x => eAt g a b ((x : Int), (y : Int)))) := fun a b =>
    sm_grid W H (fun x y => eAt g a b ((x : Int), (y : Int)))
  simp only [e1]
  rw [← less_edges G]
  have e2 : sm N (fun a => sm a (fun b => sm H (fun y => sm W (fun x => eAt g a b ((x : Int), (y : Int)))))) = sm N (fun a => sm H (fun y => sm W (fun x => sm a (fun b => eAt g a b ((x : Int), (y : Int)))))) :=
    sm_congr fun a _ => by rw [sm_swap]; exact sm_congr fun y _ => sm_swap _ _ _
  rw [e2, sm_swap]
  refine sm_congr fun y hy => ?_
  rw [sm_swap]
  refine sm_congr fun x hx => ?_
  exact pair_less (G.at_in ⟨by simp only; omega, by simp only; omega, by simp only; omega, by simp only; omega⟩).1 (hN _)
end
end Go.Proofs.Ytogalmkeipigeaa

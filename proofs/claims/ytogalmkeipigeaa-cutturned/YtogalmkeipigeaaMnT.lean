/- Several texts in one (a claim holds at most 60 files): each has its own words ahead of it. -/
import Derived.Test.YtogalmkeipigeaaMnV
import Derived.Test.YtogalmkeipigeaaMnI
import Derived.Test.YtogalmkeipigeaaRefJoin
import Derived.Deep.DeepCutAuto
import Derived.Deep.CutRange
import Derived.Deep.CutBlock
set_option linter.unusedSimpArgs false
set_option linter.unusedVariables false

/- Sawing: what can be sawn, can be sawn along any line that goes through; and into how many lines. -/
namespace Go.Proofs.Ytogalmkeipigeaa
open Go Go.RowKit Go.Shelf

/-- A number that some cell of the block has. -/
def NumIn (g : Int × Int → Option Int) (l t r b : Nat) (n : Int) : Prop := ∃ x y : Nat, l ≤ x ∧ x < r ∧ t ≤ y ∧ y < b ∧ atG g ((x : Int), (y : Int)) = n
/-- No number is in both blocks. -/
def Apart2 (g : Int × Int → Option Int) (l t r b l' t' r' b' : Nat) : Prop := ∀ n, NumIn g l t r b n → ¬ NumIn g l' t' r' b' n
inductive SawP (g : Int × Int → Option Int) : Nat → Nat → Nat → Nat → Nat → Prop
  | one {l t r b : Nat} (h1 : l < r) (h2 : t < b) (n : Int) (h : ∀ m, NumIn g l t r b m → m = n) : SawP g l t r b 0
  | across {l t r b j k : Nat} (y : Nat) (h1 : t < y) (h2 : y < b) (h : Apart2 g l t r y l y r b) (h3 : SawP g l t r y j) (h4 : SawP g l y r b k) : SawP g l t r b (j + k + 1)
  | upright {l t r b j k : Nat} (x : Nat) (h1 : l < x) (h2 : x < r) (h : Apart2 g l t x b x t r b) (h3 : SawP g l t x b j) (h4 : SawP g x t r b k) : SawP g l t r b (j + k + 1)

section
variable {g : Int × Int → Option Int}
theorem NumIn.wider {l t r b l' t' r' b' : Nat} {n : Int} (h : NumIn g l t r b n) (h1 : l' ≤ l) (h2 : t' ≤ t) (h3 : r ≤ r') (h4 : b ≤ b') : NumIn g l' t' r' b' n := by
  obtain ⟨x, y, a1, a2, a3, a4, a5⟩ := h
  exact ⟨x, y, by omega, by omega, by omega, by omega, a5⟩
theorem Apart2.less {l t r b l' t' r' b' : Nat} (h : Apart2 g l t r b l' t' r' b') {l1 t1 r1 b1 l2 t2 r2 b2 : Nat} (h1 : l ≤ l1) (h2 : t ≤ t1) (h3 : r1 ≤ r) (h4 : b1 ≤ b) (h5 : l' ≤ l2) (h6 : t' ≤ t2) (h7 : r2 ≤ r') (h8 : b2 ≤ b') : Apart2 g l1 t1 r1 b1 l2 t2 r2 b2 :=
  fun n hn hn' => h n (hn.wider h1 h2 h3 h4) (hn'.wider h5 h6 h7 h8)
theorem SawP.size {l t r b k : Nat} (h : SawP g l t r b k) : l < r ∧ t < b := by
  induction h with
  | one h1 h2 _ _ => exact ⟨h1, h2⟩
  | across y h1 h2 _ _ _ ih1 ih2 => exact ⟨ih1.1, by omega⟩
  | upright x h1 h2 _ _ _ ih1 ih2 => exact ⟨by omega, ih1.2⟩
theorem num_corner {l t r b : Nat} (h1 : l < r) (h2 : t < b) : NumIn g l t r b (atG g ((l : Int), (t : Int))) := ⟨l, t, Nat.le_refl _, h1, Nat.le_refl _, h2, rfl⟩
/-- What can be sawn, can be sawn along any line that goes through. -/
theorem SawP.through {l t r b k : Nat} (h : SawP g l t r b k) :
    (∀ y, t < y → y < b → Apart2 g l t r y l y r b → (∃ i, SawP g l t r y i) ∧ ∃ j, SawP g l y r b j) ∧
    (∀ x, l < x → x < r → Apart2 g l t x b x t r b → (∃ i, SawP g l t x b i) ∧ ∃ j, SawP g x t r b j) := by
  induction h with
  | @one l t r b h1 h2 n h =>
    refine ⟨fun y hy1 hy2 ha => ?_, fun x hx1 hx2 ha => ?_⟩
    · exfalso
      have e1 := h _ ((num_corner (g := g) h1 hy1).wider (Nat.le_refl _) (Nat.le_refl _) (Nat.le_refl _) (by omega))
      have e2 := h _ ((num_corner (g := g) h1 hy2).wider (Nat.le_refl _) (by omega) (Nat.le_refl _) (Nat.le_refl _))
      have := ha _ (num_corner h1 hy1)
      rw [e1, ← e2] at this
      exact this (num_corner h1 hy2)
    · exfalso
      have e1 := h _ ((num_corner (g := g) hx1 h2).wider (Nat.le_refl _) (Nat.le_refl _) (by omega) (Nat.le_refl _))
      have e2 := h _ ((num_corner (g := g) hx2 h2).wider (by omega) (Nat.le_refl _) (Nat.le_refl _) (Nat.le_refl _))
      have := ha _ (num_corner hx1 h2)
      rw [e1, ← e2] at this
      exact this (num_corner hx2 h2)
  | @across l t r b j k m h1 h2 h h3 h4 ih1 ih2 =>
    have s1 := h3.size
    have s2 := h4.size
    refine ⟨fun y hy1 hy2 ha => ?_, fun x hx1 hx2 ha => ?_⟩
    · rcases Nat.lt_trichotomy y m with e | e | e
      · obtain ⟨⟨i1, q1⟩, ⟨i2, q2⟩⟩ := ih1.1 y hy1 e (ha.less (Nat.le_refl _) (Nat.le_refl _) (Nat.le_refl _) (Nat.le_refl _) (Nat.le_refl _) (Nat.le_refl _) (Nat.le_refl _) (by omega))
        exact ⟨⟨i1, q1⟩, ⟨_, .across m e h2 (h.less (Nat.le_refl _) (by omega) (Nat.le_refl _) (Nat.le_refl _) (Nat.le_refl _) (Nat.le_refl _) (Nat.le_refl _) (Nat.le_refl _)) q2 h4⟩⟩
      · subst e
        exact ⟨⟨_, h3⟩, ⟨_, h4⟩⟩
      · obtain ⟨⟨i1, q1⟩, ⟨i2, q2⟩⟩ := ih2.1 y e hy2 (ha.less (Nat.le_refl _) (by omega) (Nat.le_refl _) (Nat.le_refl _) (Nat.le_refl _) (Nat.le_refl _) (Nat.le_refl _) (Nat.le_refl _))
        exact ⟨⟨_, .across m h1 e (h.less (Nat.le_refl _) (Nat.le_refl _) (Nat.le_refl _) (Nat.le_refl _) (Nat.le_refl _) (Nat.le_refl _) (Nat.le_refl _) (by omega)) h3 q1⟩, ⟨i2, q2⟩⟩
    · obtain ⟨⟨i1, q1⟩, ⟨i2, q2⟩⟩ := ih1.2 x hx1 hx2 (ha.less (Nat.le_refl _) (Nat.le_refl _) (Nat.le_refl _) (by omega) (Nat.le_refl _) (Nat.le_refl _) (Nat.le_refl _) (by omega))
      obtain ⟨⟨i3, q3⟩, ⟨i4, q4⟩⟩ := ih2.2 x hx1 hx2 (ha.less (Nat.le_refl _) (by omega) (Nat.le_refl _) (Nat.le_refl _) (Nat.le_refl _) (by omega) (Nat.le_refl _) (Nat.le_refl _))
      exact ⟨⟨_, .across m h1 h2 (h.less (Nat.le_refl _) (Nat.le_refl _) (by omega) (Nat.le_refl _) (Nat.le_refl _) (Nat.le_refl _) (by omega) (Nat.le_refl _)) q1 q3⟩, ⟨_, .across m h1 h2 (h.less (by omega) (Nat.le_refl _) (Nat.le_refl _) (Nat.le_refl _) (by omega) (Nat.le_refl _) (Nat.le_refl _) (Nat.le_refl _)) q2 q4⟩⟩
  | @upright l t r b j k m h1 h2 h h3 h4 ih1 ih2 =>
    have s1 := h3.size
    have s2 := h4.size
    refine ⟨fun y hy1 hy2 ha => ?_, fun x hx1 hx2 ha => ?_⟩
    · obtain ⟨⟨i1, q1⟩, ⟨i2, q2⟩⟩ := ih1.1 y hy1 hy2 (ha.less (Nat.le_refl _) (Nat.le_refl _) (by omega) (Nat.le_refl _) (Nat.le_refl _) (Nat.le_refl _) (by omega) (Nat.le_refl _))
      obtain ⟨⟨i3, q3⟩, ⟨i4, q4⟩⟩ := ih2.1 y hy1 hy2 (ha.less (by omega) (Nat.le_refl _) (Nat.le_refl _) (Nat.le_refl _) (by omega) (Nat.le_refl _) (Nat.le_refl _) (Nat.le_refl _))
      exact ⟨⟨_, .upright m h1 h2 (h.less (Nat.le_refl _) (Nat.le_refl _) (Nat.le_refl _) (by omega) (Nat.le_refl _) (Nat.le_refl _) (Nat.le_refl _) (by omega)) q1 q3⟩, ⟨_, .upright m h1 h2 (h.less (Nat.le_refl _) (by omega) (Nat.le_refl _) (Nat.le_refl _) (Nat.le_refl _) (by omega) (Nat.le_refl _) (Nat.le_refl _)) q2 q4⟩⟩
    · rcases Nat.lt_trichotomy x m with e | e | e
      · obtain ⟨⟨i1, q1⟩, ⟨i2, q2⟩⟩ := ih1.2 x hx1 e (ha.less (Nat.le_refl _) (Nat.le_refl _) (Nat.le_refl _) (Nat.le_refl _) (Nat.le_refl _) (Nat.le_refl _) (by omega) (Nat.le_refl _))
        exact ⟨⟨i1, q1⟩, ⟨_, .upright m e h2 (h.less (by omega) (Nat.le_refl _) (Nat.le_refl _) (Nat.le_refl _) (Nat.le_refl _) (Nat.le_refl _) (Nat.le_refl _) (Nat.le_refl _)) q2 h4⟩⟩
      · subst e
        exact ⟨⟨_, h3⟩, ⟨_, h4⟩⟩
      · obtain ⟨⟨i1, q1⟩, ⟨i2, q2⟩⟩ := ih2.2 x e hx2 (ha.less (by omega) (Nat.le_refl _) (Nat.le_refl _) (Nat.le_refl _) (Nat.le_refl _) (Nat.le_refl _) (Nat.le_refl _) (Nat.le_refl _))
        exact ⟨⟨_, .upright m h1 e (h.less (Nat.le_refl _) (Nat.le_refl _) (Nat.le_refl _) (Nat.le_refl _) (Nat.le_refl _) (Nat.le_refl _) (by omega) (Nat.le_refl _)) h3 q1⟩, ⟨i2, q2⟩⟩

/-- How many numbers below 40 a block has. -/
noncomputable def numsN (g : Int × Int → Option Int) (l t r b : Nat) : Nat := sm 40 (fun n => @ite _ (NumIn g l t r b n) (Classical.propDecidable _) 1 0)
theorem SawP.count {W H : Nat} (G : Grid g W H) {l t r b k : Nat} (h : SawP g l t r b k) (hr : r ≤ W) (hb : b ≤ H) : numsN g l t r b = k + 1 := by
  classical
  have inP : ∀ {x y : Nat}, x < W → y < H → inPic W H ((x : Int), (y : Int)) := fun hx hy => ⟨by show (0 : Int) ≤ _; omega, by show _ < (W : Int); omega, by show (0 : Int) ≤ _; omega, by show _ < (H : Int); omega⟩
  induction h with
  | @one l t r b h1 h2 n h =>
    have hc := num_corner (g := g) h1 h2
    have hn := h _ hc
    have hg := G.at_in (inP (show l < W by omega) (show t < H by omega))
    rw [hn] at hc hg
    obtain ⟨m, rfl⟩ := Int.eq_ofNat_of_zero_le hg.1
    unfold numsN
    rw [sm_congr (g := fun i => if i = m then (fun _ => 1) i else 0) (fun i _ => by
      by_cases e : i = m
      · subst e; rw [if_pos hc, if_pos rfl]
      · rw [if_neg (fun hi => e (by have := h _ hi; omega)), if_neg e])]
    have : ∀ n, m < n → sm n (fun i => if i = m then (fun _ => 1) i else 0) = 1 := by
      intro n
      induction n with
      | zero => intro h; omega
      | succ n ih =>
        intro hlt
        rw [sm_succ]
        by_cases e : m = n
        · subst e; rw [if_pos rfl, sm_none fun i hi => if_neg (by omega)]; rfl
        · rw [ih (by omega), if_neg (by omega)]
    exact this 40 (by omega)
  | @across l t r b j k y h1 h2 h h3 h4 ih1 ih2 =>
    have e1 := ih1 hr (by omega)
    have e2 := ih2 hr hb
    have : numsN g l t r b = numsN g l t r y + numsN g l y r b := by
      unfold numsN
      rw [← sm_add]
      refine sm_congr fun n _ => ?_
      have key : NumIn g l t r b n ↔ (NumIn g l t r y n ∨ NumIn g l y r b n) := by
        constructor
        · rintro ⟨x, z, a1, a2, a3, a4, a5⟩
          by_cases e : z < y
          · exact .inl ⟨x, z, a1, a2, a3, e, a5⟩
          · exact .inr ⟨x, z, a1, a2, by omega, a4, a5⟩
        · rintro (q | q)
          · exact q.wider (Nat.le_refl _) (Nat.le_refl _) (Nat.le_refl _) (by omega)
          · exact q.wider (Nat.le_refl _) (by omega) (Nat.le_refl _) (Nat.le_refl _)
      by_cases q1 : NumIn g l t r y n
      · rw [if_pos (key.2 (.inl q1)), if_pos q1, if_neg (h n q1)]
      · by_cases q2 : NumIn g l y r b n
        · rw [if_pos (key.2 (.inr q2)), if_neg q1, if_pos q2]
        · rw [if_neg (fun q => (key.1 q).elim q1 q2), if_neg q1, if_neg q2]
    omega
  | @upright l t r b j k x h1 h2 h h3 h4 ih1 ih2 =>
    have e1 := ih1 (by omega) hb
    have e2 := ih2 hr hb
    have : numsN g l t r b = numsN g l t x b + numsN g x t r b := by
      unfold numsN
      rw [← sm_add]
      refine sm_congr fun n _ => ?_
      have key : NumIn g l t r b n ↔ (NumIn g l t x b n ∨ NumIn g x t r b n) := by
        constructor
        · rintro ⟨z, y, a1, a2, a3, a4, a5⟩
          by_cases e : z < x
          · exact .inl ⟨z, y, a1, e, a3, a4, a5⟩
          · exact .inr ⟨z, y, by omega, a2, a3, a4, a5⟩
        · rintro (q | q)
          · exact q.wider (Nat.le_refl _) (Nat.le_refl _) (by omega) (Nat.le_refl _)
          · exact q.wider (by omega) (Nat.le_refl _) (Nat.le_refl _) (Nat.le_refl _)
      by_cases q1 : NumIn g l t x b n
      · rw [if_pos (key.2 (.inl q1)), if_pos q1, if_neg (h n q1)]
      · by_cases q2 : NumIn g x t r b n
        · rw [if_pos (key.2 (.inr q2)), if_neg q1, if_pos q2]
        · rw [if_neg (fun q => (key.1 q).elim q1 q2), if_neg q1, if_neg q2]
    omega

theorem mem_numbers {l t r b : Nat} (h1 : l < r) (n : Int) : n ∈ numbersL g l t r b ↔ NumIn g l t r b n := by
  unfold numbersL cellsL
  rw [List.map_map, List.mem_map]
  constructor
  · rintro ⟨m, hm, rfl⟩
    rw [List.mem_range] at hm
    have hw : 0 < r - l := by omega
    have h3 : m % (r - l) < r - l := Nat.mod_lt _ hw
    have h4 : m / (r - l) < b - t := (Nat.div_lt_iff_lt_mul hw).2 hm
    refine ⟨l + m % (r - l), t + m / (r - l), Nat.le_add_right _ _, ?_, Nat.le_add_right _ _, ?_, rfl⟩
    · generalize m % (r - l) = u at *; omega
    · generalize m / (r - l) = u at *; omega
  · rintro ⟨x, y, a1, a2, a3, a4, rfl⟩
    refine ⟨(y - t) * (r - l) + (x - l), ?_, ?_⟩
    · rw [List.mem_range]
      have : (y - t) * (r - l) + (r - l) ≤ (b - t) * (r - l) := by
        rw [← Nat.succ_mul]; exact Nat.mul_le_mul_right _ (by omega)
      omega
    · have hw : 0 < r - l := by omega
      have e1 : ((y - t) * (r - l) + (x - l)) % (r - l) = x - l := by rw [Nat.mul_comm, Nat.mul_add_mod]; exact Nat.mod_eq_of_lt (by omega)
      have e2 : ((y - t) * (r - l) + (x - l)) / (r - l) = y - t := by rw [Nat.mul_comm, Nat.mul_add_div hw, Nat.div_eq_of_lt (by omega)]; rfl
      show atG g (((l + ((y - t) * (r - l) + (x - l)) % (r - l) : Nat) : Int), ((t + ((y - t) * (r - l) + (x - l)) / (r - l) : Nat) : Int)) = _
      rw [e1, e2]
      congr 2 <;> omega
theorem goes_apart {a b c d e f i j : Nat} (h1 : a < c) (h2 : e < i) : goesB g a b c d e f i j = true ↔ Apart2 g a b c d e f i j := by
  unfold goesB Apart2
  rw [List.all_eq_true]
  constructor
  · intro h n hn hn'
    have := h n ((mem_numbers h2 n).2 hn')
    simp only [Bool.not_eq_true', decide_eq_false_iff_not] at this
    exact this ((mem_numbers h1 n).2 hn)
  · intro h n hn
    simp only [Bool.not_eq_true', decide_eq_false_iff_not]
    exact fun hn' => h n ((mem_numbers h1 n).1 hn') ((mem_numbers h2 n).1 hn)
theorem whole_one {l t r b : Nat} (h1 : l < r) (h2 : t < b) : wholeB (numbersL g l t r b) = true ↔ ∃ n, ∀ m, NumIn g l t r b m → m = n := by
  rw [wholeB_iff]
  constructor
  · rintro ⟨_, n, hn⟩
    exact ⟨n, fun m hm => hn m ((mem_numbers h1 m).2 hm)⟩
  · rintro ⟨n, hn⟩
    refine ⟨fun e => ?_, n, fun m hm => hn m ((mem_numbers h1 m).1 hm)⟩
    have := (mem_numbers h1 _).2 (num_corner (g := g) h1 h2)
    rw [e] at this; cases this
theorem firstAt_good {p : Nat → Bool} : ∀ {n a i : Nat}, firstAt p a n = some i → p i = true := by
  intro n
  induction n with
  | zero => intro a i h; cases h
  | succ n ih =>
    intro a i h
    simp only [firstAt] at h
    split at h
    · rename_i hp; cases h; exact hp
    · exact ih h
theorem firstAt_is {p : Nat → Bool} : ∀ {n a i : Nat}, a ≤ i → i < a + n → p i = true → firstAt p a n ≠ none := by
  intro n
  induction n with
  | zero => intro a i h1 h2; omega
  | succ n ih =>
    intro a i h1 h2 h3
    simp only [firstAt]
    split
    · simp
    · rename_i hp
      refine ih (i := i) ?_ (by omega) h3
      by_cases e : a = i
      · subst e; exact absurd h3 hp
      · omega
theorem nextL_good {l t r b : Nat} (h1 : l < r) {s} (h : nextL g l t r b = some s) :
    (∃ y, t < y ∧ y < b ∧ Apart2 g l t r y l y r b ∧ s = ((false, y, l, r), (l, t, r, y), (l, y, r, b))) ∨ (∃ x, l < x ∧ x < r ∧ Apart2 g l t x b x t r b ∧ s = ((true, x, t, b), (l, t, x, b), (x, t, r, b))) := by
  unfold nextL at h
  split at h
  · rename_i y hy
    cases h
    have h2 := firstAt_in hy
    have h3 := firstAt_good hy
    exact .inl ⟨y, by omega, by omega, (goes_apart h1 h1).1 h3, rfl⟩
  · split at h
    · rename_i x hx
      cases h
      have h2 := firstAt_in hx
      have h3 := firstAt_good hx
      exact .inr ⟨x, by omega, by omega, (goes_apart (by omega) (by omega)).1 h3, rfl⟩
    · cases h
theorem nextL_is {l t r b : Nat} (h1 : l < r) (h : (∃ y, t < y ∧ y < b ∧ Apart2 g l t r y l y r b) ∨ (∃ x, l < x ∧ x < r ∧ Apart2 g l t x b x t r b)) : nextL g l t r b ≠ none := by
  unfold nextL
  split
  · simp
  · rename_i hn
    rcases h with ⟨y, a1, a2, a3⟩ | ⟨x, a1, a2, a3⟩
    · exact absurd hn (firstAt_is (i := y) (by omega) (by omega) ((goes_apart h1 h1).2 a3))
    · split
      · simp
      · rename_i hn2
        exact absurd hn2 (firstAt_is (i := x) (by omega) (by omega) ((goes_apart (by omega) (by omega)).2 a3))
/-- The lines that are found saw the block. -/
theorem sawL_sound : ∀ {f l t r b : Nat} {L : List LineT}, l < r → t < b → sawL g f l t r b = some L → SawP g l t r b L.length := by
  intro f
  induction f with
  | zero => intro l t r b L _ _ h; cases h
  | succ f ih =>
    intro l t r b L h1 h2 h
    simp only [sawL] at h
    split at h
    · rename_i hw
      cases h
      obtain ⟨n, hn⟩ := (whole_one h1 h2).1 hw
      exact .one h1 h2 n hn
    · split at h
      · cases h
      · rename_i u at' fr tq a b c d a' b' c' d' hn
        split at h
        · cases h
        · rename_i L1 hL1
          split at h
          · cases h
          · rename_i L2 hL2
            cases h
            rcases nextL_good h1 hn with ⟨y, hy1, hy2, ha, e⟩ | ⟨x, hx1, hx2, ha, e⟩
            · simp only [Prod.mk.injEq] at e
              obtain ⟨_, ⟨rfl, rfl, rfl, rfl⟩, rfl, rfl, rfl, rfl⟩ := e
              simp only [List.length_cons, List.length_append]
              exact .across _ hy1 hy2 ha (ih h1 hy1 hL1) (ih h1 hy2 hL2)
            · simp only [Prod.mk.injEq] at e
              obtain ⟨_, ⟨rfl, rfl, rfl, rfl⟩, rfl, rfl, rfl, rfl⟩ := e
              simp only [List.length_cons, List.length_append]
              exact .upright _ hx1 hx2 ha (ih hx1 h2 hL1) (ih hx2 h2 hL2)
/-- What can be sawn is sawn. -/
theorem sawL_complete : ∀ {f l t r b k : Nat}, (r - l) * (b - t) ≤ f → SawP g l t r b k → ∃ L, sawL g f l t r b = some L := by
  intro f
  induction f with
  | zero =>
    intro l t r b k hf h
    have := h.size
    have : 0 < (r - l) * (b - t) := Nat.mul_pos (by omega) (by omega)
    omega
  | succ f ih =>
    intro l t r b k hf h
    obtain ⟨h1, h2⟩ := h.size
    simp only [sawL]
    by_cases hw : wholeB (numbersL g l t r b) = true
    · exact ⟨[], by rw [if_pos hw]⟩
    · rw [if_neg hw]
      have hline : (∃ y, t < y ∧ y < b ∧ Apart2 g l t r y l y r b) ∨ (∃ x, l < x ∧ x < r ∧ Apart2 g l t x b x t r b) := by
        cases h with
        | one _ _ n hn => exact absurd ((whole_one h1 h2).2 ⟨n, hn⟩) hw
        | across y a1 a2 a3 _ _ => exact .inl ⟨y, a1, a2, a3⟩
        | upright x a1 a2 a3 _ _ => exact .inr ⟨x, a1, a2, a3⟩
      cases hn : nextL g l t r b with
      | none => exact absurd hn (nextL_is h1 hline)
      | some s =>
        rcases nextL_good h1 hn with ⟨y, hy1, hy2, ha, rfl⟩ | ⟨x, hx1, hx2, ha, rfl⟩
        · obtain ⟨⟨i, q1⟩, ⟨j, q2⟩⟩ := h.through.1 y hy1 hy2 ha
          have ar := area_h h1 hy1 hy2
          obtain ⟨L1, e1⟩ := ih (by omega) q1
          obtain ⟨L2, e2⟩ := ih (by omega) q2
          simp only [e1, e2]
          exact ⟨_, rfl⟩
        · obtain ⟨⟨i, q1⟩, ⟨j, q2⟩⟩ := h.through.2 x hx1 hx2 ha
          have ar := area_v h2 hx1 hx2
          obtain ⟨L1, e1⟩ := ih (by omega) q1
          obtain ⟨L2, e2⟩ := ih (by omega) q2
          simp only [e1, e2]
          exact ⟨_, rfl⟩
end
end Go.Proofs.Ytogalmkeipigeaa

/- CutTurned: a picture that is turned over. -/
namespace Go.Proofs.Ytogalmkeipigeaa
open Go Go.RowKit Go.Shelf

theorem isCutB_ofT {W H : Nat} {zs : List Int} (C : CutN W H zs) : isCutB W H zs = true := by
  unfold isCutB
  have := C.len
  have h1 := C.w1
  have h2 := C.w2
  have h3 := C.h1
  have h4 := C.h2
  simp only [Bool.and_eq_true, decide_eq_true_eq, Bool.not_eq_true', List.any_eq_false, Bool.or_eq_true, not_or]
  refine ⟨⟨by omega, by rw [this]; simp⟩, fun z hz => ?_⟩
  have := C.num z hz
  simp; omega
theorem greatest_isT {zs : List Int} {m : Int} (hne : zs ≠ []) (h0 : ∀ z ∈ zs, 0 ≤ z) (hle : ∀ z ∈ zs, z ≤ m) (hm : m ∈ zs) : greatest zs = m := by
  have h1 := le_greatest2 hm
  have h2 := hle _ (greatest_mem hne h0)
  omega

theorem info24T : (Try.prog.info? 24).map (·.size) = some 3 := by kernel_rfl
theorem sm_rev (f : Nat → Nat) : ∀ n, sm n (fun i => f (n - 1 - i)) = sm n f := by
  intro n
  induction n with
  | zero => rfl
  | succ n ih =>
    rw [sm_first, sm_succ]
    have e : sm n (fun i => f (n + 1 - 1 - (i + 1))) = sm n (fun i => f (n - 1 - i)) := sm_congr fun i hi => by congr 1; omega
    rw [e, ih, show n + 1 - 1 - 0 = n by omega]
    omega

/-- Where a cell of the turned picture was. -/
def turnP (how W H : Int) (p : Int × Int) : Int × Int := if how = 0 then (W - 1 - p.1, p.2) else if how = 1 then (p.1, H - 1 - p.2) else (p.2, p.1)
structure Turned (g g' : Int × Int → Option Int) (W H W' H' : Nat) (τ : Int × Int → Int × Int) : Prop where
  at_ : ∀ p, atG g' p = atG g (τ p)
  beside : ∀ p, ((besideL p).map τ).Perm (besideL (τ p))
  pic : ∀ p, inPic W' H' p → inPic W H (τ p)
  sum : ∀ f : Int × Int → Nat, sm H' (fun y => sm W' (fun x => f (τ ((x : Int), (y : Int))))) = sm H (fun y => sm W (fun x => f ((x : Int), (y : Int))))
section
variable {g g' : Int × Int → Option Int} {W H W' H' : Nat} {τ σ : Int × Int → Int × Int}
theorem Turned.eAt (T : Turned g g' W H W' H' τ) (a b : Int) (p : Int × Int) : eAt g' a b p = eAt g a b (τ p) := by
  unfold Go.Proofs.Ytogalmkeipigeaa.eAt
  rw [T.at_]
  have e : (besideL p).map (atG g') = ((besideL p).map τ).map (atG g) := by
    rw [List.map_map]; exact List.map_congr_left fun q _ => T.at_ q
  rw [e, ((T.beside p).map (atG g)).count_eq]
theorem Turned.edges (T : Turned g g' W H W' H' τ) (a b : Int) : edgesTo g' W' a b (H' * W') = edgesTo g W a b (H * W) := by
  rw [edges_grid, edges_grid, ← T.sum (fun p => Go.Proofs.Ytogalmkeipigeaa.eAt g a b p)]
  exact sm_congr fun y _ => sm_congr fun x _ => T.eAt a b _
theorem Turned.cells (T : Turned g g' W H W' H' τ) (n : Int) : cellsN g' W' H' n = cellsN g W H n := by
  unfold cellsN
  rw [← T.sum (fun p => bn (atG g p = n))]
  exact sm_congr fun y _ => sm_congr fun x _ => by rw [T.at_]
theorem Turned.faced (T : Turned g g' W H W' H' τ) (n r : Int) : (facedL g' W' H' n).count r = (facedL g W H n).count r := by
  by_cases e : r = n
  · subst e; rw [faced_self, faced_self]
  · rw [← edgesTo_faced g' W' H' n r e, ← edgesTo_faced g W H n r e]; exact T.edges n r
theorem Turned.mem (T : Turned g g' W H W' H' τ) (n r : Int) : r ∈ facedL g' W' H' n ↔ r ∈ facedL g W H n := by
  rw [← List.count_pos_iff, ← List.count_pos_iff, T.faced]
theorem sidesTo_count {F F' : List Int} (h : ∀ r, F.count r = F'.count r) : ∀ n, sidesTo F n = sidesTo F' n := by
  intro n
  induction n with
  | zero => rfl
  | succ n ih => simp only [sidesTo]; rw [ih, h]
theorem ConnP.same (h : ∀ n r, r ∈ facedL g' W' H' n → r ∈ facedL g W H n) {wo p q : Int} (k : ConnP g' W' H' wo p q) : ConnP g W H wo p q := by
  induction k with
  | refl h0 hw => exact .refl h0 hw
  | step _ hr h0 hw ih => exact .step ih (h _ _ hr) h0 hw
theorem Turned.out (T : Turned g g' W H W' H' τ) (p : Int) (N : Nat) : outB g' W' H' p N = outB g W H p N := by
  funext j
  rw [Bool.eq_iff_iff, outB_iff, outB_iff]
  constructor
  · rintro ⟨q, h1, h2, h3, h4⟩
    exact ⟨q, h1, h2, (T.mem _ _).1 h3, h4.same fun n r => (T.mem n r).1⟩
  · rintro ⟨q, h1, h2, h3, h4⟩
    exact ⟨q, h1, h2, (T.mem _ _).2 h3, h4.same fun n r => (T.mem n r).2⟩
theorem Turned.conn (T : Turned g g' W H W' H' τ) {p q : Int × Int} (h : Conn g' p q) : Conn g (τ p) (τ q) := by
  induction h with
  | refl => exact .refl
  | step h hr he ih => exact .step ih ((T.beside _).mem_iff.1 (List.mem_map_of_mem hr)) (by rw [← T.at_, ← T.at_]; exact he)
theorem Turned.whole (T : Turned g g' W H W' H' τ) (S : Turned g' g W' H' W H σ) (hσ : ∀ p, σ (τ p) = p) {k : Int} (h : WholeP g W H k) : WholeP g' W' H' k := fun p q hp hq hpk hqk => by
  have := S.conn (h (τ p) (τ q) (T.pic p hp) (T.pic q hq) (by rw [← T.at_]; exact hpk) (by rw [← T.at_]; exact hqk))
  rwa [hσ, hσ] at this
theorem Turned.part (T : Turned g g' W H W' H' τ) (S : Turned g' g W' H' W H σ) (hσ : ∀ p, σ (τ p) = p) (hτ : ∀ p, τ (σ p) = p) (n : Nat) : partF g' W' H' n = partF g W H n := by
  have h1 : (∀ p, inPic W' H' p → atG g' p ≠ (n : Int)) ↔ (∀ p, inPic W H p → atG g p ≠ (n : Int)) :=
    ⟨fun h p hp => by have := h (σ p) (S.pic p hp); rw [T.at_, hτ] at this; exact this, fun h p hp => by rw [T.at_]; exact h (τ p) (T.pic p hp)⟩
  have h2 : WholeP g' W' H' n ↔ WholeP g W H n := ⟨fun h => S.whole T hτ h, fun h => T.whole S hσ h⟩
  unfold partF
  by_cases a : ∀ p, inPic W H p → atG g p ≠ (n : Int)
  · rw [if_pos a, if_pos (h1.2 a)]
  · rw [if_neg a, if_neg (fun b => a (h1.1 b))]
    by_cases b : WholeP g W H n
    · rw [if_pos b, if_pos (h2.2 b)]
    · rw [if_neg b, if_neg (fun c => b (h2.1 c))]
end
end Go.Proofs.Ytogalmkeipigeaa

/- CutTurned: points and blocks of a picture that is turned over. -/
namespace Go.Proofs.Ytogalmkeipigeaa
open Go Go.RowKit Go.Shelf

theorem apartB_comm (g : Int × Int → Option Int) (p q : Int × Int) : apartB g p q = apartB g q p := by
  unfold apartB
  rw [bne_comm (a := atG g p) (b := atG g q)]
  cases (atG g q != atG g p) <;> cases (atG g p != -1) <;> cases (atG g q != -1) <;> rfl
theorem pointB_flip : ∀ u r d l : Bool, pointB u l d r = pointB u r d l := by decide
theorem pointB_over : ∀ u r d l : Bool, pointB d r u l = pointB u r d l := by decide
theorem pointB_swap : ∀ u r d l : Bool, pointB l d r u = pointB u r d l := by decide
theorem apart_turn {g g' : Int × Int → Option Int} {τ : Int × Int → Int × Int} (h : ∀ p, atG g' p = atG g (τ p)) (p q : Int × Int) : apartB g' p q = apartB g (τ p) (τ q) := by
  unfold apartB; rw [h, h]

section
variable {g g' : Int × Int → Option Int} {W H W' H' : Nat}
theorem ptsN_grid (g : Int × Int → Option Int) (W H : Nat) (v : Int) : (pointsL g W H).count v = sm (H + 1) (fun y => sm (W + 1) (fun x => bn (pointR g (x : Int) (y : Int) = v))) := by
  have h1 : (pointsL g W H).count v = sm ((H + 1) * (W + 1)) (fun m => bn (pointR g ((m % (W + 1) : Nat) : Int) ((m / (W + 1) : Nat) : Int) = v)) := count_range _ _ _
  rw [h1]
  exact sm_grid (W + 1) (H + 1) (fun x y => bn (pointR g (x : Int) (y : Int) = v))
/-- Left for right. -/
theorem points_flip (h : ∀ p, atG g' p = atG g ((W : Int) - 1 - p.1, p.2)) (v : Int) : (pointsL g' W H).count v = (pointsL g W H).count v := by
  rw [ptsN_grid, ptsN_grid]
  refine sm_congr fun y _ => ?_
  rw [← sm_rev (fun x => bn (pointR g (x : Int) (y : Int) = v)) (W + 1)]
  refine sm_congr fun x hx => ?_
  have e : pointR g' (x : Int) (y : Int) = pointR g ((W + 1 - 1 - x : Nat) : Int) (y : Int) := by
    unfold pointR
    rw [apart_turn h, apart_turn h, apart_turn h, apart_turn h]
    have e1 : ((W + 1 - 1 - x : Nat) : Int) = (W : Int) - x := by omega
    rw [e1]
    simp only []
    rw [show (W : Int) - 1 - ((x : Int) - 1) = (W : Int) - x by omega, show (W : Int) - 1 - (x : Int) = (W : Int) - x - 1 by omega]
    rw [← pointB_flip, apartB_comm g ((W : Int) - x, (y : Int) - 1) ((W : Int) - x - 1, (y : Int) - 1), apartB_comm g ((W : Int) - x - 1, (y : Int)) ((W : Int) - x, (y : Int)), apartB_comm g ((W : Int) - x - 1, (y : Int) - 1) ((W : Int) - x - 1, (y : Int)), apartB_comm g ((W : Int) - x, (y : Int)) ((W : Int) - x, (y : Int) - 1)]
  rw [e]
/-- Upside down. -/
theorem points_over (h : ∀ p, atG g' p = atG g (p.1, (H : Int) - 1 - p.2)) (v : Int) : (pointsL g' W H).count v = (pointsL g W H).count v := by
  rw [ptsN_grid, ptsN_grid]
  rw [← sm_rev (fun y => sm (W + 1) (fun x => bn (pointR g (x : Int) (y : Int) = v))) (H + 1)]
  refine sm_congr fun y hy => sm_congr fun x _ => ?_
  have e : pointR g' (x : Int) (y : Int) = pointR g (x : Int) ((H + 1 - 1 - y : Nat) : Int) := by
    unfold pointR
    rw [apart_turn h, apart_turn h, apart_turn h, apart_turn h]
    have e1 : ((H + 1 - 1 - y : Nat) : Int) = (H : Int) - y := by omega
    rw [e1]
    simp only []
    rw [show (H : Int) - 1 - ((y : Int) - 1) = (H : Int) - y by omega, show (H : Int) - 1 - (y : Int) = (H : Int) - y - 1 by omega]
    rw [← pointB_over, apartB_comm g ((x : Int), (H : Int) - y) ((x : Int) - 1, (H : Int) - y), apartB_comm g ((x : Int), (H : Int) - y) ((x : Int), (H : Int) - y - 1), apartB_comm g ((x : Int) - 1, (H : Int) - y - 1) ((x : Int), (H : Int) - y - 1), apartB_comm g ((x : Int) - 1, (H : Int) - y - 1) ((x : Int) - 1, (H : Int) - y)]
  rw [e]
/-- Rows made columns. -/
theorem points_swap (h : ∀ p, atG g' p = atG g (p.2, p.1)) (v : Int) : (pointsL g' H W).count v = (pointsL g W H).count v := by
  rw [ptsN_grid, ptsN_grid, sm_swap]
  refine sm_congr fun y _ => sm_congr fun x _ => ?_
  have e : pointR g' (y : Int) (x : Int) = pointR g (x : Int) (y : Int) := by
    unfold pointR
    rw [apart_turn h, apart_turn h, apart_turn h, apart_turn h]
    simp only []
    rw [← pointB_swap, apartB_comm g ((x : Int) - 1, (y : Int)) ((x : Int) - 1, (y : Int) - 1), apartB_comm g ((x : Int), (y : Int)) ((x : Int) - 1, (y : Int)), apartB_comm g ((x : Int), (y : Int) - 1) ((x : Int), (y : Int)), apartB_comm g ((x : Int) - 1, (y : Int) - 1) ((x : Int), (y : Int) - 1)]
  rw [e]

theorem num_flip (h : ∀ p, atG g' p = atG g ((W : Int) - 1 - p.1, p.2)) {l t r b : Nat} (hr : r ≤ W) (n : Int) : NumIn g' l t r b n ↔ NumIn g (W - r) t (W - l) b n := by
  constructor
  · rintro ⟨x, y, a1, a2, a3, a4, a5⟩
    refine ⟨W - 1 - x, y, by omega, by omega, a3, a4, ?_⟩
    rw [h] at a5
    rw [← a5]; congr 2; simp only []; omega
  · rintro ⟨x, y, a1, a2, a3, a4, a5⟩
    refine ⟨W - 1 - x, y, by omega, by omega, a3, a4, ?_⟩
    rw [h, ← a5]; congr 2; simp only []; omega
theorem num_over (h : ∀ p, atG g' p = atG g (p.1, (H : Int) - 1 - p.2)) {l t r b : Nat} (hb : b ≤ H) (n : Int) : NumIn g' l t r b n ↔ NumIn g l (H - b) r (H - t) n := by
  constructor
  · rintro ⟨x, y, a1, a2, a3, a4, a5⟩
    refine ⟨x, H - 1 - y, a1, a2, by omega, by omega, ?_⟩
    rw [h] at a5
    rw [← a5]; congr 2; simp only []; omega
  · rintro ⟨x, y, a1, a2, a3, a4, a5⟩
    refine ⟨x, H - 1 - y, a1, a2, by omega, by omega, ?_⟩
    rw [h, ← a5]; congr 2; simp only []; omega
theorem num_swap (h : ∀ p, atG g' p = atG g (p.2, p.1)) {l t r b : Nat} (n : Int) : NumIn g' l t r b n ↔ NumIn g t l b r n := by
  constructor
  · rintro ⟨x, y, a1, a2, a3, a4, a5⟩
    exact ⟨y, x, a3, a4, a1, a2, by rw [h] at a5; exact a5⟩
  · rintro ⟨x, y, a1, a2, a3, a4, a5⟩
    exact ⟨y, x, a3, a4, a1, a2, by rw [h]; exact a5⟩
theorem saw_flip (h : ∀ p, atG g' p = atG g ((W : Int) - 1 - p.1, p.2)) {l t r b k : Nat} (s : SawP g' l t r b k) (hr : r ≤ W) : SawP g (W - r) t (W - l) b k := by
  induction s with
  | one h1 h2 n hn => exact .one (by omega) h2 n fun m hm => hn m ((num_flip h hr m).2 hm)
  | @across l t r b j k y h1 h2 ha h3 h4 ih1 ih2 => exact .across y h1 h2 (fun n q1 q2 => ha n ((num_flip h hr n).2 q1) ((num_flip h hr n).2 q2)) (ih1 hr) (ih2 hr)
  | @upright l t r b j k x h1 h2 ha h3 h4 ih1 ih2 =>
    rw [Nat.add_comm j k]
    exact .upright (W - x) (by omega) (by omega) (fun n q1 q2 => ha n ((num_flip h (by omega) n).2 q2) ((num_flip h hr n).2 q1)) (ih2 hr) (ih1 (by omega))
theorem saw_over (h : ∀ p, atG g' p = atG g (p.1, (H : Int) - 1 - p.2)) {l t r b k : Nat} (s : SawP g' l t r b k) (hb : b ≤ H) : SawP g l (H - b) r (H - t) k := by
  induction s with
  | one h1 h2 n hn => exact .one h1 (by omega) n fun m hm => hn m ((num_over h hb m).2 hm)
  | @across l t r b j k y h1 h2 ha h3 h4 ih1 ih2 =>
    rw [Nat.add_comm j k]
    exact .across (H - y) (by omega) (by omega) (fun n q1 q2 => ha n ((num_over h (by omega) n).2 q2) ((num_over h hb n).2 q1)) (ih2 hb) (ih1 (by omega))
  | @upright l t r b j k x h1 h2 ha h3 h4 ih1 ih2 => exact .upright x h1 h2 (fun n q1 q2 => ha n ((num_over h hb n).2 q1) ((num_over h hb n).2 q2)) (ih1 hb) (ih2 hb)
theorem saw_swap (h : ∀ p, atG g' p = atG g (p.2, p.1)) {l t r b k : Nat} (s : SawP g' l t r b k) : SawP g t l b r k := by
  induction s with
  | one h1 h2 n hn => exact .one h2 h1 n fun m hm => hn m ((num_swap h m).2 hm)
  | @across l t r b j k y h1 h2 ha h3 h4 ih1 ih2 => exact .upright y h1 h2 (fun n q1 q2 => ha n ((num_swap h n).2 q1) ((num_swap h n).2 q2)) ih1 ih2
  | @upright l t r b j k x h1 h2 ha h3 h4 ih1 ih2 => exact .across x h1 h2 (fun n q1 q2 => ha n ((num_swap h n).2 q1) ((num_swap h n).2 q2)) ih1 ih2
end
end Go.Proofs.Ytogalmkeipigeaa

/- CutTurned: a picture that is turned over is like it was. -/
namespace Go.Proofs.Ytogalmkeipigeaa
open Go Go.RowKit Go.Shelf

/-- All that is used of a picture that is turned over. -/
structure TurnAll (g g' : Int × Int → Option Int) (W H W' H' : Nat) : Prop where
  turn : ∃ τ σ, Turned g g' W H W' H' τ ∧ Turned g' g W' H' W H σ ∧ (∀ p, σ (τ p) = p) ∧ (∀ p, τ (σ p) = p)
  pts : ∀ v, (pointsL g' W' H').count v = (pointsL g W H).count v
  saw : ∀ k, SawP g' 0 0 W' H' k ↔ SawP g 0 0 W H k

section
variable {g g' : Int × Int → Option Int} {W H : Nat}
theorem turned_flip (h : ∀ p, atG g' p = atG g ((W : Int) - 1 - p.1, p.2)) : Turned g g' W H W H (fun p => ((W : Int) - 1 - p.1, p.2)) where
  at_ := h
  beside p := by
    unfold besideL
    simp only [List.map_cons, List.map_nil]
    have e1 : (W : Int) - 1 - (p.1 + 1) = (W : Int) - 1 - p.1 - 1 := by omega
    have e2 : (W : Int) - 1 - (p.1 - 1) = (W : Int) - 1 - p.1 + 1 := by omega
    rw [e1, e2]
    refine .cons _ ?_
    refine (List.Perm.swap _ _ _).trans ?_
    refine .trans (.cons _ (.swap _ _ _)) ?_
    exact .swap _ _ _
  pic p hp := by
    obtain ⟨a1, a2, a3, a4⟩ := hp
    exact ⟨by simp only; omega, by simp only; omega, a3, a4⟩
  sum f := by
    refine sm_congr fun y _ => ?_
    rw [← sm_rev (fun x => f ((x : Int), (y : Int))) W]
    refine sm_congr fun x hx => ?_
    rw [show (W : Int) - 1 - (x : Int) = ((W - 1 - x : Nat) : Int) by omega]
theorem turned_over (h : ∀ p, atG g' p = atG g (p.1, (H : Int) - 1 - p.2)) : Turned g g' W H W H (fun p => (p.1, (H : Int) - 1 - p.2)) where
  at_ := h
  beside p := by
    unfold besideL
    simp only [List.map_cons, List.map_nil]
    have e1 : (H : Int) - 1 - (p.2 + 1) = (H : Int) - 1 - p.2 - 1 := by omega
    have e2 : (H : Int) - 1 - (p.2 - 1) = (H : Int) - 1 - p.2 + 1 := by omega
    rw [e1, e2]
    refine (List.Perm.swap _ _ _).trans ?_
    refine .trans (.cons _ (.swap _ _ _)) ?_
    exact .swap _ _ _
  pic p hp := by
    obtain ⟨a1, a2, a3, a4⟩ := hp
    exact ⟨a1, a2, by simp only; omega, by simp only; omega⟩
  sum f := by
    rw [← sm_rev (fun y => sm W (fun x => f ((x : Int), (y : Int)))) H]
    refine sm_congr fun y hy => sm_congr fun x _ => ?_
    rw [show (H : Int) - 1 - (y : Int) = ((H - 1 - y : Nat) : Int) by omega]
theorem turned_swap (h : ∀ p, atG g' p = atG g (p.2, p.1)) : Turned g g' W H H W (fun p => (p.2, p.1)) where
  at_ := h
  beside p := by
    unfold besideL
    simp only [List.map_cons, List.map_nil]
    -- up, right, down, left: left, down, right, up
    refine (List.Perm.swap _ _ _).trans ?_
    refine .trans (.cons _ (.cons _ (.swap _ _ _))) ?_
    refine .trans (.cons _ (.swap _ _ _)) ?_
    refine .trans (.cons _ (.cons _ (.swap _ _ _))) ?_
    refine .trans (.swap _ _ _) ?_
    exact .cons _ (.swap _ _ _)
  pic p hp := by
    obtain ⟨a1, a2, a3, a4⟩ := hp
    exact ⟨a3, a4, a1, a2⟩
  sum f := sm_swap W H (fun y x => f ((y : Int), (x : Int))) |>.trans (by rfl)
theorem all_flip (h : ∀ p, atG g' p = atG g ((W : Int) - 1 - p.1, p.2)) : TurnAll g g' W H W H := by
  have h' : ∀ p, atG g p = atG g' ((W : Int) - 1 - p.1, p.2) := fun p => by
    rw [h]
    show _ = atG g ((W : Int) - 1 - ((W : Int) - 1 - p.1), p.2)
    rw [show (W : Int) - 1 - ((W : Int) - 1 - p.1) = p.1 by omega]
  refine ⟨⟨_, _, turned_flip h, turned_flip h', fun p => ?_, fun p => ?_⟩, points_flip h, fun k => ⟨fun s => ?_, fun s => ?_⟩⟩
  · ext <;> simp only []; omega
  · ext <;> simp only []; omega
  · have := saw_flip h s (Nat.le_refl _); simpa using this
  · have := saw_flip h' s (Nat.le_refl _); simpa using this
theorem all_over (h : ∀ p, atG g' p = atG g (p.1, (H : Int) - 1 - p.2)) : TurnAll g g' W H W H := by
  have h' : ∀ p, atG g p = atG g' (p.1, (H : Int) - 1 - p.2) := fun p => by
    rw [h]
    show _ = atG g (p.1, (H : Int) - 1 - ((H : Int) - 1 - p.2))
    rw [show (H : Int) - 1 - ((H : Int) - 1 - p.2) = p.2 by omega]
  refine ⟨⟨_, _, turned_over h, turned_over h', fun p => ?_, fun p => ?_⟩, points_over h, fun k => ⟨fun s => ?_, fun s => ?_⟩⟩
  · ext <;> simp only []; omega
  · ext <;> simp only []; omega
  · have := saw_over h s (Nat.le_refl _); simpa using this
  · have := saw_over h' s (Nat.le_refl _); simpa using this
theorem all_swap (h : ∀ p, atG g' p = atG g (p.2, p.1)) : TurnAll g g' W H H W := by
  have h' : ∀ p, atG g p = atG g' (p.2, p.1) := fun p => by rw [h]
  exact ⟨⟨_, _, turned_swap h, turned_swap h', fun p => rfl, fun p => rfl⟩, points_swap h, fun k => ⟨fun s => saw_swap h s, fun s => saw_swap h' s⟩⟩
end

section
variable {W H W' H' : Nat} {zs zs' : List Int}
theorem many_turn (C : CutN W H zs) (C' : CutN W' H' zs') (A : TurnAll (laidG W zs zs.length) (laidG W' zs' zs'.length) W H W' H') : many zs' = many zs := by
  obtain ⟨τ, σ, T, S, _, _⟩ := A.turn
  have hc : ∀ n : Int, zs'.count n = zs.count n := fun n => by
    rw [← cells_count C'.w1 C'.len, ← cells_count C.w1 C.len]; exact T.cells n
  have hm : ∀ z, z ∈ zs' ↔ z ∈ zs := fun z => by rw [← List.count_pos_iff, ← List.count_pos_iff, hc]
  have := greatest_isT (m := greatest zs) C'.pos (fun z hz => (C'.num z hz).1) (fun z hz => le_greatest2 ((hm z).1 hz)) ((hm _).2 (greatest_mem C.pos fun z hz => (C.num z hz).1))
  unfold many; rw [this]
theorem check_turn (C : CutN W H zs) (C' : CutN W' H' zs') (hb : isCutB W H zs = true) (hb' : isCutB W' H' zs' = true) (A : TurnAll (laidG W zs zs.length) (laidG W' zs' zs'.length) W H W' H') : checkR W' H' zs' = checkR W H zs := by
  rw [checkR_good hb, checkR_good hb', many_turn C C' A]
  obtain ⟨τ, σ, T, S, h1, h2⟩ := A.turn
  congr 1
  funext n
  exact T.part S h1 h2 n
theorem sides_turn (C : CutN W H zs) (C' : CutN W' H' zs') (A : TurnAll (laidG W zs zs.length) (laidG W' zs' zs'.length) W H W' H') (p : Int) : sidesR W' H' zs' p = sidesR W H zs p := by
  obtain ⟨τ, σ, T, S, h1, h2⟩ := A.turn
  unfold sidesR
  rw [many_turn C C' A]
  exact sidesTo_count (fun r => T.faced p r) _
theorem lines_turn (C : CutN W H zs) (C' : CutN W' H' zs') (hb : isCutB W H zs = true) (hb' : isCutB W' H' zs' = true) (A : TurnAll (laidG W zs zs.length) (laidG W' zs' zs'.length) W H W' H') : linesR W' H' zs' = linesR W H zs := by
  have hk := check_turn C C' hb hb' A
  have hm := many_turn C C' A
  obtain ⟨τ, σ, T, S, h1, h2⟩ := A.turn
  unfold linesR
  rw [hk]
  simp only [Int.toNat_natCast]
  have e : (edgesL (laidG W' zs' zs'.length) W' H').count true = (edgesL (laidG W zs zs.length) W H).count true := by
    rw [← edges_pairs C'.grid (at_many2 C'), ← edges_pairs C.grid (at_many2 C), hm]
    exact sm_congr fun a _ => sm_congr fun b _ => T.edges a b
  rw [e, A.pts, A.pts, A.pts]
theorem ins_turn (C : CutN W H zs) (C' : CutN W' H' zs') (A : TurnAll (laidG W zs zs.length) (laidG W' zs' zs'.length) W H W' H') (p : Int) (N : Nat) : outB (laidG W' zs' zs'.length) W' H' p N = outB (laidG W zs zs.length) W H p N := by
  obtain ⟨τ, σ, T, S, h1, h2⟩ := A.turn
  exact T.out p N
theorem saw_turn (C : CutN W H zs) (C' : CutN W' H' zs') (hb : isCutB W H zs = true) (hb' : isCutB W' H' zs' = true) (A : TurnAll (laidG W zs zs.length) (laidG W' zs' zs'.length) W H W' H') : (sawR W' H' zs').2 = (sawR W H zs).2 ∧ (sawR W' H' zs').1.length = (sawR W H zs).1.length := by
  have hk := check_turn C C' hb hb' A
  unfold sawR
  rw [hk]
  by_cases h : (checkR W H zs).2 = 0
  · have hn : ¬ ((checkR W H zs).2 ≠ 0) := fun h' => h' h
    rw [if_neg hn, if_neg hn]
    simp only [Int.toNat_natCast]
    have c1 := C.w1
    have c2 := C.h1
    have d1 := C'.w1
    have d2 := C'.h1
    cases e : sawL (laidG W zs zs.length) (W * H) 0 0 W H with
    | none =>
      cases e' : sawL (laidG W' zs' zs'.length) (W' * H') 0 0 W' H' with
      | none => exact ⟨rfl, rfl⟩
      | some L' =>
        obtain ⟨L, hL⟩ := sawL_complete (f := W * H) (by simp) ((A.saw _).1 (sawL_sound (by omega) (by omega) e'))
        rw [hL] at e; cases e
    | some L =>
      have s := sawL_sound (by omega) (by omega) e
      cases e' : sawL (laidG W' zs' zs'.length) (W' * H') 0 0 W' H' with
      | none =>
        obtain ⟨L', hL⟩ := sawL_complete (f := W' * H') (by simp) ((A.saw _).2 s)
        rw [hL] at e'; cases e'
      | some L' =>
        have s' := (A.saw _).1 (sawL_sound (by omega) (by omega) e')
        have n1 := s.count C.grid (Nat.le_refl _) (Nat.le_refl _)
        have n2 := s'.count C.grid (Nat.le_refl _) (Nat.le_refl _)
        exact ⟨rfl, by show L'.length = L.length; omega⟩
  · rw [if_pos h, if_pos h]; exact ⟨rfl, rfl⟩
end
end Go.Proofs.Ytogalmkeipigeaa

/- CutTurned: the picture that is turned over, cell by cell. (Its code and frames: written by wip/tools.) -/
namespace Go.Proofs.Ytogalmkeipigeaa
open Go Go.RowKit Go.Shelf

def turnF (g : Int × Int → Option Int) (how W H : Int) (W' i : Nat) : Int := atG g (turnP how W H (((i % W' : Nat) : Int), ((i / W' : Nat) : Int)))
def turnL (g : Int × Int → Option Int) (how W H : Int) (W' m : Nat) : List Int := (List.range m).map (turnF g how W H W')
theorem turnL_succ (g : Int × Int → Option Int) (how W H : Int) (W' m : Nat) : turnL g how W H W' (m + 1) = turnL g how W H W' m ++ [turnF g how W H W' m] := by
  unfold turnL; rw [List.range_succ, List.map_append]; rfl
/-- What has been laid so far. -/
def OutRow (g : Int × Int → Option Int) (how W H : Int) (ob W' H' m : Nat) (w1 wr : World) : Prop := ∃ v, wr.heap[ob]? = some (.cells #[.int .i64 W', .int .i64 H', v] 24) ∧ wr.ownsRow w1.heap.size 3 1 v m ((turnL g how W H W' m).map (Value.int .i64)) ∧ Mod (fun b => b = ob) w1 wr
theorem OutRow.mod {g : Int × Int → Option Int} {how W H : Int} {ob W' H' m : Nat} {w1 wr wa : World} (h : OutRow g how W H ob W' H' m w1 wr) (hm : Mod noB wr wa) : OutRow g how W H ob W' H' m w1 wa := by
  obtain ⟨v, h1, h2, h3⟩ := h
  exact ⟨v, hm.at h1 id, own_mod h2 hm, h3.thenB hm⟩

@[reducible] def tu_rowBody : Code := (Code.block 2 (((Code.region 8 #[{ dst := some 27, op := Op.move (Operand.tmp 7), type := 3, pos := "outright.go:258", after := #[], guard := none }, { dst := some 28, op := Op.fieldAddr 24 (Operand.tmp 5) 0, type := 0, pos := "outright.go:258", after := #[], guard := none }, { dst := some 29, op := Op.load 3 (Operand.tmp 28), type := 3, pos := "outright.go:258", after := #[{ on := 1, ground := Ground.data }], guard := none }, { dst := some 30, op := Op.binOp BinOp.lss 3 (Operand.tmp 27) (Operand.tmp 29) 3, type := 4, pos := "outright.go:258", after := #[{ on := 0, ground := Ground.data }, { on := 2, ground := Ground.data }], guard := none }] false).seq (Code.cond (Operand.tmp 30) Code.skip (Code.exit 2))).seq ((Code.block 3 ((Code.region 10 #[{ dst := some 33, op := Op.load 24 (Operand.tmp 2), type := 24, pos := "outright.go:259", after := #[], guard := none }, { dst := some 34, op := Op.fieldAddr 24 (Operand.tmp 2) 0, type := 0, pos := "outright.go:259", after := #[], guard := none }, { dst := some 35, op := Op.load 3 (Operand.tmp 34), type := 3, pos := "outright.go:259", after := #[{ on := 1, ground := Ground.data }], guard := none }, { dst := some 36, op := Op.binOp BinOp.sub 3 (Operand.tmp 35) (Operand.const (Value.int IntKind.i64 1)) 3, type := 3, pos := "outright.go:259", after := #[{ on := 2, ground := Ground.data }], guard := none }, { dst := some 37, op := Op.move (Operand.tmp 7), type := 3, pos := "outright.go:259", after := #[], guard := none }, { dst := some 38, op := Op.binOp BinOp.sub 3 (Operand.tmp 36) (Operand.tmp 37) 3, type := 3, pos := "outright.go:259", after := #[{ on := 3, ground := Ground.data }, { on := 4, ground := Ground.data }], guard := none }, { dst := some 39, op := Op.move (Operand.tmp 6), type := 3, pos := "outright.go:259", after := #[], guard := none }, { dst := some 40, op := Op.call { callee := Callee.value (Operand.func 34), args := #[Operand.tmp 33, Operand.tmp 38, Operand.tmp 39], argTypes := #[24, 3, 3] }, type := 3, pos := "outright.go:259", after := #[{ on := 0, ground := Ground.data }, { on := 5, ground := Ground.data }, { on := 6, ground := Ground.data }], guard := none }, { dst := some 8, op := Op.assign (Operand.tmp 40), type := 3, pos := "outright.go:259", after := #[{ on := 7, ground := Ground.data }, { on := 7, ground := Ground.chain }, { on := 0, ground := Ground.phase }, { on := 1, ground := Ground.phase }, { on := 2, ground := Ground.phase }, { on := 3, ground := Ground.phase }, { on := 4, ground := Ground.phase }, { on := 5, ground := Ground.phase }, { on := 6, ground := Ground.phase }, { on := 7, ground := Ground.phase }], guard := none }] false).seq (((Code.region 11 #[{ dst := some 41, op := Op.move (Operand.tmp 1), type := 3, pos := "outright.go:260", after := #[], guard := none }, { dst := some 42, op := Op.binOp BinOp.eql 3 (Operand.tmp 41) (Operand.const (Value.int IntKind.i64 1)) 3, type := 4, pos := "outright.go:260", after := #[{ on := 0, ground := Ground.data }], guard := none }] false).seq (Code.cond (Operand.tmp 42) (Code.region 12 #[{ dst := some 43, op := Op.load 24 (Operand.tmp 2), type := 24, pos := "outright.go:261", after := #[], guard := none }, { dst := some 44, op := Op.move (Operand.tmp 7), type := 3, pos := "outright.go:261", after := #[], guard := none }, { dst := some 45, op := Op.fieldAddr 24 (Operand.tmp 2) 1, type := 0, pos := "outright.go:261", after := #[], guard := none }, { dst := some 46, op := Op.load 3 (Operand.tmp 45), type := 3, pos := "outright.go:261", after := #[{ on := 2, ground := Ground.data }], guard := none }, { dst := some 47, op := Op.binOp BinOp.sub 3 (Operand.tmp 46) (Operand.const (Value.int IntKind.i64 1)) 3, type := 3, pos := "outright.go:261", after := #[{ on := 3, ground := Ground.data }], guard := none }, { dst := some 48, op := Op.move (Operand.tmp 6), type := 3, pos := "outright.go:261", after := #[], guard := none }, { dst := some 49, op := Op.binOp BinOp.sub 3 (Operand.tmp 47) (Operand.tmp 48) 3, type := 3, pos := "outright.go:261", after := #[{ on := 4, ground := Ground.data }, { on := 5, ground := Ground.data }], guard := none }, { dst := some 50, op := Op.call { callee := Callee.value (Operand.func 34), args := #[Operand.tmp 43, Operand.tmp 44, Operand.tmp 49], argTypes := #[24, 3, 3] }, type := 3, pos := "outright.go:261", after := #[{ on := 0, ground := Ground.data }, { on := 1, ground := Ground.data }, { on := 6, ground := Ground.data }], guard := none }, { dst := some 8, op := Op.assign (Operand.tmp 50), type := 3, pos := "outright.go:261", after := #[{ on := 7, ground := Ground.data }, { on := 7, ground := Ground.chain }, { on := 0, ground := Ground.phase }, { on := 1, ground := Ground.phase }, { on := 2, ground := Ground.phase }, { on := 3, ground := Ground.phase }, { on := 4, ground := Ground.phase }, { on := 5, ground := Ground.phase }, { on := 6, ground := Ground.phase }, { on := 7, ground := Ground.phase }], guard := none }] false) Code.skip)).seq (((Code.region 13 #[{ dst := some 51, op := Op.move (Operand.tmp 1), type := 3, pos := "outright.go:263", after := #[], guard := none }, { dst := some 52, op := Op.binOp BinOp.eql 3 (Operand.tmp 51) (Operand.const (Value.int IntKind.i64 2)) 3, type := 4, pos := "outright.go:263", after := #[{ on := 0, ground := Ground.data }], guard := none }] false).seq (Code.cond (Operand.tmp 52) (Code.region 14 #[{ dst := some 53, op := Op.load 24 (Operand.tmp 2), type := 24, pos := "outright.go:264", after := #[], guard := none }, { dst := some 54, op := Op.move (Operand.tmp 6), type := 3, pos := "outright.go:264", after := #[], guard := none }, { dst := some 55, op := Op.move (Operand.tmp 7), type := 3, pos := "outright.go:264", after := #[], guard := none }, { dst := some 56, op := Op.call { callee := Callee.value (Operand.func 34), args := #[Operand.tmp 53, Operand.tmp 54, Operand.tmp 55], argTypes := #[24, 3, 3] }, type := 3, pos := "outright.go:264", after := #[{ on := 0, ground := Ground.data }, { on := 1, ground := Ground.data }, { on := 2, ground := Ground.data }], guard := none }, { dst := some 8, op := Op.assign (Operand.tmp 56), type := 3, pos := "outright.go:264", after := #[{ on := 3, ground := Ground.data }, { on := 3, ground := Ground.chain }, { on := 0, ground := Ground.phase }, { on := 1, ground := Ground.phase }, { on := 2, ground := Ground.phase }, { on := 3, ground := Ground.phase }], guard := none }] false) Code.skip)).seq (Code.region 15 #[{ dst := some 57, op := Op.fieldAddr 24 (Operand.tmp 5) 2, type := 0, pos := "outright.go:266", after := #[], guard := none }, { dst := some 58, op := Op.load 22 (Operand.tmp 57), type := 22, pos := "outright.go:266", after := #[{ on := 0, ground := Ground.data }], guard := none }, { dst := some 59, op := Op.move (Operand.tmp 8), type := 3, pos := "outright.go:266", after := #[], guard := none }, { dst := some 60, op := Op.buildSlice 22 1 #[(0, Operand.tmp 59)], type := 22, pos := "outright.go:266", after := #[{ on := 2, ground := Ground.data }], guard := none }, { dst := some 61, op := Op.call { callee := Callee.builtin Builtin.append, args := #[Operand.tmp 58, Operand.tmp 60], argTypes := #[22, 22] }, type := 22, pos := "outright.go:266", after := #[{ on := 1, ground := Ground.data }, { on := 3, ground := Ground.data }], guard := none }, { dst := some 62, op := Op.fieldAddr 24 (Operand.tmp 5) 2, type := 0, pos := "outright.go:266", after := #[{ on := 0, ground := Ground.phase }, { on := 1, ground := Ground.phase }, { on := 2, ground := Ground.phase }, { on := 3, ground := Ground.phase }, { on := 4, ground := Ground.phase }], guard := none }, { dst := none, op := Op.store 22 (Operand.tmp 62) (Operand.tmp 61), type := 0, pos := "outright.go:266", after := #[{ on := 5, ground := Ground.data }, { on := 4, ground := Ground.data }, { on := 4, ground := Ground.chain }, { on := 0, ground := Ground.phase }, { on := 1, ground := Ground.phase }, { on := 2, ground := Ground.phase }, { on := 3, ground := Ground.phase }, { on := 4, ground := Ground.phase }], guard := none }] false))))).seq (Code.region 9 #[{ dst := some 31, op := Op.move (Operand.tmp 7), type := 3, pos := "outright.go:258", after := #[], guard := none }, { dst := some 32, op := Op.binOp BinOp.add 3 (Operand.tmp 31) (Operand.const (Value.int IntKind.i64 1)) 3, type := 3, pos := "outright.go:258", after := #[{ on := 0, ground := Ground.data }], guard := none }, { dst := some 7, op := Op.assign (Operand.tmp 32), type := 3, pos := "outright.go:258", after := #[{ on := 1, ground := Ground.data }, { on := 0, ground := Ground.phase }, { on := 1, ground := Ground.phase }], guard := none }] false))).loop)

set_option maxRecDepth 100000 in
set_option maxHeartbeats 16000000 in
theorem tu_row {x0 x3 x4 x8 x9 x10 x11 x12 x13 x14 x15 x16 x17 x18 x19 x20 x21 x22 x23 x24 x25 x26 x27 x28 x29 x30 x31 x32 x33 x34 x35 x36 x37 x38 x39 x40 x41 x42 x43 x44 x45 x46 x47 x48 x49 x50 x51 x52 x53 x54 x55 x56 x57 x58 x59 x60 x61 x62 x63 : Value} (g : Int × Int → Option Int) (how : Int) (W H : Nat) (ao : Option Addr) (zs : List Int) (cap W' H' ob cb y : Nat) (w1 w2 : World) (hh : how = 0 ∨ how = 1 ∨ how = 2) (hW : W ≤ 12) (hH : H ≤ 12) (hW' : W' ≤ 12) (hH' : H' ≤ 12) (hy : y < H') (hobz0 : ob < w1.heap.size) (HFB : Hold (∀ W', Mod (fun b => b = ob) w1 W' → W'.heap[cb]? = some (.cells #[.int .i64 W, .int .i64 H, .slice ao zs.length cap] 24) ∧ IntsAt W' ao zs))
    (HA : Hold (∀ (x y : Int), (-1000 ≤ x ∧ x ≤ 1000) → (-1000 ≤ y ∧ y ≤ 1000) → ∀ W' : World, IntsAt W' ao zs → Calls Try.prog 34 #[cutV W H ao zs.length cap, .int .i64 x, .int .i64 y] W' fun e w' => e = .returned (.int .i64 (atG g (x, y))) ∧ Mod noB W' w'))
    (HR : Hold (OutRow g how W H ob W' H' (y * W') w1 w2)) :
    Code.wp Try.prog tu_rowBody (only fun a' w' => ∃ v : Nat → Value, a' = { tmps := List.toArray (x0 :: Value.int .i64 (how) :: Value.pointer (some ⟨cb, 0, none⟩) :: x3 :: x4 :: Value.pointer (some ⟨ob, 0, none⟩) :: Value.int .i64 ((y : Nat)) :: v 7 :: v 8 :: x9 :: x10 :: x11 :: x12 :: x13 :: x14 :: x15 :: x16 :: x17 :: x18 :: x19 :: x20 :: x21 :: x22 :: x23 :: x24 :: x25 :: x26 :: v 27 :: v 28 :: v 29 :: v 30 :: v 31 :: v 32 :: v 33 :: v 34 :: v 35 :: v 36 :: v 37 :: v 38 :: v 39 :: v 40 :: v 41 :: v 42 :: v 43 :: v 44 :: v 45 :: v 46 :: v 47 :: v 48 :: v 49 :: v 50 :: v 51 :: v 52 :: v 53 :: v 54 :: v 55 :: v 56 :: v 57 :: v 58 :: v 59 :: v 60 :: v 61 :: v 62 :: x63 :: []), defers := [] } ∧ (OutRow g how W H ob W' H' (y * W' + W') w1 w'))
      { tmps := List.toArray (x0 :: Value.int .i64 (how) :: Value.pointer (some ⟨cb, 0, none⟩) :: x3 :: x4 :: Value.pointer (some ⟨ob, 0, none⟩) :: Value.int .i64 ((y : Nat)) :: Value.int .i64 (0) :: x8 :: x9 :: x10 :: x11 :: x12 :: x13 :: x14 :: x15 :: x16 :: x17 :: x18 :: x19 :: x20 :: x21 :: x22 :: x23 :: x24 :: x25 :: x26 :: x27 :: x28 :: x29 :: x30 :: x31 :: x32 :: x33 :: x34 :: x35 :: x36 :: x37 :: x38 :: x39 :: x40 :: x41 :: x42 :: x43 :: x44 :: x45 :: x46 :: x47 :: x48 :: x49 :: x50 :: x51 :: x52 :: x53 :: x54 :: x55 :: x56 :: x57 :: x58 :: x59 :: x60 :: x61 :: x62 :: x63 :: []), defers := [] } w2 := by
  unfold tu_rowBody
  apply wp_block
  go_loopw [7] (fun i wr => ∃ x : Nat, x ≤ W' ∧ i = .int .i64 x ∧ Hold (OutRow g how W H ob W' H' (y * W' + x) w1 wr)) (fun i _ => W' - (intOf i).toNat)
  case atStart => exact ⟨0, Nat.zero_le _, rfl, HR⟩
  case round =>
    obtain ⟨x, hx, rfl, HQ_wr⟩ := hrel
    have HM_wr : Hold (Mod (fun b => b = ob) w1 wr) := ⟨HQ_wr.out.choose_spec.2.2⟩
    have HF_wr := Hold.mk (HFB.out wr HM_wr.out)
    have c0 := cellsAt HF_wr.out.1 0
    have c1 := cellsAt HF_wr.out.1 1
    simp at c0 c1
    have o0 : wr.cell? ⟨ob, 0, none⟩ = some (.int .i64 W') := by
      obtain ⟨v, hob, _⟩ := HQ_wr.out
      simp [World.cell?, hob]
    by_cases hx : x < W'
    · have hI : (x : Int) < (W' : Int) := by omega
      have hmm0 : y * W' + x ≤ 144 := by
        have h1 : y * W' ≤ 11 * 12 := Nat.mul_le_mul (by omega) hW'
        omega
      rcases hh with rfl | rfl | rfl
      · skip
        have HTV : Hold (turnF g 0 W H W' (y * W' + x) = atG g ((W : Int) - 1 - (x : Int), (y : Int))) := ⟨by
          unfold turnF
          rw [Nat.mul_comm y W', Nat.mul_add_mod, Nat.mod_eq_of_lt hx, Nat.mul_add_div (by omega), Nat.div_eq_of_lt hx]
          simp [turnP]⟩
        go_upto_region 15 with (first
          | (refine wpList_load_row rfl 24 (.tmp 2) rfl cb rfl 24 _ (0, 0) _ HF_wA.out.1 Try.underlying24 rfl info24T ?_)
          | (refine wpList_load_row rfl 24 (.tmp 2) rfl cb rfl 24 _ (0, 0) _ HF_wr.out.1 Try.underlying24 rfl info24T ?_)
          | (go_at_call 34; refine (HA.out _ _ (by omega) (by omega) wr HF_wr.out.2).mono ?_; rintro e wA ⟨rfl, hM⟩; clear c0 c1; have HQ_wA := Hold.mk (HQ_wr.out.mod hM); have HM_wA := Hold.mk (HM_wr.out.thenB hM); have HF_wA := Hold.mk (HFB.out wA HM_wA.out); have c0 := cellsAt HF_wA.out.1 0; have c1 := cellsAt HF_wA.out.1 1; simp at c0 c1; clear hM))
        obtain ⟨v, hob, hown, hmr⟩ := HQ_wA.out
        have o2 : wA.cell? ⟨ob, 2, none⟩ = some v := by simp [World.cell?, hob]
        obtain ⟨q, hq⟩ : ∃ q, atG g ((W : Int) - 1 - (x : Int), (y : Int)) = q := ⟨_, rfl⟩
        have HOB := Hold.mk (And.intro hob (And.intro hown hmr))
        have hmz := hmr.size
        have hobz : ob < w1.heap.size := hobz0
        have HTQ : Hold ((turnL g 0 W H W' (y * W' + x + 1)).map (Value.int .i64) = (turnL g 0 W H W' (y * W' + x)).map (Value.int .i64) ++ [.int .i64 q]) := ⟨by rw [turnL_succ, HTV.out, hq]; simp⟩
        have STEP : Hold (∀ (j : Nat) (u : Value), [Value.int .i64 q][j]? = some u → (wA.alloc (.cells #[.int .i64 q] 3)).cell? (Addr.add ⟨wA.heap.size, 0, none⟩ j) = some u) := ⟨fun j u hj => by
          have hnw := World.alloc_heap_new wA (.cells #[.int .i64 q] 3)
          have ea : Addr.add ⟨wA.heap.size, 0, none⟩ j = ⟨wA.heap.size, j, none⟩ := by simp [Addr.add]; omega
          rw [ea]
          simp only [World.cell?, hnw]
          rcases j with _ | j
          · simpa using hj
          · simp at hj⟩
        have AFTER : Hold (∀ (v' : Value) (wa : World), wa.ownsRow w1.heap.size 3 1 v' (y * W' + x + 1) ((turnL g 0 W H W' (y * W' + x)).map (Value.int .i64) ++ [.int .i64 q]) → (wA.alloc (.cells #[.int .i64 q] 3)).grownBy wa v.ownBlock →
            wa.heap[ob]? = some (.cells #[.int .i64 W', .int .i64 H', v] 24) ∧ OutRow g 0 W H ob W' H' (y * W' + x + 1) w1 (wa.setCell ⟨ob, 2, none⟩ v')) := ⟨fun v' wa hown' hgr => by
          obtain ⟨hob, hown, hmr⟩ := HOB.out
          have hm1 : Mod (fun b => w1.heap.size ≤ b) wA wa := ((Mod.refl _ wA).alloc _).trans (Mod.of_grownBy hgr (fun r hr _ => own_ge hown hr))
          have hoba := hm1.at hob (by omega)
          refine ⟨hoba, v', by have := setCell_at hoba 2 v'; simpa using this, ?_, ?_⟩
          · rw [HTQ.out]; exact ownsRow_setCell_below hown' (by show ob < _; omega) _
          · exact (hmr.then hm1 (fun i h1 h2 => absurd h1 (Nat.not_lt.2 h2))).setCell (p := ⟨ob, 2, none⟩) (fun _ => rfl) _⟩
        obtain ⟨i0, hi, hz0, hz1', hz2'⟩ := info_parts info3
        have hmm : y * W' + x ≤ 144 := hmm0
        rw [hq]
        clear hob hown hmr hq c0 c1
        go_wp2_with (at_builtin; refine wpList_append_own _ rfl (.tmp 58) (.tmp 60) 22 rfl w1.heap.size 3 i0 (.int .i64 0) 1 8 Try.underlying22 hi hz0 hz1' hz2' rfl (by decide) _ _ _ rfl (HOB.out.2.1.alloc _) ⟨wA.heap.size, 0, none⟩ 1 1 [.int .i64 q] rfl rfl (STEP.out) (by simp [Value.oneCell']) (by unfold maxLen; omega) (by omega) (by simp; omega) ?_; intro v' wa hown' hgr _; obtain ⟨sa, sc, rfl⟩ := own_slice hown'; have HW := Hold.mk (AFTER.out _ wa hown' hgr).2; have hoba := (AFTER.out _ wa hown' hgr).1; have o2' : wa.cell? ⟨ob, 2, none⟩ = some v := (by simp [World.cell?, hoba]); have q2' := cells_frozen hoba 2; clear hown' hgr hoba)
        go_roundw
        case rel => exact ⟨x + 1, by omega, by go_num, HW⟩
        case measure => simp [intOf]; omega
      · skip
        have HTV : Hold (turnF g 1 W H W' (y * W' + x) = atG g ((x : Int), (H : Int) - 1 - (y : Int))) := ⟨by
          unfold turnF
          rw [Nat.mul_comm y W', Nat.mul_add_mod, Nat.mod_eq_of_lt hx, Nat.mul_add_div (by omega), Nat.div_eq_of_lt hx]
          simp [turnP]⟩
        go_upto_region 15 with (first
          | (refine wpList_load_row rfl 24 (.tmp 2) rfl cb rfl 24 _ (0, 0) _ HF_wB.out.1 Try.underlying24 rfl info24T ?_)
          | (refine wpList_load_row rfl 24 (.tmp 2) rfl cb rfl 24 _ (0, 0) _ HF_wA.out.1 Try.underlying24 rfl info24T ?_)
          | (refine wpList_load_row rfl 24 (.tmp 2) rfl cb rfl 24 _ (0, 0) _ HF_wr.out.1 Try.underlying24 rfl info24T ?_)
          | (go_at_call 34; refine (HA.out _ _ (by omega) (by omega) wA HF_wA.out.2).mono ?_; rintro e wB ⟨rfl, hM⟩; clear c0 c1; have HQ_wB := Hold.mk (HQ_wA.out.mod hM); have HM_wB := Hold.mk (HM_wA.out.thenB hM); have HF_wB := Hold.mk (HFB.out wB HM_wB.out); have c0 := cellsAt HF_wB.out.1 0; have c1 := cellsAt HF_wB.out.1 1; simp at c0 c1; clear hM)
          | (go_at_call 34; refine (HA.out _ _ (by omega) (by omega) wr HF_wr.out.2).mono ?_; rintro e wA ⟨rfl, hM⟩; clear c0 c1; have HQ_wA := Hold.mk (HQ_wr.out.mod hM); have HM_wA := Hold.mk (HM_wr.out.thenB hM); have HF_wA := Hold.mk (HFB.out wA HM_wA.out); have c0 := cellsAt HF_wA.out.1 0; have c1 := cellsAt HF_wA.out.1 1; simp at c0 c1; clear hM))
        obtain ⟨v, hob, hown, hmr⟩ := HQ_wB.out
        have o2 : wB.cell? ⟨ob, 2, none⟩ = some v := by simp [World.cell?, hob]
        obtain ⟨q, hq⟩ : ∃ q, atG g ((x : Int), (H : Int) - 1 - (y : Int)) = q := ⟨_, rfl⟩
        have HOB := Hold.mk (And.intro hob (And.intro hown hmr))
        have hmz := hmr.size
        have hobz : ob < w1.heap.size := hobz0
        have HTQ : Hold ((turnL g 1 W H W' (y * W' + x + 1)).map (Value.int .i64) = (turnL g 1 W H W' (y * W' + x)).map (Value.int .i64) ++ [.int .i64 q]) := ⟨by rw [turnL_succ, HTV.out, hq]; simp⟩
        have STEP : Hold (∀ (j : Nat) (u : Value), [Value.int .i64 q][j]? = some u → (wB.alloc (.cells #[.int .i64 q] 3)).cell? (Addr.add ⟨wB.heap.size, 0, none⟩ j) = some u) := ⟨fun j u hj => by
          have hnw := World.alloc_heap_new wB (.cells #[.int .i64 q] 3)
          have ea : Addr.add ⟨wB.heap.size, 0, none⟩ j = ⟨wB.heap.size, j, none⟩ := by simp [Addr.add]; omega
          rw [ea]
          simp only [World.cell?, hnw]
          rcases j with _ | j
          · simpa using hj
          · simp at hj⟩
        have AFTER : Hold (∀ (v' : Value) (wa : World), wa.ownsRow w1.heap.size 3 1 v' (y * W' + x + 1) ((turnL g 1 W H W' (y * W' + x)).map (Value.int .i64) ++ [.int .i64 q]) → (wB.alloc (.cells #[.int .i64 q] 3)).grownBy wa v.ownBlock →
            wa.heap[ob]? = some (.cells #[.int .i64 W', .int .i64 H', v] 24) ∧ OutRow g 1 W H ob W' H' (y * W' + x + 1) w1 (wa.setCell ⟨ob, 2, none⟩ v')) := ⟨fun v' wa hown' hgr => by
          obtain ⟨hob, hown, hmr⟩ := HOB.out
          have hm1 : Mod (fun b => w1.heap.size ≤ b) wB wa := ((Mod.refl _ wB).alloc _).trans (Mod.of_grownBy hgr (fun r hr _ => own_ge hown hr))
          have hoba := hm1.at hob (by omega)
          refine ⟨hoba, v', by have := setCell_at hoba 2 v'; simpa using this, ?_, ?_⟩
          · rw [HTQ.out]; exact ownsRow_setCell_below hown' (by show ob < _; omega) _
          · exact (hmr.then hm1 (fun i h1 h2 => absurd h1 (Nat.not_lt.2 h2))).setCell (p := ⟨ob, 2, none⟩) (fun _ => rfl) _⟩
        obtain ⟨i0, hi, hz0, hz1', hz2'⟩ := info_parts info3
        have hmm : y * W' + x ≤ 144 := hmm0
        rw [hq]
        clear hob hown hmr hq c0 c1
        go_wp2_with (at_builtin; refine wpList_append_own _ rfl (.tmp 58) (.tmp 60) 22 rfl w1.heap.size 3 i0 (.int .i64 0) 1 8 Try.underlying22 hi hz0 hz1' hz2' rfl (by decide) _ _ _ rfl (HOB.out.2.1.alloc _) ⟨wB.heap.size, 0, none⟩ 1 1 [.int .i64 q] rfl rfl (STEP.out) (by simp [Value.oneCell']) (by unfold maxLen; omega) (by omega) (by simp; omega) ?_; intro v' wa hown' hgr _; obtain ⟨sa, sc, rfl⟩ := own_slice hown'; have HW := Hold.mk (AFTER.out _ wa hown' hgr).2; have hoba := (AFTER.out _ wa hown' hgr).1; have o2' : wa.cell? ⟨ob, 2, none⟩ = some v := (by simp [World.cell?, hoba]); have q2' := cells_frozen hoba 2; clear hown' hgr hoba)
        go_roundw
        case rel => exact ⟨x + 1, by omega, by go_num, HW⟩
        case measure => simp [intOf]; omega
      · skip
        have HTV : Hold (turnF g 2 W H W' (y * W' + x) = atG g ((y : Int), (x : Int))) := ⟨by
          unfold turnF
          rw [Nat.mul_comm y W', Nat.mul_add_mod, Nat.mod_eq_of_lt hx, Nat.mul_add_div (by omega), Nat.div_eq_of_lt hx]
          simp [turnP]⟩
        go_upto_region 15 with (first
          | (refine wpList_load_row rfl 24 (.tmp 2) rfl cb rfl 24 _ (0, 0) _ HF_wB.out.1 Try.underlying24 rfl info24T ?_)
          | (refine wpList_load_row rfl 24 (.tmp 2) rfl cb rfl 24 _ (0, 0) _ HF_wA.out.1 Try.underlying24 rfl info24T ?_)
          | (refine wpList_load_row rfl 24 (.tmp 2) rfl cb rfl 24 _ (0, 0) _ HF_wr.out.1 Try.underlying24 rfl info24T ?_)
          | (go_at_call 34; refine (HA.out _ _ (by omega) (by omega) wA HF_wA.out.2).mono ?_; rintro e wB ⟨rfl, hM⟩; clear c0 c1; have HQ_wB := Hold.mk (HQ_wA.out.mod hM); have HM_wB := Hold.mk (HM_wA.out.thenB hM); have HF_wB := Hold.mk (HFB.out wB HM_wB.out); have c0 := cellsAt HF_wB.out.1 0; have c1 := cellsAt HF_wB.out.1 1; simp at c0 c1; clear hM)
          | (go_at_call 34; refine (HA.out _ _ (by omega) (by omega) wr HF_wr.out.2).mono ?_; rintro e wA ⟨rfl, hM⟩; clear c0 c1; have HQ_wA := Hold.mk (HQ_wr.out.mod hM); have HM_wA := Hold.mk (HM_wr.out.thenB hM); have HF_wA := Hold.mk (HFB.out wA HM_wA.out); have c0 := cellsAt HF_wA.out.1 0; have c1 := cellsAt HF_wA.out.1 1; simp at c0 c1; clear hM))
        obtain ⟨v, hob, hown, hmr⟩ := HQ_wB.out
        have o2 : wB.cell? ⟨ob, 2, none⟩ = some v := by simp [World.cell?, hob]
        obtain ⟨q, hq⟩ : ∃ q, atG g ((y : Int), (x : Int)) = q := ⟨_, rfl⟩
        have HOB := Hold.mk (And.intro hob (And.intro hown hmr))
        have hmz := hmr.size
        have hobz : ob < w1.heap.size := hobz0
        have HTQ : Hold ((turnL g 2 W H W' (y * W' + x + 1)).map (Value.int .i64) = (turnL g 2 W H W' (y * W' + x)).map (Value.int .i64) ++ [.int .i64 q]) := ⟨by rw [turnL_succ, HTV.out, hq]; simp⟩
        have STEP : Hold (∀ (j : Nat) (u : Value), [Value.int .i64 q][j]? = some u → (wB.alloc (.cells #[.int .i64 q] 3)).cell? (Addr.add ⟨wB.heap.size, 0, none⟩ j) = some u) := ⟨fun j u hj => by
          have hnw := World.alloc_heap_new wB (.cells #[.int .i64 q] 3)
          have ea : Addr.add ⟨wB.heap.size, 0, none⟩ j = ⟨wB.heap.size, j, none⟩ := by simp [Addr.add]; omega
          rw [ea]
          simp only [World.cell?, hnw]
          rcases j with _ | j
          · simpa using hj
          · simp at hj⟩
        have AFTER : Hold (∀ (v' : Value) (wa : World), wa.ownsRow w1.heap.size 3 1 v' (y * W' + x + 1) ((turnL g 2 W H W' (y * W' + x)).map (Value.int .i64) ++ [.int .i64 q]) → (wB.alloc (.cells #[.int .i64 q] 3)).grownBy wa v.ownBlock →
            wa.heap[ob]? = some (.cells #[.int .i64 W', .int .i64 H', v] 24) ∧ OutRow g 2 W H ob W' H' (y * W' + x + 1) w1 (wa.setCell ⟨ob, 2, none⟩ v')) := ⟨fun v' wa hown' hgr => by
          obtain ⟨hob, hown, hmr⟩ := HOB.out
          have hm1 : Mod (fun b => w1.heap.size ≤ b) wB wa := ((Mod.refl _ wB).alloc _).trans (Mod.of_grownBy hgr (fun r hr _ => own_ge hown hr))
          have hoba := hm1.at hob (by omega)
          refine ⟨hoba, v', by have := setCell_at hoba 2 v'; simpa using this, ?_, ?_⟩
          · rw [HTQ.out]; exact ownsRow_setCell_below hown' (by show ob < _; omega) _
          · exact (hmr.then hm1 (fun i h1 h2 => absurd h1 (Nat.not_lt.2 h2))).setCell (p := ⟨ob, 2, none⟩) (fun _ => rfl) _⟩
        obtain ⟨i0, hi, hz0, hz1', hz2'⟩ := info_parts info3
        have hmm : y * W' + x ≤ 144 := hmm0
        rw [hq]
        clear hob hown hmr hq c0 c1
        go_wp2_with (at_builtin; refine wpList_append_own _ rfl (.tmp 58) (.tmp 60) 22 rfl w1.heap.size 3 i0 (.int .i64 0) 1 8 Try.underlying22 hi hz0 hz1' hz2' rfl (by decide) _ _ _ rfl (HOB.out.2.1.alloc _) ⟨wB.heap.size, 0, none⟩ 1 1 [.int .i64 q] rfl rfl (STEP.out) (by simp [Value.oneCell']) (by unfold maxLen; omega) (by omega) (by simp; omega) ?_; intro v' wa hown' hgr _; obtain ⟨sa, sc, rfl⟩ := own_slice hown'; have HW := Hold.mk (AFTER.out _ wa hown' hgr).2; have hoba := (AFTER.out _ wa hown' hgr).1; have o2' : wa.cell? ⟨ob, 2, none⟩ = some v := (by simp [World.cell?, hoba]); have q2' := cells_frozen hoba 2; clear hown' hgr hoba)
        go_roundw
        case rel => exact ⟨x + 1, by omega, by go_num, HW⟩
        case measure => simp [intOf]; omega
    · obtain rfl : x = W' := by omega
      go_wp2
      first | exact ⟨rfl, end_frame _ _ _ rfl HQ_wr.out⟩ | exact ⟨rfl, end_frame2 _ _ rfl, HQ_wr.out⟩

end Go.Proofs.Ytogalmkeipigeaa

/- CutTurned: the picture that is turned over. (Its code and frame: written by wip/tools.) -/
namespace Go.Proofs.Ytogalmkeipigeaa
open Go Go.RowKit Go.Shelf

@[reducible] def tu_allBody : Code := (Code.block 0 (((Code.region 5 #[{ dst := some 21, op := Op.move (Operand.tmp 6), type := 3, pos := "outright.go:257", after := #[], guard := none }, { dst := some 22, op := Op.fieldAddr 24 (Operand.tmp 5) 1, type := 0, pos := "outright.go:257", after := #[], guard := none }, { dst := some 23, op := Op.load 3 (Operand.tmp 22), type := 3, pos := "outright.go:257", after := #[{ on := 1, ground := Ground.data }], guard := none }, { dst := some 24, op := Op.binOp BinOp.lss 3 (Operand.tmp 21) (Operand.tmp 23) 3, type := 4, pos := "outright.go:257", after := #[{ on := 0, ground := Ground.data }, { on := 2, ground := Ground.data }], guard := none }] false).seq (Code.cond (Operand.tmp 24) Code.skip (Code.exit 0))).seq ((Code.block 1 ((Code.region 7 #[{ dst := some 7, op := Op.assign (Operand.const (Value.int IntKind.i64 0)), type := 3, pos := "outright.go:258", after := #[], guard := none }] false).seq (Code.block 2 (((Code.region 8 #[{ dst := some 27, op := Op.move (Operand.tmp 7), type := 3, pos := "outright.go:258", after := #[], guard := none }, { dst := some 28, op := Op.fieldAddr 24 (Operand.tmp 5) 0, type := 0, pos := "outright.go:258", after := #[], guard := none }, { dst := some 29, op := Op.load 3 (Operand.tmp 28), type := 3, pos := "outright.go:258", after := #[{ on := 1, ground := Ground.data }], guard := none }, { dst := some 30, op := Op.binOp BinOp.lss 3 (Operand.tmp 27) (Operand.tmp 29) 3, type := 4, pos := "outright.go:258", after := #[{ on := 0, ground := Ground.data }, { on := 2, ground := Ground.data }], guard := none }] false).seq (Code.cond (Operand.tmp 30) Code.skip (Code.exit 2))).seq ((Code.block 3 ((Code.region 10 #[{ dst := some 33, op := Op.load 24 (Operand.tmp 2), type := 24, pos := "outright.go:259", after := #[], guard := none }, { dst := some 34, op := Op.fieldAddr 24 (Operand.tmp 2) 0, type := 0, pos := "outright.go:259", after := #[], guard := none }, { dst := some 35, op := Op.load 3 (Operand.tmp 34), type := 3, pos := "outright.go:259", after := #[{ on := 1, ground := Ground.data }], guard := none }, { dst := some 36, op := Op.binOp BinOp.sub 3 (Operand.tmp 35) (Operand.const (Value.int IntKind.i64 1)) 3, type := 3, pos := "outright.go:259", after := #[{ on := 2, ground := Ground.data }], guard := none }, { dst := some 37, op := Op.move (Operand.tmp 7), type := 3, pos := "outright.go:259", after := #[], guard := none }, { dst := some 38, op := Op.binOp BinOp.sub 3 (Operand.tmp 36) (Operand.tmp 37) 3, type := 3, pos := "outright.go:259", after := #[{ on := 3, ground := Ground.data }, { on := 4, ground := Ground.data }], guard := none }, { dst := some 39, op := Op.move (Operand.tmp 6), type := 3, pos := "outright.go:259", after := #[], guard := none }, { dst := some 40, op := Op.call { callee := Callee.value (Operand.func 34), args := #[Operand.tmp 33, Operand.tmp 38, Operand.tmp 39], argTypes := #[24, 3, 3] }, type := 3, pos := "outright.go:259", after := #[{ on := 0, ground := Ground.data }, { on := 5, ground := Ground.data }, { on := 6, ground := Ground.data }], guard := none }, { dst := some 8, op := Op.assign (Operand.tmp 40), type := 3, pos := "outright.go:259", after := #[{ on := 7, ground := Ground.data }, { on := 7, ground := Ground.chain }, { on := 0, ground := Ground.phase }, { on := 1, ground := Ground.phase }, { on := 2, ground := Ground.phase }, { on := 3, ground := Ground.phase }, { on := 4, ground := Ground.phase }, { on := 5, ground := Ground.phase }, { on := 6, ground := Ground.phase }, { on := 7, ground := Ground.phase }], guard := none }] false).seq (((Code.region 11 #[{ dst := some 41, op := Op.move (Operand.tmp 1), type := 3, pos := "outright.go:260", after := #[], guard := none }, { dst := some 42, op := Op.binOp BinOp.eql 3 (Operand.tmp 41) (Operand.const (Value.int IntKind.i64 1)) 3, type := 4, pos := "outright.go:260", after := #[{ on := 0, ground := Ground.data }], guard := none }] false).seq (Code.cond (Operand.tmp 42) (Code.region 12 #[{ dst := some 43, op := Op.load 24 (Operand.tmp 2), type := 24, pos := "outright.go:261", after := #[], guard := none }, { dst := some 44, op := Op.move (Operand.tmp 7), type := 3, pos := "outright.go:261", after := #[], guard := none }, { dst := some 45, op := Op.fieldAddr 24 (Operand.tmp 2) 1, type := 0, pos := "outright.go:261", after := #[], guard := none }, { dst := some 46, op := Op.load 3 (Operand.tmp 45), type := 3, pos := "outright.go:261", after := #[{ on := 2, ground := Ground.data }], guard := none }, { dst := some 47, op := Op.binOp BinOp.sub 3 (Operand.tmp 46) (Operand.const (Value.int IntKind.i64 1)) 3, type := 3, pos := "outright.go:261", after := #[{ on := 3, ground := Ground.data }], guard := none }, { dst := some 48, op := Op.move (Operand.tmp 6), type := 3, pos := "outright.go:261", after := #[], guard := none }, { dst := some 49, op := Op.binOp BinOp.sub 3 (Operand.tmp 47) (Operand.tmp 48) 3, type := 3, pos := "outright.go:261", after := #[{ on := 4, ground := Ground.data }, { on := 5, ground := Ground.data }], guard := none }, { dst := some 50, op := Op.call { callee := Callee.value (Operand.func 34), args := #[Operand.tmp 43, Operand.tmp 44, Operand.tmp 49], argTypes := #[24, 3, 3] }, type := 3, pos := "outright.go:261", after := #[{ on := 0, ground := Ground.data }, { on := 1, ground := Ground.data }, { on := 6, ground := Ground.data }], guard := none }, { dst := some 8, op := Op.assign (Operand.tmp 50), type := 3, pos := "outright.go:261", after := #[{ on := 7, ground := Ground.data }, { on := 7, ground := Ground.chain }, { on := 0, ground := Ground.phase }, { on := 1, ground := Ground.phase }, { on := 2, ground := Ground.phase }, { on := 3, ground := Ground.phase }, { on := 4, ground := Ground.phase }, { on := 5, ground := Ground.phase }, { on := 6, ground := Ground.phase }, { on := 7, ground := Ground.phase }], guard := none }] false) Code.skip)).seq (((Code.region 13 #[{ dst := some 51, op := Op.move (Operand.tmp 1), type := 3, pos := "outright.go:263", after := #[], guard := none }, { dst := some 52, op := Op.binOp BinOp.eql 3 (Operand.tmp 51) (Operand.const (Value.int IntKind.i64 2)) 3, type := 4, pos := "outright.go:263", after := #[{ on := 0, ground := Ground.data }], guard := none }] false).seq (Code.cond (Operand.tmp 52) (Code.region 14 #[{ dst := some 53, op := Op.load 24 (Operand.tmp 2), type := 24, pos := "outright.go:264", after := #[], guard := none }, { dst := some 54, op := Op.move (Operand.tmp 6), type := 3, pos := "outright.go:264", after := #[], guard := none }, { dst := some 55, op := Op.move (Operand.tmp 7), type := 3, pos := "outright.go:264", after := #[], guard := none }, { dst := some 56, op := Op.call { callee := Callee.value (Operand.func 34), args := #[Operand.tmp 53, Operand.tmp 54, Operand.tmp 55], argTypes := #[24, 3, 3] }, type := 3, pos := "outright.go:264", after := #[{ on := 0, ground := Ground.data }, { on := 1, ground := Ground.data }, { on := 2, ground := Ground.data }], guard := none }, { dst := some 8, op := Op.assign (Operand.tmp 56), type := 3, pos := "outright.go:264", after := #[{ on := 3, ground := Ground.data }, { on := 3, ground := Ground.chain }, { on := 0, ground := Ground.phase }, { on := 1, ground := Ground.phase }, { on := 2, ground := Ground.phase }, { on := 3, ground := Ground.phase }], guard := none }] false) Code.skip)).seq (Code.region 15 #[{ dst := some 57, op := Op.fieldAddr 24 (Operand.tmp 5) 2, type := 0, pos := "outright.go:266", after := #[], guard := none }, { dst := some 58, op := Op.load 22 (Operand.tmp 57), type := 22, pos := "outright.go:266", after := #[{ on := 0, ground := Ground.data }], guard := none }, { dst := some 59, op := Op.move (Operand.tmp 8), type := 3, pos := "outright.go:266", after := #[], guard := none }, { dst := some 60, op := Op.buildSlice 22 1 #[(0, Operand.tmp 59)], type := 22, pos := "outright.go:266", after := #[{ on := 2, ground := Ground.data }], guard := none }, { dst := some 61, op := Op.call { callee := Callee.builtin Builtin.append, args := #[Operand.tmp 58, Operand.tmp 60], argTypes := #[22, 22] }, type := 22, pos := "outright.go:266", after := #[{ on := 1, ground := Ground.data }, { on := 3, ground := Ground.data }], guard := none }, { dst := some 62, op := Op.fieldAddr 24 (Operand.tmp 5) 2, type := 0, pos := "outright.go:266", after := #[{ on := 0, ground := Ground.phase }, { on := 1, ground := Ground.phase }, { on := 2, ground := Ground.phase }, { on := 3, ground := Ground.phase }, { on := 4, ground := Ground.phase }], guard := none }, { dst := none, op := Op.store 22 (Operand.tmp 62) (Operand.tmp 61), type := 0, pos := "outright.go:266", after := #[{ on := 5, ground := Ground.data }, { on := 4, ground := Ground.data }, { on := 4, ground := Ground.chain }, { on := 0, ground := Ground.phase }, { on := 1, ground := Ground.phase }, { on := 2, ground := Ground.phase }, { on := 3, ground := Ground.phase }, { on := 4, ground := Ground.phase }], guard := none }] false))))).seq (Code.region 9 #[{ dst := some 31, op := Op.move (Operand.tmp 7), type := 3, pos := "outright.go:258", after := #[], guard := none }, { dst := some 32, op := Op.binOp BinOp.add 3 (Operand.tmp 31) (Operand.const (Value.int IntKind.i64 1)) 3, type := 3, pos := "outright.go:258", after := #[{ on := 0, ground := Ground.data }], guard := none }, { dst := some 7, op := Op.assign (Operand.tmp 32), type := 3, pos := "outright.go:258", after := #[{ on := 1, ground := Ground.data }, { on := 0, ground := Ground.phase }, { on := 1, ground := Ground.phase }], guard := none }] false))).loop))).seq (Code.region 6 #[{ dst := some 25, op := Op.move (Operand.tmp 6), type := 3, pos := "outright.go:257", after := #[], guard := none }, { dst := some 26, op := Op.binOp BinOp.add 3 (Operand.tmp 25) (Operand.const (Value.int IntKind.i64 1)) 3, type := 3, pos := "outright.go:257", after := #[{ on := 0, ground := Ground.data }], guard := none }, { dst := some 6, op := Op.assign (Operand.tmp 26), type := 3, pos := "outright.go:257", after := #[{ on := 1, ground := Ground.data }, { on := 0, ground := Ground.phase }, { on := 1, ground := Ground.phase }], guard := none }] false))).loop)

set_option maxRecDepth 100000 in
set_option maxHeartbeats 16000000 in
theorem tu_all {x0 x3 x4 x7 x8 x9 x10 x11 x12 x13 x14 x15 x16 x17 x18 x19 x20 x21 x22 x23 x24 x25 x26 x27 x28 x29 x30 x31 x32 x33 x34 x35 x36 x37 x38 x39 x40 x41 x42 x43 x44 x45 x46 x47 x48 x49 x50 x51 x52 x53 x54 x55 x56 x57 x58 x59 x60 x61 x62 x63 : Value} (g : Int × Int → Option Int) (how : Int) (W H : Nat) (ao : Option Addr) (zs : List Int) (cap W' H' ob cb : Nat) (w1 : World) (hh : how = 0 ∨ how = 1 ∨ how = 2) (hW : W ≤ 12) (hH : H ≤ 12) (hW' : W' ≤ 12) (hH' : H' ≤ 12) (hobz0 : ob < w1.heap.size) (HFB : Hold (∀ W', Mod (fun b => b = ob) w1 W' → W'.heap[cb]? = some (.cells #[.int .i64 W, .int .i64 H, .slice ao zs.length cap] 24) ∧ IntsAt W' ao zs))
    (HA : Hold (∀ (x y : Int), (-1000 ≤ x ∧ x ≤ 1000) → (-1000 ≤ y ∧ y ≤ 1000) → ∀ W' : World, IntsAt W' ao zs → Calls Try.prog 34 #[cutV W H ao zs.length cap, .int .i64 x, .int .i64 y] W' fun e w' => e = .returned (.int .i64 (atG g (x, y))) ∧ Mod noB W' w'))
    (HR : Hold (OutRow g how W H ob W' H' 0 w1 w1)) :
    Code.wp Try.prog tu_allBody (only fun a' w' => ∃ v : Nat → Value, a' = { tmps := List.toArray (x0 :: Value.int .i64 (how) :: Value.pointer (some ⟨cb, 0, none⟩) :: x3 :: x4 :: Value.pointer (some ⟨ob, 0, none⟩) :: v 6 :: v 7 :: v 8 :: x9 :: x10 :: x11 :: x12 :: x13 :: x14 :: x15 :: x16 :: x17 :: x18 :: x19 :: x20 :: v 21 :: v 22 :: v 23 :: v 24 :: v 25 :: v 26 :: v 27 :: v 28 :: v 29 :: v 30 :: v 31 :: v 32 :: v 33 :: v 34 :: v 35 :: v 36 :: v 37 :: v 38 :: v 39 :: v 40 :: v 41 :: v 42 :: v 43 :: v 44 :: v 45 :: v 46 :: v 47 :: v 48 :: v 49 :: v 50 :: v 51 :: v 52 :: v 53 :: v 54 :: v 55 :: v 56 :: v 57 :: v 58 :: v 59 :: v 60 :: v 61 :: v 62 :: x63 :: []), defers := [] } ∧ (OutRow g how W H ob W' H' (H' * W') w1 w'))
      { tmps := List.toArray (x0 :: Value.int .i64 (how) :: Value.pointer (some ⟨cb, 0, none⟩) :: x3 :: x4 :: Value.pointer (some ⟨ob, 0, none⟩) :: Value.int .i64 (0) :: x7 :: x8 :: x9 :: x10 :: x11 :: x12 :: x13 :: x14 :: x15 :: x16 :: x17 :: x18 :: x19 :: x20 :: x21 :: x22 :: x23 :: x24 :: x25 :: x26 :: x27 :: x28 :: x29 :: x30 :: x31 :: x32 :: x33 :: x34 :: x35 :: x36 :: x37 :: x38 :: x39 :: x40 :: x41 :: x42 :: x43 :: x44 :: x45 :: x46 :: x47 :: x48 :: x49 :: x50 :: x51 :: x52 :: x53 :: x54 :: x55 :: x56 :: x57 :: x58 :: x59 :: x60 :: x61 :: x62 :: x63 :: []), defers := [] } w1 := by
  unfold tu_allBody
  apply wp_block
  go_loopw [6] (fun i wr => ∃ y : Nat, y ≤ H' ∧ i = .int .i64 y ∧ Hold (OutRow g how W H ob W' H' (y * W') w1 wr)) (fun i _ => H' - (intOf i).toNat)
  case atStart => exact ⟨0, Nat.zero_le _, rfl, ⟨by rw [Nat.zero_mul]; exact HR.out⟩⟩
  case round =>
    obtain ⟨y, hy, rfl, HQ⟩ := hrel
    have o1 : wr.cell? ⟨ob, 1, none⟩ = some (.int .i64 H') := by
      obtain ⟨v, hob, _⟩ := HQ.out
      simp [World.cell?, hob]
    by_cases hyl : y < H'
    · have hI : (y : Int) < (H' : Int) := by omega
      go_upto_block 2 with fail
      refine wp_mono (tu_row g how W H ao zs cap W' H' ob cb y w1 wr hh hW hH hW' hH' hyl hobz0 HFB HA HQ) (blk_only ?_)
      rintro a' w3 ⟨v, rfl, ho⟩
      have HQ3 : Hold (OutRow g how W H ob W' H' ((y + 1) * W') w1 w3) := ⟨by rw [Nat.succ_mul]; exact ho⟩
      clear ho o1
      go_wp2
      go_roundw
      case rel => exact ⟨y + 1, by omega, by go_num, HQ3⟩
      case measure => simp [intOf]; omega
    · obtain rfl : y = H' := by omega
      go_wp2
      first | exact ⟨rfl, end_frame _ _ _ rfl HQ.out⟩ | exact ⟨rfl, end_frame2 _ _ rfl, HQ.out⟩

set_option maxRecDepth 100000 in
set_option maxHeartbeats 4000000 in
theorem turned_any {W H : Nat} {zs : List Int} (C : CutN W H zs) (ao : Option Addr) (cap : Nat) (how : Int) (hh : how = 0 ∨ how = 1 ∨ how = 2) (W' H' : Nat) (hs2 : (how = 2 → W' = H ∧ H' = W) ∧ (how ≠ 2 → W' = W ∧ H' = H)) (w : World) (hs : IntsAt w ao zs) :
    Calls Try.prog 36 #[cutV W H ao zs.length cap, .int .i64 how] w fun e w' => ∃ xo xcap, e = .returned (cutV W' H' xo (H' * W') xcap) ∧ IntsAt w' xo (turnL (laidG W zs zs.length) how W H W' (H' * W')) ∧ Mod noB w w' := by
  have HB := Hold.mk (box_facts (W := W) (H := H) (cap := cap) hs)
  obtain ⟨g, hg⟩ : ∃ g, laidG W zs zs.length = g := ⟨_, rfl⟩
  have HA : Hold (∀ (x y : Int), (-1000 ≤ x ∧ x ≤ 1000) → (-1000 ≤ y ∧ y ≤ 1000) → ∀ W' : World, IntsAt W' ao zs → Calls Try.prog 34 #[cutV W H ao zs.length cap, .int .i64 x, .int .i64 y] W' fun e w' => e = .returned (.int .i64 (atG g (x, y))) ∧ Mod noB W' w') := ⟨fun x y hx hy W' hi => by rw [← hg]; exact refAt_any C ao cap x y hx hy W' hi⟩
  have hW := C.w2
  have hH := C.h2
  rw [hg]
  clear hg C
  have HS := Hold.mk hs
  clear hs
  rcases hh with rfl | rfl | rfl
  · obtain ⟨rfl, rfl⟩ := hs2.2 (by decide)
    clear hs2
    go_enter Try.func36, Try.ntmps36
    go_upto_block 0 with fail
    obtain ⟨w1, hw1⟩ : ∃ w1, ((w.alloc (.cells #[.int .i64 (W' : Nat), .int .i64 (H' : Nat), .slice ao zs.length cap] 24)).alloc (.cells #[.int .i64 0, .int .i64 0, .slice none 0 0] 24)).alloc (.cells #[.int .i64 (W' : Nat), .int .i64 (H' : Nat), .slice none 0 0] 24) = w1 := ⟨_, rfl⟩
    have HM2 : Hold (Mod noB ((w.alloc (.cells #[.int .i64 (W' : Nat), .int .i64 (H' : Nat), .slice ao zs.length cap] 24)).alloc (.cells #[.int .i64 0, .int .i64 0, .slice none 0 0] 24)) w1) := ⟨by rw [← hw1]; exact (Mod.refl _ _).alloc _⟩
    have HO1 : Hold (w1.heap[w.heap.size + 2]? = some (.cells #[.int .i64 (W' : Nat), .int .i64 (H' : Nat), .slice none 0 0] 24)) := ⟨by
      rw [← hw1]
      have := World.alloc_heap_new ((w.alloc (.cells #[.int .i64 (W' : Nat), .int .i64 (H' : Nat), .slice ao zs.length cap] 24)).alloc (.cells #[.int .i64 0, .int .i64 0, .slice none 0 0] 24)) (.cells #[.int .i64 (W' : Nat), .int .i64 (H' : Nat), .slice none 0 0] 24)
      simpa using this⟩
    have hz1 : w1.heap.size = w.heap.size + 3 := by rw [← hw1]; simp
    have HM1 : Hold (Mod noB w w1) := ⟨(((Mod.refl noB w).alloc _).alloc _).trans HM2.out⟩
    have HF := Hold.mk (cut_facts (w := w) (W := W') (H := H') (ao := ao) (n := zs.length) (cap := cap))
    have HFB : Hold (∀ W2, Mod (fun b => b = w.heap.size + 2) w1 W2 → W2.heap[w.heap.size]? = some (.cells #[.int .i64 (W' : Nat), .int .i64 (H' : Nat), .slice ao zs.length cap] 24) ∧ IntsAt W2 ao zs) := ⟨fun W2 hm => by
      refine ⟨hm.at (HF.out w1 HM2.out).1 (by omega), ?_⟩
      exact HS.out.mod (HM1.out.then hm (fun i h1 h2 => by omega)) (fun _ _ _ _ h => h)⟩
    have HR : Hold (OutRow g 0 W' H' (w.heap.size + 2) W' H' 0 w1 w1) := ⟨_, HO1.out, World.ownsRow_nil _ _ _ _, Mod.refl _ _⟩
    rw [hw1]
    clear hw1
    refine wp_mono (tu_all g 0 W' H' ao zs cap W' H' (w.heap.size + 2) w.heap.size w1 (by decide) (by omega) (by omega) (by omega) (by omega) (by omega) HFB HA HR) (then_only ?_)
    rintro a' w3 ⟨v, rfl, ho⟩
    obtain ⟨vv, hob, hown, hmr⟩ := ho
    have hlen : (turnL g 0 W' H' W' (H' * W')).length = H' * W' := by unfold turnL; simp
    have hmul : H' * W' ≤ 12 * 12 := Nat.mul_le_mul (by omega) (by omega)
    obtain ⟨xo, xcap, rfl, hI, hge⟩ := ints_of_owns hown hlen (by omega)
    have HW := Hold.mk (And.intro hob (And.intro hI (And.intro hmr (And.intro hge (hmr.at (HF.out w1 HM2.out).2 (by omega))))))
    have o0 := cellsAt hob 0
    have o1 := cellsAt hob 1
    have o2 := cellsAt hob 2
    simp at o0 o1 o2
    obtain ⟨r0, r1, r2, q0, q1, q2⟩ := resAt_of HW.out.2.2.2.2
    clear hob hown hmr hI hge
    go_wp2
    obtain ⟨h1, h2, h3⟩ := cut_stored (HM1.out.then HW.out.2.2.1 (fun i h1 h2 => by omega)) (Nat.le_succ _) HW.out.2.2.2.2 (.int .i64 (W' : Nat)) (.int .i64 (H' : Nat)) (.slice xo (H' * W') xcap)
    refine bodyPost_ret (v := cutV W' H' xo (H' * W') xcap) (results_cell_row (fn := Try.f36) rfl _ _ (w.heap.size + 1) 24 _ (0, 0) _ rfl h1 Try.underlying24 rfl (by kernel_rfl)) rfl ?_
    refine ⟨xo, xcap, rfl, HW.out.2.1.mod h2 (fun b off hne e => ?_), h3⟩
    have := HW.out.2.2.2.1 b off hne e
    omega
  · obtain ⟨rfl, rfl⟩ := hs2.2 (by decide)
    clear hs2
    go_enter Try.func36, Try.ntmps36
    go_upto_block 0 with fail
    obtain ⟨w1, hw1⟩ : ∃ w1, ((w.alloc (.cells #[.int .i64 (W' : Nat), .int .i64 (H' : Nat), .slice ao zs.length cap] 24)).alloc (.cells #[.int .i64 0, .int .i64 0, .slice none 0 0] 24)).alloc (.cells #[.int .i64 (W' : Nat), .int .i64 (H' : Nat), .slice none 0 0] 24) = w1 := ⟨_, rfl⟩
    have HM2 : Hold (Mod noB ((w.alloc (.cells #[.int .i64 (W' : Nat), .int .i64 (H' : Nat), .slice ao zs.length cap] 24)).alloc (.cells #[.int .i64 0, .int .i64 0, .slice none 0 0] 24)) w1) := ⟨by rw [← hw1]; exact (Mod.refl _ _).alloc _⟩
    have HO1 : Hold (w1.heap[w.heap.size + 2]? = some (.cells #[.int .i64 (W' : Nat), .int .i64 (H' : Nat), .slice none 0 0] 24)) := ⟨by
      rw [← hw1]
      have := World.alloc_heap_new ((w.alloc (.cells #[.int .i64 (W' : Nat), .int .i64 (H' : Nat), .slice ao zs.length cap] 24)).alloc (.cells #[.int .i64 0, .int .i64 0, .slice none 0 0] 24)) (.cells #[.int .i64 (W' : Nat), .int .i64 (H' : Nat), .slice none 0 0] 24)
      simpa using this⟩
    have hz1 : w1.heap.size = w.heap.size + 3 := by rw [← hw1]; simp
    have HM1 : Hold (Mod noB w w1) := ⟨(((Mod.refl noB w).alloc _).alloc _).trans HM2.out⟩
    have HF := Hold.mk (cut_facts (w := w) (W := W') (H := H') (ao := ao) (n := zs.length) (cap := cap))
    have HFB : Hold (∀ W2, Mod (fun b => b = w.heap.size + 2) w1 W2 → W2.heap[w.heap.size]? = some (.cells #[.int .i64 (W' : Nat), .int .i64 (H' : Nat), .slice ao zs.length cap] 24) ∧ IntsAt W2 ao zs) := ⟨fun W2 hm => by
      refine ⟨hm.at (HF.out w1 HM2.out).1 (by omega), ?_⟩
      exact HS.out.mod (HM1.out.then hm (fun i h1 h2 => by omega)) (fun _ _ _ _ h => h)⟩
    have HR : Hold (OutRow g 1 W' H' (w.heap.size + 2) W' H' 0 w1 w1) := ⟨_, HO1.out, World.ownsRow_nil _ _ _ _, Mod.refl _ _⟩
    rw [hw1]
    clear hw1
    refine wp_mono (tu_all g 1 W' H' ao zs cap W' H' (w.heap.size + 2) w.heap.size w1 (by decide) (by omega) (by omega) (by omega) (by omega) (by omega) HFB HA HR) (then_only ?_)
    rintro a' w3 ⟨v, rfl, ho⟩
    obtain ⟨vv, hob, hown, hmr⟩ := ho
    have hlen : (turnL g 1 W' H' W' (H' * W')).length = H' * W' := by unfold turnL; simp
    have hmul : H' * W' ≤ 12 * 12 := Nat.mul_le_mul (by omega) (by omega)
    obtain ⟨xo, xcap, rfl, hI, hge⟩ := ints_of_owns hown hlen (by omega)
    have HW := Hold.mk (And.intro hob (And.intro hI (And.intro hmr (And.intro hge (hmr.at (HF.out w1 HM2.out).2 (by omega))))))
    have o0 := cellsAt hob 0
    have o1 := cellsAt hob 1
    have o2 := cellsAt hob 2
    simp at o0 o1 o2
    obtain ⟨r0, r1, r2, q0, q1, q2⟩ := resAt_of HW.out.2.2.2.2
    clear hob hown hmr hI hge
    go_wp2
    obtain ⟨h1, h2, h3⟩ := cut_stored (HM1.out.then HW.out.2.2.1 (fun i h1 h2 => by omega)) (Nat.le_succ _) HW.out.2.2.2.2 (.int .i64 (W' : Nat)) (.int .i64 (H' : Nat)) (.slice xo (H' * W') xcap)
    refine bodyPost_ret (v := cutV W' H' xo (H' * W') xcap) (results_cell_row (fn := Try.f36) rfl _ _ (w.heap.size + 1) 24 _ (0, 0) _ rfl h1 Try.underlying24 rfl (by kernel_rfl)) rfl ?_
    refine ⟨xo, xcap, rfl, HW.out.2.1.mod h2 (fun b off hne e => ?_), h3⟩
    have := HW.out.2.2.2.1 b off hne e
    omega
  · obtain ⟨rfl, rfl⟩ := hs2.1 rfl
    clear hs2
    go_enter Try.func36, Try.ntmps36
    go_upto_block 0 with fail
    obtain ⟨w1, hw1⟩ : ∃ w1, ((w.alloc (.cells #[.int .i64 (H' : Nat), .int .i64 (W' : Nat), .slice ao zs.length cap] 24)).alloc (.cells #[.int .i64 0, .int .i64 0, .slice none 0 0] 24)).alloc (.cells #[.int .i64 (W' : Nat), .int .i64 (H' : Nat), .slice none 0 0] 24) = w1 := ⟨_, rfl⟩
    have HM2 : Hold (Mod noB ((w.alloc (.cells #[.int .i64 (H' : Nat), .int .i64 (W' : Nat), .slice ao zs.length cap] 24)).alloc (.cells #[.int .i64 0, .int .i64 0, .slice none 0 0] 24)) w1) := ⟨by rw [← hw1]; exact (Mod.refl _ _).alloc _⟩
    have HO1 : Hold (w1.heap[w.heap.size + 2]? = some (.cells #[.int .i64 (W' : Nat), .int .i64 (H' : Nat), .slice none 0 0] 24)) := ⟨by
      rw [← hw1]
      have := World.alloc_heap_new ((w.alloc (.cells #[.int .i64 (H' : Nat), .int .i64 (W' : Nat), .slice ao zs.length cap] 24)).alloc (.cells #[.int .i64 0, .int .i64 0, .slice none 0 0] 24)) (.cells #[.int .i64 (W' : Nat), .int .i64 (H' : Nat), .slice none 0 0] 24)
      simpa using this⟩
    have hz1 : w1.heap.size = w.heap.size + 3 := by rw [← hw1]; simp
    have HM1 : Hold (Mod noB w w1) := ⟨(((Mod.refl noB w).alloc _).alloc _).trans HM2.out⟩
    have HF := Hold.mk (cut_facts (w := w) (W := H') (H := W') (ao := ao) (n := zs.length) (cap := cap))
    have HFB : Hold (∀ W2, Mod (fun b => b = w.heap.size + 2) w1 W2 → W2.heap[w.heap.size]? = some (.cells #[.int .i64 (H' : Nat), .int .i64 (W' : Nat), .slice ao zs.length cap] 24) ∧ IntsAt W2 ao zs) := ⟨fun W2 hm => by
      refine ⟨hm.at (HF.out w1 HM2.out).1 (by omega), ?_⟩
      exact HS.out.mod (HM1.out.then hm (fun i h1 h2 => by omega)) (fun _ _ _ _ h => h)⟩
    have HR : Hold (OutRow g 2 H' W' (w.heap.size + 2) W' H' 0 w1 w1) := ⟨_, HO1.out, World.ownsRow_nil _ _ _ _, Mod.refl _ _⟩
    rw [hw1]
    clear hw1
    refine wp_mono (tu_all g 2 H' W' ao zs cap W' H' (w.heap.size + 2) w.heap.size w1 (by decide) (by omega) (by omega) (by omega) (by omega) (by omega) HFB HA HR) (then_only ?_)
    rintro a' w3 ⟨v, rfl, ho⟩
    obtain ⟨vv, hob, hown, hmr⟩ := ho
    have hlen : (turnL g 2 H' W' W' (H' * W')).length = H' * W' := by unfold turnL; simp
    have hmul : H' * W' ≤ 12 * 12 := Nat.mul_le_mul (by omega) (by omega)
    obtain ⟨xo, xcap, rfl, hI, hge⟩ := ints_of_owns hown hlen (by omega)
    have HW := Hold.mk (And.intro hob (And.intro hI (And.intro hmr (And.intro hge (hmr.at (HF.out w1 HM2.out).2 (by omega))))))
    have o0 := cellsAt hob 0
    have o1 := cellsAt hob 1
    have o2 := cellsAt hob 2
    simp at o0 o1 o2
    obtain ⟨r0, r1, r2, q0, q1, q2⟩ := resAt_of HW.out.2.2.2.2
    clear hob hown hmr hI hge
    go_wp2
    obtain ⟨h1, h2, h3⟩ := cut_stored (HM1.out.then HW.out.2.2.1 (fun i h1 h2 => by omega)) (Nat.le_succ _) HW.out.2.2.2.2 (.int .i64 (W' : Nat)) (.int .i64 (H' : Nat)) (.slice xo (H' * W') xcap)
    refine bodyPost_ret (v := cutV W' H' xo (H' * W') xcap) (results_cell_row (fn := Try.f36) rfl _ _ (w.heap.size + 1) 24 _ (0, 0) _ rfl h1 Try.underlying24 rfl (by kernel_rfl)) rfl ?_
    refine ⟨xo, xcap, rfl, HW.out.2.1.mod h2 (fun b off hne e => ?_), h3⟩
    have := HW.out.2.2.2.1 b off hne e
    omega
end Go.Proofs.Ytogalmkeipigeaa

/- CutTurned: both pictures, and what is said of them. -/
namespace Go.Proofs.Ytogalmkeipigeaa
open Go Go.RowKit Go.Shelf

theorem turn_in {W H W' H' : Nat} {how : Int} (hh : how = 0 ∨ how = 1 ∨ how = 2) (hs2 : (how = 2 → W' = H ∧ H' = W) ∧ (how ≠ 2 → W' = W ∧ H' = H)) (p : Int × Int) : inPic W' H' p ↔ inPic W H (turnP how W H p) := by
  rcases hh with rfl | rfl | rfl
  · obtain ⟨rfl, rfl⟩ := hs2.2 (by decide)
    unfold turnP inPic
    simp only [if_true]
    omega
  · obtain ⟨rfl, rfl⟩ := hs2.2 (by decide)
    unfold turnP inPic
    rw [if_neg (by decide), if_pos rfl]
    simp only []
    omega
  · obtain ⟨rfl, rfl⟩ := hs2.1 rfl
    unfold turnP inPic
    rw [if_neg (by decide), if_neg (by decide)]
    simp only []
    omega
theorem turn_cut {W H W' H' : Nat} {zs : List Int} (C : CutN W H zs) {how : Int} (hh : how = 0 ∨ how = 1 ∨ how = 2) (hs2 : (how = 2 → W' = H ∧ H' = W) ∧ (how ≠ 2 → W' = W ∧ H' = H)) {g : Int × Int → Option Int} (hg : laidG W zs zs.length = g) {zs' : List Int} (hz : turnL g how W H W' (H' * W') = zs') :
    zs'.length = H' * W' ∧ CutN W' H' zs' ∧ ∀ p, atG (laidG W' zs' zs'.length) p = atG g (turnP how W H p) := by
  have G := C.grid
  rw [hg] at G
  have hl : zs'.length = H' * W' := by rw [← hz]; unfold turnL; simp
  have hwh : 1 ≤ W' ∧ W' ≤ 12 ∧ 1 ≤ H' ∧ H' ≤ 12 := by
    have h1 := C.w1
    have h2 := C.w2
    have h3 := C.h1
    have h4 := C.h2
    rcases hh with e | e | e
    · obtain ⟨rfl, rfl⟩ := hs2.2 (by omega); omega
    · obtain ⟨rfl, rfl⟩ := hs2.2 (by omega); omega
    · obtain ⟨rfl, rfl⟩ := hs2.1 e; omega
  have cell : ∀ i, i < H' * W' → inPic W' H' (((i % W' : Nat) : Int), ((i / W' : Nat) : Int)) := fun i hi => by
    have h1 : i % W' < W' := Nat.mod_lt _ (by omega)
    have h2 : i / W' < H' := (Nat.div_lt_iff_lt_mul (by omega)).2 hi
    exact ⟨Int.natCast_nonneg _, Int.ofNat_lt.2 h1, Int.natCast_nonneg _, Int.ofNat_lt.2 h2⟩
  have C' : CutN W' H' zs' := ⟨hwh.1, hwh.2.1, hwh.2.2.1, hwh.2.2.2, by rw [hl, Nat.mul_comm], fun z hzm => by
    rw [← hz] at hzm
    unfold turnL at hzm
    rw [List.mem_map] at hzm
    obtain ⟨i, hi, rfl⟩ := hzm
    rw [List.mem_range] at hi
    exact G.at_in ((turn_in hh hs2 _).1 (cell i hi))⟩
  refine ⟨hl, C', fun p => ?_⟩
  by_cases hp : inPic W' H' p
  · obtain ⟨i, hi, rfl⟩ := C'.of_in hp
    rw [C'.gi hi, ← hz]
    unfold turnL
    rw [hl] at hi
    rw [List.getElem?_map, List.getElem?_range hi]
    rfl
  · rw [C'.grid.at_out hp, G.at_out (fun h => hp ((turn_in hh hs2 p).2 h))]
theorem turn_all {W H W' H' : Nat} {how : Int} (hh : how = 0 ∨ how = 1 ∨ how = 2) (hs2 : (how = 2 → W' = H ∧ H' = W) ∧ (how ≠ 2 → W' = W ∧ H' = H)) {g g' : Int × Int → Option Int} (h : ∀ p, atG g' p = atG g (turnP how W H p)) : TurnAll g g' W H W' H' := by
  rcases hh with rfl | rfl | rfl
  · obtain ⟨rfl, rfl⟩ := hs2.2 (by decide)
    exact all_flip fun p => by rw [h]; unfold turnP; rw [if_pos rfl]
  · obtain ⟨rfl, rfl⟩ := hs2.2 (by decide)
    exact all_over fun p => by rw [h]; unfold turnP; rw [if_neg (by decide), if_pos rfl]
  · obtain ⟨rfl, rfl⟩ := hs2.1 rfl
    exact all_swap fun p => by rw [h]; unfold turnP; rw [if_neg (by decide), if_neg (by decide)]

def SidO (e : Ending) (w w' : World) (L : List (Int × Int)) (er : Int) : Prop := ∃ ao cap, e = .returned (.tuple #[.slice ao L.length cap, .int .i64 er]) ∧ RowAt w' ao (sideCells L) ∧ Mod noB w w'
def InsO (e : Ending) (w w' : World) (L : List Int) (er : Int) : Prop := ∃ ao cap, e = .returned (.tuple #[.slice ao L.length cap, .int .i64 er]) ∧ IntsAt w' ao L ∧ Mod noB w w'
section
variable {W H W' H' : Nat} {zs zs' : List Int}
theorem sides_two (C : CutN W H zs) (C' : CutN W' H' zs') (hb : isCutB W H zs = true) (hb' : isCutB W' H' zs' = true) (A : TurnAll (laidG W zs zs.length) (laidG W' zs' zs'.length) W H W' H') (p : Int) : ∃ (L : List (Int × Int)) (er : Int), L.length ≤ 1000 ∧
    (∀ ao cap w, IntsAt w ao zs → Calls Try.prog 16 #[cutV W H ao zs.length cap, .int .i64 p] w fun e w' => SidO e w w' L er) ∧
    (∀ ao cap w, IntsAt w ao zs' → Calls Try.prog 16 #[cutV W' H' ao zs'.length cap, .int .i64 p] w fun e w' => SidO e w w' L er) := by
  have hk := check_turn C C' hb hb' A
  have hm := many_turn C C' A
  by_cases h : (checkR W H zs).2 = 0
  · have h' : (checkR W' H' zs').2 = 0 := by rw [hk]; exact h
    by_cases hp : 0 ≤ p ∧ p < many zs
    · refine ⟨sidesR W H zs p, 0, ?_, fun ao cap w hs => ?_, fun ao cap w hs => ?_⟩
      · have h1 := sidesTo_len (facedL (laidG W zs zs.length) W H p) (many zs + 1)
        have h2 := C.many_le.2
        unfold sidesR
        omega
      · refine (sides_yes C ao cap p w hs h hp.1 hp.2).mono ?_
        rintro e w' ⟨v, rfl, hown, hM⟩
        obtain ⟨ao', cap', rfl, hr⟩ := rowAt_of_owns hown
        exact ⟨ao', cap', rfl, hr, hM⟩
      · refine (sides_yes C' ao cap p w hs h' hp.1 (by rw [hm]; exact hp.2)).mono ?_
        rintro e w' ⟨v, rfl, hown, hM⟩
        rw [sides_turn C C' A] at hown
        obtain ⟨ao', cap', rfl, hr⟩ := rowAt_of_owns hown
        exact ⟨ao', cap', rfl, hr, hM⟩
    · refine ⟨[], 2, by simp, fun ao cap w hs => ?_, fun ao cap w hs => ?_⟩
      · refine (sides_out C ao cap p w hs h hp).mono ?_
        rintro e w' ⟨rfl, hM⟩
        exact ⟨none, 0, rfl, fun hne => absurd rfl hne, hM⟩
      · refine (sides_out C' ao cap p w hs h' (by rw [hm]; exact hp)).mono ?_
        rintro e w' ⟨rfl, hM⟩
        exact ⟨none, 0, rfl, fun hne => absurd rfl hne, hM⟩
  · refine ⟨[], (checkR W H zs).2, by simp, fun ao cap w hs => ?_, fun ao cap w hs => ?_⟩
    · refine (sides_no W H ao zs cap p w hs h).mono ?_
      rintro e w' ⟨rfl, hM⟩
      exact ⟨none, 0, rfl, fun hne => absurd rfl hne, hM⟩
    · refine (sides_no W' H' ao zs' cap p w hs (by rw [hk]; exact h)).mono ?_
      rintro e w' ⟨rfl, hM⟩
      exact ⟨none, 0, by rw [hk]; rfl, fun hne => absurd rfl hne, hM⟩
theorem ins_two (C : CutN W H zs) (C' : CutN W' H' zs') (hb : isCutB W H zs = true) (hb' : isCutB W' H' zs' = true) (A : TurnAll (laidG W zs zs.length) (laidG W' zs' zs'.length) W H W' H') (p : Int) : ∃ (L : List Int) (er : Int),
    (∀ ao cap w, IntsAt w ao zs → Calls Try.prog 18 #[cutV W H ao zs.length cap, .int .i64 p] w fun e w' => InsO e w w' L er) ∧
    (∀ ao cap w, IntsAt w ao zs' → Calls Try.prog 18 #[cutV W' H' ao zs'.length cap, .int .i64 p] w fun e w' => InsO e w w' L er) := by
  have none_is : ∀ w, IntsAt w none [] := fun w => ⟨fun h => absurd rfl h, Nat.zero_le _⟩
  have hk := check_turn C C' hb hb' A
  have hm := many_turn C C' A
  by_cases h : (checkR W H zs).2 = 0
  · have h' : (checkR W' H' zs').2 = 0 := by rw [hk]; exact h
    by_cases hp : 0 ≤ p ∧ p < many zs
    · have h2 := C.many_le.2
      have hl : (insideTo (outB (laidG W zs zs.length) W H p (many zs)) p (many zs)).length ≤ 1000000 := by have := insideTo_len (outB (laidG W zs zs.length) W H p (many zs)) p (many zs); omega
      refine ⟨insideTo (outB (laidG W zs zs.length) W H p (many zs)) p (many zs), 0, fun ao cap w hs => ?_, fun ao cap w hs => ?_⟩
      · refine (inside_yes C ao cap p w hs h hp.1 hp.2).mono ?_
        rintro e w' ⟨v, R, rfl, hR, hown, hM⟩
        rw [inside_same (R' := outB (laidG W zs zs.length) W H p (many zs)) (fun j hj => (hR.is C.grid h2 j (by omega)).trans ((outB_inv p (many zs)).is C.grid h2 j (by omega)).symm)] at hown
        obtain ⟨ao', cap', rfl, hr, _⟩ := ints_of_owns hown rfl hl
        exact ⟨ao', cap', rfl, hr, hM⟩
      · refine (inside_yes C' ao cap p w hs h' hp.1 (by rw [hm]; exact hp.2)).mono ?_
        rintro e w' ⟨v, R, rfl, hR, hown, hM⟩
        rw [hm] at hR hown
        rw [inside_same (R' := outB (laidG W zs zs.length) W H p (many zs)) (fun j hj => by
          rw [← ins_turn C C' A]
          exact (hR.is C'.grid h2 j (by omega)).trans ((outB_inv p (many zs)).is C'.grid h2 j (by omega)).symm)] at hown
        obtain ⟨ao', cap', rfl, hr, _⟩ := ints_of_owns hown rfl hl
        exact ⟨ao', cap', rfl, hr, hM⟩
    · refine ⟨[], 2, fun ao cap w hs => ?_, fun ao cap w hs => ?_⟩
      · refine (inside_out C ao cap p w hs h hp).mono ?_
        rintro e w' ⟨rfl, hM⟩
        exact ⟨none, 0, rfl, none_is _, hM⟩
      · refine (inside_out C' ao cap p w hs h' (by rw [hm]; exact hp)).mono ?_
        rintro e w' ⟨rfl, hM⟩
        exact ⟨none, 0, rfl, none_is _, hM⟩
  · refine ⟨[], (checkR W H zs).2, fun ao cap w hs => ?_, fun ao cap w hs => ?_⟩
    · refine (inside_no W H ao zs cap p w hs h).mono ?_
      rintro e w' ⟨rfl, hM⟩
      exact ⟨none, 0, rfl, none_is _, hM⟩
    · refine (inside_no W' H' ao zs' cap p w hs (by rw [hk]; exact h)).mono ?_
      rintro e w' ⟨rfl, hM⟩
      exact ⟨none, 0, by rw [hk]; rfl, none_is _, hM⟩
theorem lines_anyT {W H : Nat} {zs : List Int} (C : CutN W H zs) (ao : Option Addr) (cap : Nat) (w : World) (hs : IntsAt w ao zs) : Calls Try.prog 22 #[cutV W H ao zs.length cap] w fun e w' => e = .returned (.tuple #[linesV (linesR W H zs).1, .int .i64 (linesR W H zs).2]) ∧ Mod noB w w' := by
  by_cases h : (checkR W H zs).2 = 0
  · exact lines_yes C ao cap w hs h
  · exact lines_no W H ao zs cap w hs h
theorem saw_anyT {W H : Nat} {zs : List Int} (C : CutN W H zs) (ao : Option Addr) (cap : Nat) (w : World) (hs : IntsAt w ao zs) : Calls Try.prog 24 #[cutV W H ao zs.length cap] w fun e w' => ∃ so scap, e = .returned (.tuple #[.slice so (sawR W H zs).1.length scap, .int .i64 (sawR W H zs).2]) ∧ Mod noB w w' := by
  have fin : ∀ e w', SawsOut e w w' (sawR W H zs) → ∃ so scap, e = .returned (.tuple #[.slice so (sawR W H zs).1.length scap, .int .i64 (sawR W H zs).2]) ∧ Mod noB w w' := by
    rintro e w' ⟨v, rfl, hown, hM⟩
    obtain ⟨ao', cap', rfl, hr⟩ := rowAt_of_owns hown
    exact ⟨ao', cap', rfl, hM⟩
  by_cases h : (checkR W H zs).2 = 0
  · exact (saw_yes C ao cap w hs h).mono fun e w' hh => fin _ _ hh
  · exact (saw_no W H ao zs cap w hs h).mono fun e w' hh => fin _ _ hh
end
end Go.Proofs.Ytogalmkeipigeaa

/- CutTurned: its walk. -/
namespace Go.Proofs.Ytogalmkeipigeaa
open Go Go.RowKit Go.Shelf

/-- The turned cut in memory. -/
def XAtT (W H : Int) (n xb : Nat) (xo : Option Addr) (xcap : Nat) (zs' : List Int) (W' : World) : Prop := W'.heap[xb]? = some (.cells #[.int .i64 W, .int .i64 H, .slice xo n xcap] 24) ∧ IntsAt W' xo zs'
theorem XAtT.mod {W H : Int} {n xb : Nat} {xo : Option Addr} {xcap : Nat} {zs' : List Int} {A B : World} (h : XAtT W H n xb xo xcap zs' A) (hm : Mod noB A B) : XAtT W H n xb xo xcap zs' B := ⟨hm.at h.1 id, h.2.mod hm (fun _ _ _ _ h => h)⟩
theorem XAtT.cells {W H : Int} {n xb : Nat} {xo : Option Addr} {xcap : Nat} {zs' : List Int} {A : World} (h : XAtT W H n xb xo xcap zs' A) : A.cell? ⟨xb, 0, none⟩ = some (.int .i64 W) ∧ A.cell? ⟨xb, 1, none⟩ = some (.int .i64 H) ∧ A.cell? ⟨xb, 2, none⟩ = some (.slice xo n xcap) := by
  refine ⟨?_, ?_, ?_⟩ <;> simp [World.cell?, h.1]
theorem ints_modT {w w' : World} {ao : Option Addr} {zs : List Int} (h : IntsAt w ao zs) (hm : Mod noB w w') : IntsAt w' ao zs := h.mod hm (fun _ _ _ _ h => h)

set_option maxRecDepth 100000 in
set_option maxHeartbeats 4000000 in
theorem turnedLaw_nocut (W H : Int) (ao : Option Addr) (n cap : Nat) (p u : Int) (w : World) (h : ∀ w1, Mod noB (w.alloc (.cells #[.int .i64 W, .int .i64 H, .slice ao n cap] 24)) w1 → Calls Try.prog 30 #[cutV W H ao n cap] w1 fun e w' => e = .returned (.bool false) ∧ Mod noB w1 w') :
    Calls Try.prog 10 #[cutV W H ao n cap, .int .i64 p, .int .u8 u] w fun e w' => e = .returned (.bool true) ∧ Mod noB w w' := by
  have HM0 := Hold.mk ((Mod.refl noB w).alloc (.cells #[.int .i64 W, .int .i64 H, .slice ao n cap] 24))
  have HO := Hold.mk (h _ (Mod.refl _ _))
  clear h
  go_enter Try.func10, Try.ntmps10
  go_wp2_with (first
    | (go_at_call 30; refine HO.out.mono ?_; rintro e w1 ⟨rfl, hM⟩; have HM1 := Hold.mk hM; clear hM)
    | (go_at_call 13; refine (awake_any _).mono ?_; rintro e w2 ⟨rfl, hM⟩; have HM2 := Hold.mk hM; clear hM))
  go_ret
  exact ⟨rfl, (HM0.out.trans HM1.out).trans HM2.out⟩

set_option maxRecDepth 100000 in
set_option maxHeartbeats 16000000 in
theorem turnedLaw_yes {W H : Nat} {zs : List Int} (C : CutN W H zs) (ao : Option Addr) (cap : Nat) (p : Int) (u : Nat) (hu : u ≤ 255) (w : World) (hs : IntsAt w ao zs) :
    Calls Try.prog 10 #[cutV W H ao zs.length cap, .int .i64 p, .int .u8 (u : Int)] w fun e w' => e = .returned (.bool true) ∧ Mod noB w w' := by
  have HB := Hold.mk (box_facts (W := W) (H := H) (cap := cap) hs)
  have HM0 := Hold.mk ((Mod.refl noB w).alloc (.cells #[.int .i64 W, .int .i64 H, .slice ao zs.length cap] 24))
  have hb := isCutB_ofT C
  obtain ⟨how, hhow⟩ : ∃ how : Int, Int.tmod (u : Int) 3 = how := ⟨_, rfl⟩
  have hh : how = 0 ∨ how = 1 ∨ how = 2 := by
    rw [Int.tmod_eq_emod_of_nonneg (by omega)] at hhow
    omega
  obtain ⟨W', H', hs2⟩ : ∃ W' H' : Nat, (how = 2 → W' = H ∧ H' = W) ∧ (how ≠ 2 → W' = W ∧ H' = H) := by
    by_cases e : how = 2
    · exact ⟨H, W, fun _ => ⟨rfl, rfl⟩, fun h => absurd e h⟩
    · exact ⟨W, H, fun h => absurd h e, fun _ => ⟨rfl, rfl⟩⟩
  obtain ⟨zs', hz⟩ : ∃ zs', turnL (laidG W zs zs.length) how W H W' (H' * W') = zs' := ⟨_, rfl⟩
  obtain ⟨hl', C', hat⟩ := turn_cut C hh hs2 rfl hz
  have hb' := isCutB_ofT C'
  have A := turn_all hh hs2 hat
  have hk := check_turn C C' hb hb' A
  have hln := lines_turn C C' hb hb' A
  obtain ⟨hs1, hs3⟩ := saw_turn C C' hb hb' A
  obtain ⟨SL, ser, hSL, hS1, hS2⟩ := sides_two C C' hb hb' A p
  obtain ⟨IL, ier, hI1, hI2⟩ := ins_two C C' hb hb' A p
  have HT : Hold (∀ w1, IntsAt w1 ao zs → Calls Try.prog 36 #[cutV W H ao zs.length cap, .int .i64 how] w1 fun e w' => ∃ xo xcap, e = .returned (cutV W' H' xo zs'.length xcap) ∧ IntsAt w' xo zs' ∧ Mod noB w1 w') := ⟨fun w1 hi => by
    refine (turned_any C ao cap how hh W' H' hs2 w1 hi).mono ?_
    rintro e w' ⟨xo, xcap, rfl, h1, h2⟩
    rw [hz] at h1
    exact ⟨xo, xcap, by rw [hl'], h1, h2⟩⟩
  have HD : Hold (∀ w1, IntsAt w1 ao zs → Calls Try.prog 30 #[cutV W H ao zs.length cap] w1 fun e w' => e = .returned (.bool true) ∧ Mod noB w1 w') := ⟨fun w1 hi => by
    have := refCut_any W H ao zs cap w1 hi
    rw [hb] at this
    exact this⟩
  obtain ⟨k1, k2, hk12⟩ : ∃ k1 k2, checkR W H zs = (k1, k2) := ⟨_, _, rfl⟩
  have HC1 : Hold (∀ w1, IntsAt w1 ao zs → Calls Try.prog 14 #[cutV W H ao zs.length cap] w1 fun e w' => e = .returned (.tuple #[.int .i64 k1, .int .i64 k2]) ∧ Mod noB w1 w') := ⟨fun w1 hi => by
    have := check_any W H ao zs cap w1 hi
    rw [hk12] at this; exact this⟩
  have HC2 : Hold (∀ xo xcap w1, IntsAt w1 xo zs' → Calls Try.prog 14 #[cutV W' H' xo zs'.length xcap] w1 fun e w' => e = .returned (.tuple #[.int .i64 k1, .int .i64 k2]) ∧ Mod noB w1 w') := ⟨fun xo xcap w1 hi => by
    have := check_any W' H' xo zs' xcap w1 hi
    rw [hk, hk12] at this; exact this⟩
  obtain ⟨a1, a2, a3, a4, ler, hr⟩ : ∃ a1 a2 a3 a4 ler, linesR W H zs = ((a1, a2, a3, a4), ler) := ⟨_, _, _, _, _, rfl⟩
  have HL1 : Hold (∀ w1, IntsAt w1 ao zs → Calls Try.prog 22 #[cutV W H ao zs.length cap] w1 fun e w' => e = .returned (.tuple #[linesV (a1, a2, a3, a4), .int .i64 ler]) ∧ Mod noB w1 w') := ⟨fun w1 hi => by
    have := lines_anyT C ao cap w1 hi
    rw [hr] at this; exact this⟩
  have HL2 : Hold (∀ xo xcap w1, IntsAt w1 xo zs' → Calls Try.prog 22 #[cutV W' H' xo zs'.length xcap] w1 fun e w' => e = .returned (.tuple #[linesV (a1, a2, a3, a4), .int .i64 ler]) ∧ Mod noB w1 w') := ⟨fun xo xcap w1 hi => by
    have := lines_anyT C' xo xcap w1 hi
    rw [hln, hr] at this; exact this⟩
  obtain ⟨sn, hsn⟩ : ∃ sn, (sawR W H zs).1.length = sn := ⟨_, rfl⟩
  obtain ⟨se, hse⟩ : ∃ se, (sawR W H zs).2 = se := ⟨_, rfl⟩
  have HW1 : Hold (∀ w1, IntsAt w1 ao zs → Calls Try.prog 24 #[cutV W H ao zs.length cap] w1 fun e w' => ∃ so scap, e = .returned (.tuple #[.slice so sn scap, .int .i64 se]) ∧ Mod noB w1 w') := ⟨fun w1 hi => by
    have := saw_anyT C ao cap w1 hi
    rw [hsn, hse] at this; exact this⟩
  have HW2 : Hold (∀ xo xcap w1, IntsAt w1 xo zs' → Calls Try.prog 24 #[cutV W' H' xo zs'.length xcap] w1 fun e w' => ∃ so scap, e = .returned (.tuple #[.slice so sn scap, .int .i64 se]) ∧ Mod noB w1 w') := ⟨fun xo xcap w1 hi => by
    have := saw_anyT C' xo xcap w1 hi
    rw [hs1, hs3, hsn, hse] at this; exact this⟩
  have HS1 := Hold.mk (fun w1 => hS1 ao cap w1)
  have HS2 := Hold.mk hS2
  have HI1 := Hold.mk (fun w1 => hI1 ao cap w1)
  have HI2 := Hold.mk hI2
  have HU := Hold.mk hhow
  clear hs hb hh hs2 hz hl' C' hat hb' A hk hln hs1 hs3 hS1 hS2 hI1 hI2 hk12 hr hsn hse C
  have hu2 : (u : Int) ≤ 255 := by omega
  have hwu : IntKind.i64.wrap (u : Int) = (u : Int) := IntWalk.i64_in _ (by omega)
  go_enter Try.func10, Try.ntmps10
  go_wp2_with (first
    | (go_at_call 30; refine (HD.out _ (HB.out _ (Mod.refl _ _)).2.2.2).mono ?_; rintro e w1 ⟨rfl, hM⟩; obtain ⟨c0, c1, c2, hI⟩ := HB.out _ hM; have HV1 := Hold.mk (And.intro hM hI); clear hM hI HD)
    | (go_at_call 36; refine (HT.out w1 HV1.out.2).mono ?_; rintro e w2 ⟨xo, xcap, rfl, hIx, hM⟩; clear c0 c1 c2; have HV2 := Hold.mk ((HV1.out.1.trans hM).alloc (.cells #[.int .i64 (W' : Nat), .int .i64 (H' : Nat), .slice xo zs'.length xcap] 24)); have HX2 : Hold (XAtT W' H' zs'.length w2.heap.size xo xcap zs' (w2.alloc (.cells #[.int .i64 (W' : Nat), .int .i64 (H' : Nat), .slice xo zs'.length xcap] 24))) := ⟨World.alloc_heap_new _ _, hIx.alloc _⟩; obtain ⟨c0, c1, c2, hI⟩ := HB.out _ HV2.out; obtain ⟨d0, d1, d2⟩ := HX2.out.cells; have HA2 := Hold.mk hI; clear hM hI hIx HT)
    | (go_at_call 14; refine (HC1.out _ HA2.out).mono ?_; rintro e w3 ⟨rfl, hM⟩; clear c0 c1 c2 d0 d1 d2; have HV3 := Hold.mk (HV2.out.trans hM); have HX3 := Hold.mk (HX2.out.mod hM); obtain ⟨c0, c1, c2, hI⟩ := HB.out _ HV3.out; obtain ⟨d0, d1, d2⟩ := HX3.out.cells; have HA3 := Hold.mk hI; clear hI; clear hM HC1)
    | (go_at_call 14; refine (HC2.out _ _ w3 HX3.out.2).mono ?_; rintro e w4 ⟨rfl, hM⟩; clear c0 c1 c2 d0 d1 d2; have HV4 := Hold.mk (HV3.out.trans hM); have HX4 := Hold.mk (HX3.out.mod hM); obtain ⟨c0, c1, c2, hI⟩ := HB.out _ HV4.out; obtain ⟨d0, d1, d2⟩ := HX4.out.cells; have HA4 := Hold.mk hI; clear hI; clear hM HC2)
    | (go_at_call 16; refine (HS1.out w4 HA4.out).mono ?_; rintro e w5 ⟨so1, sc1, rfl, hR, hM⟩; have HR1_5 := Hold.mk hR; clear c0 c1 c2 d0 d1 d2; have HV5 := Hold.mk (HV4.out.trans hM); have HX5 := Hold.mk (HX4.out.mod hM); obtain ⟨c0, c1, c2, hI⟩ := HB.out _ HV5.out; obtain ⟨d0, d1, d2⟩ := HX5.out.cells; have HA5 := Hold.mk hI; clear hI; clear hM hR HS1)
    | (go_at_call 16; refine (HS2.out _ _ w5 HX5.out.2).mono ?_; rintro e w6 ⟨so2, sc2, rfl, hR, hM⟩; have HR2_6 := Hold.mk hR; clear c0 c1 c2 d0 d1 d2; have HV6 := Hold.mk (HV5.out.trans hM); have HX6 := Hold.mk (HX5.out.mod hM); have HR1_6 := Hold.mk (HR1_5.out.mod hM); obtain ⟨c0, c1, c2, hI⟩ := HB.out _ HV6.out; obtain ⟨d0, d1, d2⟩ := HX6.out.cells; have HA6 := Hold.mk hI; clear hI; clear hM hR HS2)
    | (go_at_call 22; refine (HL1.out w6 HA6.out).mono ?_; rintro e w7 ⟨rfl, hM⟩; have HL1_7 := Hold.mk (World.alloc_heap_new w7 (.cells #[.int .i64 a1, .int .i64 a2, .int .i64 a3, .int .i64 a4] 39)); clear c0 c1 c2 d0 d1 d2; have HV7 := Hold.mk (HV6.out.trans (hM.alloc (.cells #[.int .i64 a1, .int .i64 a2, .int .i64 a3, .int .i64 a4] 39))); have HX7 := Hold.mk (HX6.out.mod (hM.alloc (.cells #[.int .i64 a1, .int .i64 a2, .int .i64 a3, .int .i64 a4] 39))); have HR1_7 := Hold.mk (HR1_6.out.mod (hM.alloc (.cells #[.int .i64 a1, .int .i64 a2, .int .i64 a3, .int .i64 a4] 39))); have HR2_7 := Hold.mk (HR2_6.out.mod (hM.alloc (.cells #[.int .i64 a1, .int .i64 a2, .int .i64 a3, .int .i64 a4] 39))); obtain ⟨c0, c1, c2, hI⟩ := HB.out _ HV7.out; obtain ⟨d0, d1, d2⟩ := HX7.out.cells; have HA7 := Hold.mk hI; clear hI; clear hM HL1)
    | (go_at_call 22; refine (HL2.out _ _ _ HX7.out.2).mono ?_; rintro e w8 ⟨rfl, hM⟩; have HL2_8 := Hold.mk (World.alloc_heap_new w8 (.cells #[.int .i64 a1, .int .i64 a2, .int .i64 a3, .int .i64 a4] 39)); clear c0 c1 c2 d0 d1 d2; have HV8 := Hold.mk (HV7.out.trans (hM.alloc (.cells #[.int .i64 a1, .int .i64 a2, .int .i64 a3, .int .i64 a4] 39))); have HX8 := Hold.mk (HX7.out.mod (hM.alloc (.cells #[.int .i64 a1, .int .i64 a2, .int .i64 a3, .int .i64 a4] 39))); have HR1_8 := Hold.mk (HR1_7.out.mod (hM.alloc (.cells #[.int .i64 a1, .int .i64 a2, .int .i64 a3, .int .i64 a4] 39))); have HR2_8 := Hold.mk (HR2_7.out.mod (hM.alloc (.cells #[.int .i64 a1, .int .i64 a2, .int .i64 a3, .int .i64 a4] 39))); have HL1_8 := Hold.mk (((hM.alloc (.cells #[.int .i64 a1, .int .i64 a2, .int .i64 a3, .int .i64 a4] 39))).at HL1_7.out id); obtain ⟨c0, c1, c2, hI⟩ := HB.out _ HV8.out; obtain ⟨d0, d1, d2⟩ := HX8.out.cells; have HA8 := Hold.mk hI; clear hI; clear hM HL2)
    | (go_at_call 18; refine (HI1.out _ HA8.out).mono ?_; rintro e w9 ⟨io1, ic1, rfl, hR, hM⟩; have HI1_9 := Hold.mk hR; clear c0 c1 c2 d0 d1 d2; have HV9 := Hold.mk (HV8.out.trans hM); have HX9 := Hold.mk (HX8.out.mod hM); have HR1_9 := Hold.mk (HR1_8.out.mod hM); have HR2_9 := Hold.mk (HR2_8.out.mod hM); have HL1_9 := Hold.mk ((hM).at HL1_8.out id); have HL2_9 := Hold.mk ((hM).at HL2_8.out id); obtain ⟨c0, c1, c2, hI⟩ := HB.out _ HV9.out; obtain ⟨d0, d1, d2⟩ := HX9.out.cells; have HA9 := Hold.mk hI; clear hI; clear hM hR HI1)
    | (go_at_call 18; refine (HI2.out _ _ w9 HX9.out.2).mono ?_; rintro e w10 ⟨io2, ic2, rfl, hR, hM⟩; have HI2_10 := Hold.mk hR; clear c0 c1 c2 d0 d1 d2; have HV10 := Hold.mk (HV9.out.trans hM); have HX10 := Hold.mk (HX9.out.mod hM); have HR1_10 := Hold.mk (HR1_9.out.mod hM); have HR2_10 := Hold.mk (HR2_9.out.mod hM); have HL1_10 := Hold.mk ((hM).at HL1_9.out id); have HL2_10 := Hold.mk ((hM).at HL2_9.out id); have HI1_10 := Hold.mk (ints_modT HI1_9.out hM); obtain ⟨c0, c1, c2, hI⟩ := HB.out _ HV10.out; obtain ⟨d0, d1, d2⟩ := HX10.out.cells; have HA10 := Hold.mk hI; clear hI; clear hM hR HI2)
    | (go_at_call 24; refine (HW1.out w10 HA10.out).mono ?_; rintro e w11 ⟨wo1, wc1, rfl, hM⟩; clear c0 c1 c2 d0 d1 d2; have HV11 := Hold.mk (HV10.out.trans hM); have HX11 := Hold.mk (HX10.out.mod hM); have HR1_11 := Hold.mk (HR1_10.out.mod hM); have HR2_11 := Hold.mk (HR2_10.out.mod hM); have HL1_11 := Hold.mk ((hM).at HL1_10.out id); have HL2_11 := Hold.mk ((hM).at HL2_10.out id); have HI1_11 := Hold.mk (ints_modT HI1_10.out hM); have HI2_11 := Hold.mk (ints_modT HI2_10.out hM); obtain ⟨c0, c1, c2, hI⟩ := HB.out _ HV11.out; obtain ⟨d0, d1, d2⟩ := HX11.out.cells; have HA11 := Hold.mk hI; clear hI; clear hM HW1)
    | (go_at_call 24; refine (HW2.out _ _ w11 HX11.out.2).mono ?_; rintro e w12 ⟨wo2, wc2, rfl, hM⟩; clear c0 c1 c2 d0 d1 d2; have HV12 := Hold.mk (HV11.out.trans hM); have HX12 := Hold.mk (HX11.out.mod hM); have HR1_12 := Hold.mk (HR1_11.out.mod hM); have HR2_12 := Hold.mk (HR2_11.out.mod hM); have HL1_12 := Hold.mk ((hM).at HL1_11.out id); have HL2_12 := Hold.mk ((hM).at HL2_11.out id); have HI1_12 := Hold.mk (ints_modT HI1_11.out hM); have HI2_12 := Hold.mk (ints_modT HI2_11.out hM); obtain ⟨c0, c1, c2, hI⟩ := HB.out _ HV12.out; obtain ⟨d0, d1, d2⟩ := HX12.out.cells; have HA12 := Hold.mk hI; clear hI; clear hM HW2)
    | (go_at_call 20; refine (sides_same so1 so2 SL hSL sc1 sc2 w12 HR1_12.out HR2_12.out).mono ?_; rintro e w13 ⟨rfl, hM⟩; clear c0 c1 c2 d0 d1 d2; have HV13 := Hold.mk (HV12.out.trans hM); have HX13 := Hold.mk (HX12.out.mod hM); have HL1_13 := Hold.mk ((hM).at HL1_12.out id); have HL2_13 := Hold.mk ((hM).at HL2_12.out id); have HI1_13 := Hold.mk (ints_modT HI1_12.out hM); have HI2_13 := Hold.mk (ints_modT HI2_12.out hM); obtain ⟨c0, c1, c2, hI⟩ := HB.out _ HV13.out; obtain ⟨d0, d1, d2⟩ := HX13.out.cells; have HA13 := Hold.mk hI; clear hI; have l0 := cellsAt HL1_13.out 0; have l1 := cellsAt HL1_13.out 1; have l2 := cellsAt HL1_13.out 2; have l3 := cellsAt HL1_13.out 3; have m0 := cellsAt HL2_13.out 0; have m1 := cellsAt HL2_13.out 1; have m2 := cellsAt HL2_13.out 2; have m3 := cellsAt HL2_13.out 3; simp at l0 l1 l2 l3 m0 m1 m2 m3; clear hM)
    | (go_at_call 21; refine (ints_same io1 io2 IL ic1 ic2 w13 HI1_13.out HI2_13.out).mono ?_; rintro e w14 ⟨rfl, hM⟩; have HV14 := Hold.mk (HV13.out.trans hM); clear hM)
    | (go_at_call 13; refine (awake_any _).mono ?_; rintro e w15 ⟨rfl, hM⟩; have HV15 := Hold.mk hM; clear hM))
  go_ret
  exact ⟨rfl, HM0.out.trans (HV14.out.trans HV15.out)⟩
end Go.Proofs.Ytogalmkeipigeaa

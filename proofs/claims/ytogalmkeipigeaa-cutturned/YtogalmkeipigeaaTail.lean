/- A region that draws its order, whose first operations read or call what makes new memory at most, and whose others come behind all of these, one behind the other: one walk of the lexical order serves every order. -/
import Derived.Test.YtogalmkeipigeaaMaker
set_option linter.unusedSimpArgs false
set_option linter.unusedVariables false
namespace Go.Proofs.Ytogalmkeipigeaa
open Go.RowKit Go.Shelf

def bareO (o : Oper) : Oper := { o with op := .move (.const undef), guard := none, dst := none }
/-- The operations from k on struck. -/
def strikeL (l : List Oper) (k : Nat) : List Oper := l.take k ++ (l.drop k).map bareO

/-- From i one comes to j along what must come before. -/
def ancB (l : List Oper) : Nat → Nat → Nat → Bool
  | 0, i, j => i == j
  | f + 1, i, j => i == j || match l[i]? with | some o => o.after.toList.any (fun e => Region.binds .any e && ancB l f e.on j) | none => false
def coverB (l : List Oper) (k : Nat) : Bool := match l[k]? with
  | some o => (List.range k).all fun j => o.after.toList.any fun e => Region.binds .any e && ancB l l.length e.on j
  | none => false
def chainB (l : List Oper) (k : Nat) : Bool := (List.range l.length).all fun i => decide (i ≤ k) || match l[i]? with
  | some o => o.after.toList.any fun e => Region.binds .any e && e.on == i - 1
  | none => true
def guardB (l : List Oper) (k : Nat) : Bool := (l.take k).all fun o => match o.guard with | some (j, _) => decide (j < k) | none => true

section
variable {l : List Oper} {k : Nat}

theorem strikeL_len : (strikeL l k).length = l.length := by simp [strikeL]; omega
theorem strikeL_pre {i : Nat} (hi : i < k) : (strikeL l k)[i]? = l[i]? := by
  unfold strikeL
  by_cases h : i < l.length
  · rw [List.getElem?_append_left (by simp; omega), List.getElem?_take_of_lt hi]
  · rw [List.getElem?_eq_none (by simp; omega), List.getElem?_eq_none (by omega)]
theorem strikeL_post {i : Nat} (hi : k ≤ i) {o : Oper} (ho : l[i]? = some o) : (strikeL l k)[i]? = some (bareO o) := by
  have h := (List.getElem?_eq_some_iff.1 ho).1
  unfold strikeL
  rw [List.getElem?_append_right (by simp; omega), List.getElem?_map, List.getElem?_drop]
  simp only [List.length_take, Nat.min_eq_left (show k ≤ l.length by omega)]
  rw [show k + (i - k) = i by omega, ho]
  rfl

theorem struck_ready (i : Nat) (listed : Array Bool) : i ∈ Region.ready .any (strikeL l k).toArray listed ↔ i ∈ Region.ready .any l.toArray listed := by
  rw [mem_ready, mem_ready]
  simp only [List.getElem?_toArray]
  by_cases h : i < k
  · rw [strikeL_pre h]
  · cases ho : l[i]? with
    | none =>
      have : (strikeL l k)[i]? = none := by
        rw [List.getElem?_eq_none_iff] at ho ⊢
        rw [strikeL_len]; exact ho
      rw [this]
    | some o =>
      rw [strikeL_post (by omega) ho]
      simp [bareO]

/-- What is listed, all that must come before it is. -/
def Closed (l : List Oper) (listed : Array Bool) : Prop := ∀ i o, l[i]? = some o → listed.getD i false = true → ∀ e ∈ o.after, Region.binds .any e = true → listed.getD e.on false = true

theorem getD_two {listed : Array Bool} {j : Nat} (h : j < listed.size) (b d : Bool) : listed.getD j b = listed.getD j d := by
  rw [Array.getD_eq_getD_getElem?, Array.getD_eq_getD_getElem?, Array.getElem?_eq_getElem h]; rfl

theorem Closed.anc {listed : Array Bool} (hc : Closed l listed) : ∀ (f i j : Nat), listed.getD i false = true → ancB l f i j = true → listed.getD j false = true := by
  intro f
  induction f with
  | zero => intro i j hi h; simp only [ancB, beq_iff_eq] at h; exact h ▸ hi
  | succ f ih =>
    intro i j hi h
    simp only [ancB, Bool.or_eq_true, beq_iff_eq] at h
    rcases h with h | h
    · exact h ▸ hi
    · cases ho : l[i]? with
      | none => rw [ho] at h; cases h
      | some o =>
        rw [ho] at h
        simp only [List.any_eq_true, Bool.and_eq_true] at h
        obtain ⟨e, he, hb, ha⟩ := h
        exact ih _ _ (hc i o ho hi e (by simpa using he) hb) ha

theorem Closed.set {listed : Array Bool} (hc : Closed l listed) (hsz : listed.size = l.length) {i : Nat} (hi : i ∈ Region.ready .any l.toArray listed) : Closed l (listed.setIfInBounds i true) := by
  obtain ⟨hu, o', ho', hall⟩ := mem_ready.1 hi
  have mono : ∀ j, listed.getD j false = true → (listed.setIfInBounds i true).getD j false = true := fun j hj => by
    rw [getD_set]; split
    · rfl
    · exact hj
  intro j o ho hj e he hb
  rw [getD_set] at hj
  by_cases h : i = j
  · subst h
    have : o' = o := by simpa [ho] using ho'.symm
    subst this
    exact mono _ (hall e he hb)
  · rw [if_neg (fun h' => h h'.1)] at hj
    exact mono _ (hc j o ho hj e he hb)

/-- Just those below i are listed. -/
def ListedTo (n : Nat) (listed : Array Bool) (i : Nat) : Prop := listed.size = n ∧ ∀ j, j < n → ∀ d, listed.getD j d = decide (j < i)
theorem ListedTo.set {n i : Nat} {listed : Array Bool} (h : ListedTo n listed i) (hi : i < n) : ListedTo n (listed.setIfInBounds i true) (i + 1) :=
  ⟨by rw [Array.size_setIfInBounds]; exact h.1, fun j hj d => by
    rw [getD_set]
    by_cases e : i = j
    · subst e; rw [if_pos ⟨rfl, by rw [h.1]; exact hi⟩]; simp
    · rw [if_neg (fun h' => e h'.1), h.2 j hj d]; simp; omega⟩

/-- What the law asks of the region's text. -/
structure Tailed (l : List Oper) (k : Nat) : Prop where
  lt : k < l.length
  low : lowB l = true
  cover : coverB l k = true
  chain : chainB l k = true
  guard : guardB l k = true
  nd : l.all (fun o => !Op.isDefer o.op) = true

theorem Tailed.lowAt (T : Tailed l k) {i : Nat} {o : Oper} (ho : l[i]? = some o) {e : Edge} (he : e ∈ o.after) (hb : Region.binds .any e = true) : e.on < i := by
  have := List.all_eq_true.1 T.low i (List.mem_range.2 (List.getElem?_eq_some_iff.1 ho).1)
  simp only [ho, List.all_eq_true, Bool.or_eq_true, Bool.not_eq_true', decide_eq_true_eq] at this
  rcases this e (by simpa using he) with h | h
  · rw [hb] at h; cases h
  · exact h
theorem Tailed.chainAt (T : Tailed l k) {i : Nat} {o : Oper} (ho : l[i]? = some o) (hi : k < i) : ∃ e ∈ o.after, Region.binds .any e = true ∧ e.on = i - 1 := by
  have := List.all_eq_true.1 T.chain i (List.mem_range.2 (List.getElem?_eq_some_iff.1 ho).1)
  simp only [ho, Bool.or_eq_true, decide_eq_true_eq, List.any_eq_true, Bool.and_eq_true, beq_iff_eq] at this
  rcases this with h | ⟨e, he, hb, hon⟩
  · omega
  · exact ⟨e, by simpa using he, hb, hon⟩
theorem Tailed.ndAt (T : Tailed l k) {i : Nat} {o : Oper} (ho : l[i]? = some o) : ∀ c, o.op ≠ .defer c := by
  intro c e
  have := List.all_eq_true.1 T.nd o (List.mem_of_getElem? ho)
  rw [e] at this
  simp [Op.isDefer] at this
theorem Tailed.coverAt (T : Tailed l k) {listed : Array Bool} (hc : Closed l listed) (hk : k ∈ Region.ready .any l.toArray listed) : ∀ j, j < k → listed.getD j false = true := by
  obtain ⟨_, o, ho, hall⟩ := mem_ready.1 hk
  have ho' : l[k]? = some o := by simpa using ho
  have h := T.cover
  unfold coverB at h
  rw [ho'] at h
  intro j hj
  have := List.all_eq_true.1 h j (List.mem_range.2 hj)
  simp only [List.any_eq_true, Bool.and_eq_true] at this
  obtain ⟨e, he, hb, ha⟩ := this
  exact hc.anc _ _ _ (hall e (by simpa using he) hb) ha
theorem Tailed.wanted (T : Tailed l k) {i : Nat} (hi : i < k) {o : Oper} (ho : l[i]? = some o) (tmps : Array Value) : Region.wanted o (yielded (strikeL l k).toArray tmps) = Region.wanted o (yielded l.toArray tmps) := by
  unfold Region.wanted
  cases hg : o.guard with
  | none => rfl
  | some g =>
    obtain ⟨j, b⟩ := g
    have hm : o ∈ l.take k := List.mem_of_getElem? (i := i) (by rw [List.getElem?_take_of_lt hi]; exact ho)
    have := List.all_eq_true.1 T.guard o hm
    simp only [hg, decide_eq_true_eq] at this
    simp only [yielded, List.getElem?_toArray, strikeL_pre this]

theorem Tailed.someReady (T : Tailed l k) {listed : Array Bool} (hsz : listed.size = l.length) : ∀ j, listed.getD j true = false → ∃ i, i ∈ Region.ready .any l.toArray listed := by
  intro j
  induction j using Nat.strongRecOn with
  | _ j ih =>
    intro hj
    by_cases h : ∃ m, m < j ∧ listed.getD m true = false
    · obtain ⟨m, hm, hu⟩ := h; exact ih m hm hu
    · have hlt : j < listed.size := by
        rcases Nat.lt_or_ge j listed.size with h' | h'
        · exact h'
        · rw [Array.getD_eq_getD_getElem?, Array.getElem?_eq_none h'] at hj; cases hj
      have ho : l[j]? = some (l[j]'(by omega)) := List.getElem?_eq_getElem (by omega)
      refine ⟨j, mem_ready.2 ⟨hj, _, by rw [List.getElem?_toArray]; exact ho, fun e he hb => ?_⟩⟩
      have hl := T.lowAt ho he hb
      cases hv : listed.getD e.on true with
      | false => exact absurd ⟨e.on, hl, hv⟩ h
      | true => rw [getD_two (by omega) false true]; exact hv

/-- Behind the first ones there is one way alone. -/
theorem Tailed.only (T : Tailed l k) {listed : Array Bool} {i : Nat} (hi : k ≤ i) (h : ListedTo l.length listed i) (j : Nat) : j ∈ Region.ready .any l.toArray listed ↔ j = i ∧ i < l.length := by
  constructor
  · intro hj
    obtain ⟨hu, o, ho, hall⟩ := mem_ready.1 hj
    have ho' : l[j]? = some o := by simpa using ho
    have hlt := (List.getElem?_eq_some_iff.1 ho').1
    rw [h.2 j hlt] at hu
    simp only [decide_eq_false_iff_not] at hu
    by_cases e : j = i
    · exact ⟨e, e ▸ hlt⟩
    · exfalso
      obtain ⟨e', he, hb, hon⟩ := T.chainAt ho' (by omega)
      have := hall e' he hb
      rw [hon, h.2 _ (by omega)] at this
      simp at this
      omega
  · rintro ⟨rfl, hlt⟩
    have ho : l[j]? = some (l[j]'hlt) := List.getElem?_eq_getElem hlt
    refine mem_ready.2 ⟨by rw [h.2 j hlt]; simp, _, by rw [List.getElem?_toArray]; exact ho, fun e he hb => ?_⟩
    have hl := T.lowAt ho he hb
    rw [h.2 _ (by omega)]
    simpa using hl

variable {P : Program} {F : Fence} {n : Nat} {Q : Exit → Act → World → Prop}

theorem Tailed.struck (T : Tailed l k) {X : World → Prop} {Qb : Act → Prop} : ∀ (fuel i : Nat) (listed : Array Bool) (a : Act), k ≤ i → i ≤ l.length → ListedTo l.length listed i → wpAnyQ P .any (strikeL l k).toArray X Qb fuel listed a → l.length - i ≤ fuel ∧ Qb a := by
  intro fuel
  induction fuel with
  | zero =>
    intro i listed a hk hi hL h
    rcases Nat.lt_or_ge i l.length with hlt | hge
    · have := (struck_ready (k := k) i listed).2 ((T.only hk hL i).2 ⟨rfl, hlt⟩)
      rw [h.1] at this; cases this
    · exact ⟨by omega, h.2⟩
  | succ fuel ih =>
    intro i listed a hk hi hL h
    rcases Nat.lt_or_ge i l.length with hlt | hge
    · have ho : l[i]? = some (l[i]'hlt) := List.getElem?_eq_getElem hlt
      have hq := h.2 i ((struck_ready (k := k) i listed).2 ((T.only hk hL i).2 ⟨rfl, hlt⟩))
      obtain ⟨v, _, hK⟩ := yieldsIn_of_qOp (by rw [List.getElem?_toArray]; exact strikeL_post hk ho) hq
      have := ih (i + 1) _ _ (by omega) (by omega) (hL.set hlt) hK
      exact ⟨by omega, this.2⟩
    · refine ⟨by omega, h.1 ?_⟩
      rw [List.eq_nil_iff_forall_not_mem]
      intro j hj
      have := (T.only hk hL j).1 ((struck_ready (k := k) j listed).1 hj)
      omega

theorem Tailed.tail (T : Tailed l k) : ∀ (d i fuel : Nat) (listed : Array Bool) (a : Act) (w : World), l.length - i = d → d ≤ fuel → k ≤ i → i ≤ l.length → ListedTo l.length listed i → wpListIn F n P l.toArray Q (l.drop i) a w → wpAnyIn F n P .any l.toArray Q fuel listed a w := by
  intro d
  induction d with
  | zero =>
    intro i fuel listed a w hd hf hk hi hL h
    have hnil : Region.ready .any l.toArray listed = [] := by
      rw [List.eq_nil_iff_forall_not_mem]
      intro j hj
      have := (T.only hk hL j).1 hj
      omega
    rw [List.drop_eq_nil_of_le (by omega)] at h
    cases fuel with
    | zero => exact ⟨hnil, h⟩
    | succ f => exact ⟨fun _ => h, fun j hj => by rw [hnil] at hj; cases hj⟩
  | succ d ih =>
    intro i fuel listed a w hd hf hk hi hL h
    have hlt : i < l.length := by omega
    cases fuel with
    | zero => omega
    | succ f =>
      refine ⟨fun e => ?_, fun j hj => ?_⟩
      · have := (T.only hk hL i).2 ⟨rfl, hlt⟩
        rw [e] at this; cases this
      · obtain ⟨rfl, _⟩ := (T.only hk hL j).1 hj
        have ho : l[j]? = some (l[j]'hlt) := List.getElem?_eq_getElem hlt
        rw [List.drop_eq_getElem_cons hlt] at h
        unfold wpListIn at h
        unfold wpOpIn
        simp only [List.getElem?_toArray, ho]
        have next : ∀ a' w', wpListIn F n P l.toArray Q (l.drop (j + 1)) a' w' → wpAnyIn F n P .any l.toArray Q f (listed.setIfInBounds j true) a' w' :=
          fun a' w' h' => ih (j + 1) f _ a' w' (by omega) (by omega) (by omega) (by omega) (hL.set hlt) h'
        split
        · rename_i hw
          rw [if_pos hw] at h
          exact Oper.wpIn_mono next h
        · rename_i hw
          rw [if_neg hw] at h
          exact ⟨h.1, next _ _ h.2⟩

theorem Tailed.go (T : Tailed l k) (hfn : ∀ f, F.fn f) (hd : F.depth = none) (hcall : ∀ f args W R, Calls P f args W R → CallsIn F (n - 1) P f args W R) {X : World → Prop} {Qb : Act → Prop}
    (hQb : ∀ a w, Qb a → X w → wpListIn F n P l.toArray Q (l.drop k) a w) : ∀ (fuel : Nat) (listed : Array Bool) (a : Act) (w : World), listed.size = l.length → Closed l listed → (∀ j, k ≤ j → j < l.length → listed.getD j true = false) → X w →
      wpAnyQ P .any (strikeL l k).toArray X Qb fuel listed a → wpAnyIn F n P .any l.toArray Q fuel listed a w := by
  intro fuel
  induction fuel with
  | zero =>
    intro listed a w hsz hc hun hX h
    exfalso
    obtain ⟨i, hi⟩ := T.someReady hsz k (hun k (Nat.le_refl _) T.lt)
    have h1 := h.1
    rw [← struck_ready (k := k) i] at hi
    rw [h1] at hi; cases hi
  | succ fuel ih =>
    intro listed a w hsz hc hun hX h
    by_cases hkr : k ∈ Region.ready .any l.toArray listed
    · have hcov := T.coverAt hc hkr
      have hL : ListedTo l.length listed k := ⟨hsz, fun j hj d => by
        by_cases hjk : j < k
        · rw [getD_two (by omega) d false, hcov j hjk]; simp [hjk]
        · rw [getD_two (by omega) d true, hun j (by omega) hj]; simp [hjk]⟩
      obtain ⟨h1, h2⟩ := T.struck (fuel + 1) k listed a (Nat.le_refl _) (Nat.le_of_lt T.lt) hL h
      exact T.tail _ k (fuel + 1) listed a w rfl h1 (Nat.le_refl _) (Nat.le_of_lt T.lt) hL (hQb a w h2 hX)
    · refine ⟨fun e => ?_, fun i hi => ?_⟩
      · obtain ⟨i, hi⟩ := T.someReady hsz k (hun k (Nat.le_refl _) T.lt)
        rw [e] at hi; cases hi
      · obtain ⟨hu, o, ho, hall⟩ := mem_ready.1 hi
        have ho' : l[i]? = some o := by simpa using ho
        have hilt := (List.getElem?_eq_some_iff.1 ho').1
        have hik : i < k := by
          rcases Nat.lt_or_ge i k with h' | h'
          · exact h'
          · exfalso
            rcases Nat.lt_or_ge k i with h2 | h2
            · obtain ⟨e, he, hb, hon⟩ := T.chainAt ho' h2
              have := hall e he hb
              rw [hon, getD_two (by omega) false true, hun _ (by omega) (by omega)] at this
              cases this
            · have : i = k := by omega
              exact hkr (this ▸ hi)
        have hq := h.2 i ((struck_ready (k := k) i listed).2 hi)
        obtain ⟨v, hy, hK⟩ := yieldsIn_of_qOp (by rw [List.getElem?_toArray, strikeL_pre hik]; exact ho') hq
        have hnext : ∀ w', X w' → wpAnyIn F n P .any l.toArray Q fuel (listed.setIfInBounds i true) (a.put o.dst v) w' := fun w' hX' =>
          ih _ _ w' (by rw [Array.size_setIfInBounds]; exact hsz) (hc.set hsz hi) (fun j hj hjl => by rw [getD_set, if_neg (fun h => by omega)]; exact hun j hj hjl) hX' hK
        unfold wpOpIn
        simp only [ho]
        unfold YieldsIn at hy
        rw [T.wanted hik ho'] at hy
        rcases hy with ⟨hw, hv⟩ | ⟨hw, rfl⟩
        · rw [if_pos hw]
          exact wpIn_of_quiet (C := X) (K := fun a' => a' = a.put o.dst v) hfn hd hcall (T.ndAt ho') hX (fun a' w' hw' e => e ▸ hnext w' hw') ⟨v, hv, rfl⟩
        · rw [if_neg (by rw [hw]; simp)]
          exact ⟨fun f _ => hfn f, hnext w hX⟩
end

theorem region_tail {P : Program} {F : Fence} {n : Nat} (hfn : ∀ f, F.fn f) (hd : F.depth = none) (hcall : ∀ f args W R, Calls P f args W R → CallsIn F (n - 1) P f args W R)
    {id : Nat} {Q : Exit → Act → World → Prop} {a : Act} {w : World} {l : List Oper} (hm : P.follows .mixedOrders = true) (k : Nat) (T : Tailed l k)
    (hB : Region.lexB .any (strikeL l k).toArray = true) (X : World → Prop) (hX : X w.drew)
    (h : wpQuiet P (strikeL l k).toArray X (fun a' => ∀ w', X w' → wpListIn F n P l.toArray Q (l.drop k) a' w') (strikeL l k) a) : (Code.region id l.toArray true).wpIn F n P Q a w := by
  refine wpIn_region_any hm ?_
  refine T.go (X := X) hfn hd hcall (Qb := fun a' => ∀ w', X w' → wpListIn F n P l.toArray Q (l.drop k) a' w') (fun a' w' hq hx => hq w' hx) _ _ _ _ (by simp) ?_ ?_ hX ?_
  · intro i o ho hi
    rw [Array.getD_eq_getD_getElem?, Array.getElem?_replicate] at hi
    split at hi <;> cases hi
  · intro j hj hjl
    rw [Array.getD_eq_getD_getElem?, Array.getElem?_replicate]; simp [hjl]
  · simp only [Region.lexB, Bool.and_eq_true] at hB
    have := wpAnyQ_lex (C := X) (md := .any) hB.1 (strikeL l k) 0 (Array.replicate (strikeL l k).toArray.size false) a (by simp) (by simpa using hB.2) h
    simpa [strikeL_len] using this
end Go.Proofs.Ytogalmkeipigeaa

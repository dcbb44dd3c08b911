/- What speaks of no seat: ranges over functions, frames, quiet regions, arrays, lists of integers. -/
import Derived.Test.YtknbcmildpmokaaProg
import Derived.RangeFuncNested
import Derived.RangeFuncBound
import Derived.RangeFuncCalls
import Derived.RangeFuncLeaves
import Derived.WalkKit
import Derived.OwnWalkIn
import Derived.TacticsInMore
import Derived.LoopNIn
import Derived.LoopIn
import Derived.Shelf.Abstract
import Derived.Shelf.RegionOpen
import Derived.Deep.QuietTactic
import Derived.WalkLawsBesides
import Derived.BigQuiet
import Derived.Laws.Rows
set_option linter.unusedSimpArgs false
set_option linter.unusedVariables false

/- A range over a function, as its callers want it: a round may turn the blocks of a set T alone (and make new ones); what is said between two rounds speaks of blocks that lay when the loop began. -/
namespace Go.Proofs.Ytknbcmildpmokaa
open Go.RowKit Go.Shelf

/-- A fact that the walk is not to use as a rule. -/
structure Hold (p : Prop) : Prop where
  out : p

/-- Of what lay in W, the blocks of T alone may have turned. -/
structure Mod (T : Nat → Prop) (W W' : World) : Prop where
  os : W'.os = W.os
  tape : W'.tape = W.tape
  output : W'.output = W.output
  size : W.heap.size ≤ W'.heap.size
  block : ∀ k, k < W.heap.size → ¬ T k → W'.heap[k]? = W.heap[k]?

abbrev noB : Nat → Prop := fun _ => False

theorem Mod.refl (T : Nat → Prop) (W : World) : Mod T W W := ⟨rfl, rfl, rfl, Nat.le_refl _, fun _ _ _ => rfl⟩
theorem Mod.trans {T : Nat → Prop} {A B C : World} (h : Mod T A B) (k : Mod T B C) : Mod T A C :=
  ⟨k.os.trans h.os, k.tape.trans h.tape, k.output.trans h.output, Nat.le_trans h.size k.size, fun i hi hT => (k.block i (Nat.lt_of_lt_of_le hi h.size) hT).trans (h.block i hi hT)⟩
/-- What turns behind may be other blocks, as far as they did not lie before. -/
theorem Mod.then {T T' : Nat → Prop} {A B C : World} (h : Mod T A B) (k : Mod T' B C) (hT : ∀ i, i < A.heap.size → T' i → T i) : Mod T A C :=
  ⟨k.os.trans h.os, k.tape.trans h.tape, k.output.trans h.output, Nat.le_trans h.size k.size, fun i hi hn => (k.block i (Nat.lt_of_lt_of_le hi h.size) (fun ht => hn (hT i hi ht))).trans (h.block i hi hn)⟩
theorem Mod.wider {T T' : Nat → Prop} {A B : World} (h : Mod T A B) (hT : ∀ i, i < A.heap.size → T i → T' i) : Mod T' A B :=
  ⟨h.os, h.tape, h.output, h.size, fun i hi hn => h.block i hi (fun ht => hn (hT i hi ht))⟩
theorem Mod.alloc {T : Nat → Prop} {A B : World} (h : Mod T A B) (o : Obj) : Mod T A (B.alloc o) :=
  ⟨h.os, h.tape, h.output, by simp; exact Nat.le_succ_of_le h.size, fun i hi hn => (Below.heap_alloc B o i (Nat.lt_of_lt_of_le hi h.size)).trans (h.block i hi hn)⟩
theorem Mod.drew {T : Nat → Prop} {A B : World} (h : Mod T A B) : Mod T A B.drew := ⟨h.os, h.tape, h.output, h.size, h.block⟩
theorem Mod.drewN {T : Nat → Prop} {A B : World} (h : Mod T A B) (n : Nat) : Mod T A (B.drewN n) := ⟨h.os, h.tape, h.output, h.size, h.block⟩
theorem Mod.setCell {T : Nat → Prop} {A B : World} (h : Mod T A B) {p : Addr} (hp : p.block < A.heap.size → T p.block) (v : Value) : Mod T A (B.setCell p v) :=
  ⟨h.os, h.tape, h.output, by show _ ≤ (B.heap.modify _ _).size; rw [Array.size_modify]; exact h.size, fun i hi hn => by
    have hne : p.block ≠ i := fun e => hn (e ▸ hp (e ▸ hi))
    show (B.heap.modify _ _)[i]? = _
    rw [Array.getElem?_modify, if_neg hne]
    exact h.block i hi hn⟩
theorem Mod.putObj {T : Nat → Prop} {A B : World} (h : Mod T A B) {b : Nat} (hp : b < A.heap.size → T b) (o : Obj) : Mod T A (B.putObj b o) :=
  ⟨h.os, h.tape, h.output, by simpa using h.size, fun i hi hn => by
    have hne : i ≠ b := fun e => hn (e ▸ hp (e ▸ hi))
    exact (World.putObj_heap_other hne).trans (h.block i hi hn)⟩
theorem Mod.of_below {A B : World} {n : Nat} (h : Below n A B) (hn : n = A.heap.size) : Mod noB A B := by
  subst hn
  exact ⟨h.os, h.tape, h.output, h.size, fun i hi _ => h.block i hi⟩
theorem Mod.below {A B : World} (h : Mod noB A B) : Below A.heap.size A B :=
  ⟨h.os, h.tape, h.output, h.size, fun i hi => h.block i hi id⟩
theorem Mod.of_grownBy {T : Nat → Prop} {A B : World} {row : Option Nat} (h : A.grownBy B row) (hr : ∀ r, row = some r → r < A.heap.size → T r) : Mod T A B :=
  ⟨h.os, h.tape, h.output, h.size, fun i hi hn => h.block i hi (fun e => hn (hr i e.symm hi))⟩
/-- A block that lies on. -/
theorem Mod.at {T : Nat → Prop} {A B : World} (h : Mod T A B) {k : Nat} {o : Obj} (hk : A.heap[k]? = some o) (hn : ¬ T k) : B.heap[k]? = some o :=
  (h.block k (Array.getElem?_eq_some_iff.1 hk).1 hn).trans hk
theorem Mod.keepsFrom {T : Nat → Prop} {A B : World} (h : Mod T A B) {n : Nat} (hT : ∀ k, T k → k < n) : KeepsFrom n A B :=
  ⟨h.size, fun k o hk ho _ => h.at ho (fun ht => absurd (hT k ht) (by omega))⟩

/-- What hangs on the blocks below B alone. -/
def Stable {β : Type} (B : Nat) (I : β → World → Prop) : Prop := ∀ s W W', I s W → Mod (fun k => B ≤ k) W W' → I s W'

/-- The blocks of S lie as they lay. -/
def KeepB (S : Nat → Prop) (W W' : World) : Prop := ∀ k, S k → W'.heap[k]? = W.heap[k]?

theorem Mod.keepB {T S : Nat → Prop} {A B : World} (h : Mod T A B) (hS : ∀ k, S k → k < A.heap.size ∧ ¬ T k) : KeepB S A B := fun k hk => h.block k (hS k hk).1 (hS k hk).2
theorem KeepB.trans {S : Nat → Prop} {A B C : World} (h : KeepB S A B) (k : KeepB S B C) : KeepB S A C := fun i hi => (k i hi).trans (h i hi)

/-- An iterator's value, laid in world w: called with whatever loop body that keeps the blocks of S, it hands over the elements of L, in their order; of its own it turns no block that lay when it was called. -/
def Runs {α : Type} (P : Program) (gf : Nat) (lb : Array Value) (enc : α → Value) (S : Nat → Prop) (L : List α) (w : World) : Prop :=
  ∀ (n l : Nat) (J Jx : List α → World → Prop) (W : World), w.heap.size ≤ W.heap.size → KeepB S w W → Stable W.heap.size J → Stable W.heap.size Jx →
    (∀ pre x rest W1, L = pre ++ x :: rest → J pre W1 → W.heap.size ≤ W1.heap.size → YieldAt Fence.wide n P l #[enc x] W1 fun e W' =>
      (e = .returned (.bool true) ∧ J (pre ++ [x]) W' ∧ Mod (fun k => k < W.heap.size ∧ ¬ S k) W1 W') ∨ (e = .returned (.bool false) ∧ Jx (pre ++ [x]) W' ∧ Mod (fun k => k < W.heap.size ∧ ¬ S k) W1 W')) →
    J [] W →
    CallsIn Fence.wide (n + 1) P gf (#[.func (.yield l) #[] #[]] ++ lb) W fun e W' => (∃ v, e = .returned v) ∧ W.heap.size ≤ W'.heap.size ∧ (J L W' ∨ ∃ pre, pre <+: L ∧ Jx pre W')

theorem Runs.later {α : Type} {P : Program} {gf : Nat} {lb : Array Value} {enc : α → Value} {S : Nat → Prop} {L : List α} {w w' : World} (h : Runs P gf lb enc S L w) (hb : w.heap.size ≤ w'.heap.size) (hk : KeepB S w w') : Runs P gf lb enc S L w' :=
  fun n l J Jx W hs hW => h n l J Jx W (Nat.le_trans hb hs) (hk.trans hW)

/-- The same, told by how many elements have come. -/
theorem runs_of {α : Type} {P : Program} {gf : Nat} {lb : Array Value} {enc : α → Value} {S : Nat → Prop} {L : List α} {w : World}
    (h : ∀ (n l : Nat) (J Jx : Nat → World → Prop) (W : World), w.heap.size ≤ W.heap.size → KeepB S w W → Stable W.heap.size J → Stable W.heap.size Jx →
      (∀ (m : Nat) (hm : m < L.length) (W1 : World), J m W1 → W.heap.size ≤ W1.heap.size → YieldAt Fence.wide n P l #[enc L[m]] W1 fun e W' =>
        (e = .returned (.bool true) ∧ J (m + 1) W' ∧ Mod (fun k => k < W.heap.size ∧ ¬ S k) W1 W') ∨ (e = .returned (.bool false) ∧ Jx (m + 1) W' ∧ Mod (fun k => k < W.heap.size ∧ ¬ S k) W1 W')) →
      J 0 W → CallsIn Fence.wide (n + 1) P gf (#[.func (.yield l) #[] #[]] ++ lb) W fun e W' => (∃ v, e = .returned v) ∧ W.heap.size ≤ W'.heap.size ∧ (J L.length W' ∨ ∃ m, Jx m W')) :
    Runs P gf lb enc S L w := by
  intro n l J Jx W hs hW hJ hJx hY h0
  have htake : ∀ m (hm : m < L.length), L.take (m + 1) = L.take m ++ [L[m]] := fun m hm => List.take_succ_eq_append_getElem hm
  refine (h n l (fun m W => J (L.take m) W) (fun m W => Jx (L.take m) W) W hs hW (fun s A B hs hg => hJ _ A B hs hg) (fun s A B hs hg => hJx _ A B hs hg) ?_ (by simpa using h0)).mono ?_
  · intro m hm W1 hj hsz
    have := hY (L.take m) L[m] (L.drop (m + 1)) W1 (by rw [List.getElem_cons_drop, List.take_append_drop]) hj hsz
    rw [← htake m hm] at this
    exact this
  · rintro e W' ⟨hv, hz, hj | ⟨m, hm⟩⟩
    · exact ⟨hv, hz, .inl (by rw [List.take_length] at hj; exact hj)⟩
    · exact ⟨hv, hz, .inr ⟨_, List.take_prefix _ _, hm⟩⟩

/-- How a round's body may be left. -/
def Post {α : Type} (T : Nat → Prop) (I : List α → World → Prop) (Ix : Code → List α → World → Prop) (xs : List α) (W : World) : Exit → Act → World → Prop
  | .normal, _, W' => Mod T W W' ∧ I xs W'
  | .ret, _, W' => Mod T W W' ∧ Ix .ret xs W'
  | .exit id, _, W' => Mod T W W' ∧ Ix (.exit id) xs W'
  | .goto t, _, W' => Mod T W W' ∧ Ix (.goto t) xs W'
  | .panic _, _, _ => False
  | .outgrown, _, _ => False

/-- The assign code of a loop whose variable is boxed, or not: what the round's body is told. -/
def Var {α : Type} (B : Nat) (box : Option (TypeId × (α → Array Value))) (fa : Nat → α → Act) (x : α) (a' : Act) (W : World) : Prop :=
  match box with
  | none => a' = fa 0 x
  | some (t, cs) => ∃ b, B ≤ b ∧ W.heap[b]? = some (.cells (cs x) t) ∧ a' = fa b x

section
variable {α : Type} {P : Program} {n : Nat} {g : Operand} {ps : Array Tmp} {assign body : Code} {Q : Exit → Act → World → Prop} {a : Act} {w : World}

theorem roundIn_any {F : Fence} (hF : F.depth = none) {m m' l : Nat} {f : FuncId} {tmps : Array Value} {R : Ending → World → Prop} (h : RoundIn F m P l f tmps assign body w R) : RoundIn F m' P l f tmps assign body w R :=
  ⟨h.1, fun c cs _ => h.2 c cs (fun d hd => by rw [hF] at hd; cases hd)⟩

theorem roundIn_inRound {F : Fence} {m l r : Nat} {f : FuncId} {tmps : Array Value} {R : Ending → World → Prop} (h : RoundIn F m P l f tmps assign body w R) : RoundIn (F.inRound r) m P l f tmps assign body w R := h

/-- The heart of both laws: the record lies at l in W1. -/
theorem range_core {gf : Nat} {lb : Array Value} {enc : α → Value} {S : Nat → Prop} {L : List α} (hps : ps.size = 1) (hr : Runs P gf lb enc S L w)
    {l B : Nat} {W1 : World} (hB : B ≤ l) (hl1 : l < W1.heap.size) (fn : FuncId) (dfr : Nat) (hlW : W1.heap[l]? = some (.loop { state := .ready, pending := none, fn := fn, tmps := a.tmps, params := ps, assign := assign, body := body, defers := dfr }))
    (hS : ∀ k, S k → k < B) (hwB : w.heap.size = B) (hw1 : Mod noB w W1) (T : Nat → Prop) (hT : ∀ k, T k → k < B ∧ ¬ S k)
    (I : List α → World → Prop) (Ix : Code → List α → World → Prop) (hI : Stable B I) (hIx : ∀ c, Stable B (Ix c)) (h0 : I [] w)
    (X : World → Prop) (hX : ∀ W W', X W → Mod (fun k => k = l ∨ T k ∨ W1.heap.size ≤ k) W W' → X W') (hX1 : X W1)
    (box : Option (TypeId × (α → Array Value))) (fa : Nat → α → Act)
    (hassign : ∀ (l : Nat) (x : α) (W : World) (K : Act → World → Prop),
      (match box with | none => K (fa 0 x) W | some (t, cs) => K (fa W.heap.size x) (W.alloc (.cells (cs x) t))) →
      assign.wpIn (Fence.wide.inRound l) n P (Exit.then K (fun _ _ _ => False)) { tmps := (ps.zip #[enc x]).foldl (fun t (p, v) => t.setIfInBounds p v) a.tmps, defers := [] } W)
    (hbody : ∀ (l : Nat) (pre : List α) (x : α) (rest : List α) (a' : Act) (W : World), L = pre ++ x :: rest → B ≤ l → (∃ r, W.heap[l]? = some (.loop r)) → B ≤ W.heap.size → I pre W → Var B box fa x a' W →
      body.wpIn (Fence.wide.inRound l) n P (Post T I Ix (pre ++ [x]) W) a' W) (m : Nat) :
    CallsIn Fence.wide m P gf (#[.func (.yield l) #[] #[]] ++ lb) W1 fun e W' => (∃ v, e = .returned v) ∧ ∃ jump W4, (Instr.endLoop l).run P W' = .ok jump W4 ∧ W1.heap.size ≤ W4.heap.size ∧ X W4 ∧
      (match jump with | none => I L W4 | some c => ∃ pre, pre <+: L ∧ Ix c pre W4) := by
  obtain ⟨rec, hrec⟩ : ∃ rec : LoopState → Option Code → Loop, rec = fun st pe => { state := st, pending := pe, fn := fn, tmps := a.tmps, params := ps, assign := assign, body := body, defers := dfr } := ⟨_, rfl⟩
  have hl0 : W1.heap[l]? = some (.loop (rec .ready none)) := by rw [hrec]; exact hlW
  have hBl : B ≤ l := hB
  -- what a write to the record leaves
  have put_l : ∀ (W : World) (o : Obj), Mod (fun k => k = l) W (W.putObj l o) := fun W o => (Mod.refl (fun k => k = l) W).putObj (b := l) (fun _ => rfl) o
  have hIput : ∀ pre W o, I pre W → I pre (W.putObj l o) := fun pre W o h => hI _ _ _ h ((put_l W o).wider (fun i _ e => e ▸ hBl))
  have hIxput : ∀ c pre W o, Ix c pre W → Ix c pre (W.putObj l o) := fun c pre W o h => hIx c _ _ _ h ((put_l W o).wider (fun i _ e => e ▸ hBl))
  have hXput : ∀ W o, X W → X (W.putObj l o) := fun W o h => hX _ _ h ((put_l W o).wider (fun i _ e => .inl e))
  have hcall := hr n l (fun pre W => I pre W ∧ W.heap[l]? = some (.loop (rec .ready none)) ∧ X W) (fun pre W => ∃ c, Ix c pre W ∧ W.heap[l]? = some (.loop (rec .done (some c))) ∧ X W) W1 hw1.size
    (hw1.keepB (fun k hk => ⟨hwB ▸ hS k hk, id⟩))
    (fun s W W' h hm => ⟨hI _ _ _ h.1 (hm.wider (fun i _ hi => by omega)), hm.at h.2.1 (by omega), hX _ _ h.2.2 (hm.wider (fun i _ hi => .inr (.inr hi)))⟩)
    (fun s W W' h hm => by
      obtain ⟨c, h1, h2, h3⟩ := h
      exact ⟨c, hIx c _ _ _ h1 (hm.wider (fun i _ hi => by omega)), hm.at h2 (by omega), hX _ _ h3 (hm.wider (fun i _ hi => .inr (.inr hi)))⟩)
    ?_ ⟨hI _ _ _ h0 (hw1.wider (fun i _ h => h.elim)), hl0, hX1⟩
  · refine callsIn_wide.2 (callsIn_wide.1 (hcall.mono ?_))
    rintro e W2 ⟨hv, hsz2, ⟨hi, hl, hx⟩ | ⟨pre, hpre, c, hi, hl, hx⟩⟩
    · exact ⟨hv, none, _, by have := run_endLoop (P := P) hl (by rw [hrec]; simp); rw [hrec] at this; exact this, by simpa using hsz2, hXput _ _ hx, hIput _ _ _ hi⟩
    · exact ⟨hv, some c, _, by have := run_endLoop (P := P) hl (by rw [hrec]; simp); rw [hrec] at this; exact this, by simpa using hsz2, hXput _ _ hx, pre, hpre, hIxput _ _ _ _ hi⟩
  · -- one round
    rintro pre x rest W hL ⟨hi, hl, hx⟩ hszW
    have hlt : l < W.heap.size := (Array.getElem?_eq_some_iff.1 hl).1
    have hy := run_yield (P := P) (args := #[enc x]) hl (by rw [hrec]; exact hps.symm)
    rw [hrec] at hy
    refine ⟨fn, _, assign, body, hy, roundIn_any rfl (roundIn_of_wpIn trivial (hassign l x W _ ?_))⟩
    -- the world that the assign code leaves
    have hgo : ∀ (a' : Act) (Wa : World), Mod noB W Wa → Var B box fa x a' Wa → ∃ w₂, (Instr.beginRound l).run P Wa = .ok () w₂ ∧ body.wpIn (Fence.wide.inRound l) n P (roundPost P l (fun e W' =>
        (e = .returned (.bool true) ∧ (I (pre ++ [x]) W' ∧ W'.heap[l]? = some (.loop (rec .ready none)) ∧ X W') ∧ Mod (fun k => k < W1.heap.size ∧ ¬ S k) W W') ∨
        (e = .returned (.bool false) ∧ (∃ c, Ix c (pre ++ [x]) W' ∧ W'.heap[l]? = some (.loop (rec .done (some c))) ∧ X W') ∧ Mod (fun k => k < W1.heap.size ∧ ¬ S k) W W'))) a' w₂ := by
      intro a' Wa hma hvar
      have hla := hma.at hl id
      have hlta : l < Wa.heap.size := (Array.getElem?_eq_some_iff.1 hla).1
      refine ⟨_, run_beginRound hla (by rw [hrec]), ?_⟩
      obtain ⟨Wb, hWb⟩ : ∃ Wb, Wa.putObj l (.loop { rec .ready none with state := .busy }) = Wb := ⟨_, rfl⟩
      have hlb : Wb.heap[l]? = some (.loop { rec .ready none with state := .busy }) := by rw [← hWb]; exact World.putObj_heap_same hlta
      have hmb : Mod (fun k => k = l) Wa Wb := by rw [← hWb]; exact put_l _ _
      have hwb : Mod (fun k => k = l) W Wb := hma.wider (fun _ _ h => h.elim) |>.trans hmb
      have hib : I pre Wb := hI _ _ _ hi (hwb.wider (fun i _ e => e ▸ hBl))
      have hxb : X Wb := hX _ _ hx (hwb.wider (fun i _ e => .inl e))
      have hvb : Var B box fa x a' Wb := by
        unfold Var at hvar ⊢
        split at hvar
        · exact hvar
        · obtain ⟨b, h1, h2, h3⟩ := hvar
          refine ⟨b, h1, hmb.at h2 (fun e => ?_), h3⟩
          rw [e, hla] at h2
          cases h2
      rw [hWb]
      refine wpIn_mono (hbody l pre x rest a' Wb hL hBl ⟨_, hlb⟩ (by have := hwb.size; omega) hib hvb) ?_
      have fin : ∀ (jump : Option Code) (W3 : World), Mod T Wb W3 → (Instr.endRound l jump).run P W3 = .ok (.bool jump.isNone) (W3.putObj l (.loop (rec (if jump.isNone then .ready else .done) jump))) ∧
          (W3.putObj l (.loop (rec (if jump.isNone then .ready else .done) jump))).heap[l]? = some (.loop (rec (if jump.isNone then .ready else .done) jump)) ∧ X (W3.putObj l (.loop (rec (if jump.isNone then .ready else .done) jump))) ∧
          Mod (fun k => k < W1.heap.size ∧ ¬ S k) W (W3.putObj l (.loop (rec (if jump.isNone then .ready else .done) jump))) := by
        intro jump W3 hm3
        have hl3 : W3.heap[l]? = some (.loop { rec .ready none with state := .busy }) := hm3.at hlb (fun ht => by have := (hT l ht).1; omega)
        have := run_endRound (P := P) jump hl3
        rw [hrec] at this ⊢
        have hlS : l < W1.heap.size ∧ ¬ S l := ⟨hl1, fun h => by have := hS l h; omega⟩
        refine ⟨this, World.putObj_heap_same (Array.getElem?_eq_some_iff.1 hl3).1, hXput _ _ (hX _ _ hxb (hm3.wider (fun i _ ht => .inr (.inl ht)))), ?_⟩
        exact ((hwb.wider (fun i _ e => e ▸ hlS)).trans (hm3.wider (fun i _ ht => ⟨by have := (hT i ht).1; omega, (hT i ht).2⟩))).trans ((put_l _ _).wider (fun i _ e => e ▸ hlS))
      rintro e a3 W3 hp
      cases e with
      | normal =>
        obtain ⟨f1, f2, f3, f4⟩ := fin none W3 hp.1
        exact ⟨_, _, f1, .inl ⟨rfl, ⟨hIput _ _ _ hp.2, f2, f3⟩, f4⟩⟩
      | ret =>
        obtain ⟨f1, f2, f3, f4⟩ := fin (some .ret) W3 hp.1
        exact ⟨_, _, f1, .inr ⟨rfl, ⟨_, hIxput _ _ _ _ hp.2, f2, f3⟩, f4⟩⟩
      | exit id =>
        obtain ⟨f1, f2, f3, f4⟩ := fin (some (.exit id)) W3 hp.1
        exact ⟨_, _, f1, .inr ⟨rfl, ⟨_, hIxput _ _ _ _ hp.2, f2, f3⟩, f4⟩⟩
      | goto t =>
        obtain ⟨f1, f2, f3, f4⟩ := fin (some (.goto t)) W3 hp.1
        exact ⟨_, _, f1, .inr ⟨rfl, ⟨_, hIxput _ _ _ _ hp.2, f2, f3⟩, f4⟩⟩
      | panic ch => exact hp.elim
      | outgrown => exact hp.elim
    cases box with
    | none => exact hgo _ _ (Mod.refl _ _) rfl
    | some tc =>
      obtain ⟨t, cs⟩ := tc
      exact hgo _ _ ((Mod.refl _ _).alloc _) ⟨W.heap.size, by omega, World.alloc_heap_new W _, rfl⟩

/-- The first law: a loop that stands in no other loop's round. -/
theorem range_plain {gf : Nat} {lb : Array Value} {enc : α → Value} {S : Nat → Prop} {L : List α} (hps : ps.size = 1)
    (hg : a.eval g = .func (.func gf) #[] lb) (eg : ∀ args w, (callFunc gf args).run P w = .ok (.enter gf args) w)
    (hr : Runs P gf lb enc S L w) (hS : ∀ k, S k → k < w.heap.size) (T : Nat → Prop) (hT : ∀ k, T k → k < w.heap.size ∧ ¬ S k)
    (I : List α → World → Prop) (Ix : Code → List α → World → Prop) (hI : Stable w.heap.size I) (hIx : ∀ c, Stable w.heap.size (Ix c)) (h0 : I [] w)
    (box : Option (TypeId × (α → Array Value))) (fa : Nat → α → Act)
    (hassign : ∀ (l : Nat) (x : α) (W : World) (K : Act → World → Prop),
      (match box with | none => K (fa 0 x) W | some (t, cs) => K (fa W.heap.size x) (W.alloc (.cells (cs x) t))) →
      assign.wpIn (Fence.wide.inRound l) n P (Exit.then K (fun _ _ _ => False)) { tmps := (ps.zip #[enc x]).foldl (fun t (p, v) => t.setIfInBounds p v) a.tmps, defers := [] } W)
    (hbody : ∀ (l : Nat) (pre : List α) (x : α) (rest : List α) (a' : Act) (W : World), L = pre ++ x :: rest → w.heap.size ≤ l → (∃ r, W.heap[l]? = some (.loop r)) → w.heap.size ≤ W.heap.size → I pre W → Var w.heap.size box fa x a' W →
      body.wpIn (Fence.wide.inRound l) n P (Post T I Ix (pre ++ [x]) W) a' W)
    (hdone : ∀ (D : Nat) (W : World), w.heap.size ≤ D → w.heap.size ≤ W.heap.size → I L W → W.heap[D]? = some (.deferred (some [])) → Q .normal { a with defers := { target := .collected D, args := #[] } :: a.defers } W)
    (hstop : ∀ (D : Nat) (c : Code) (pre : List α) (W : World), w.heap.size ≤ D → w.heap.size ≤ W.heap.size → pre <+: L → Ix c pre W → W.heap[D]? = some (.deferred (some [])) → c.wpIn Fence.wide n P Q { a with defers := { target := .collected D, args := #[] } :: a.defers } W) :
    (Code.rangeFunc g ps assign body).wpIn Fence.wide n P Q a w := by
  refine wpIn_rangeFunc ?_
  intro fn hfn
  obtain ⟨W1, hW1⟩ : ∃ W1, (w.alloc (.deferred (some []))).alloc (.loop { state := .ready, pending := none, fn := fn, tmps := a.tmps, params := ps, assign := assign, body := body, defers := w.heap.size }) = W1 := ⟨_, rfl⟩
  have hs1 : W1.heap.size = w.heap.size + 2 := by rw [← hW1]; simp
  have hlW : W1.heap[w.heap.size + 1]? = some (.loop { state := .ready, pending := none, fn := fn, tmps := a.tmps, params := ps, assign := assign, body := body, defers := w.heap.size }) := by
    rw [← hW1]; have := World.alloc_heap_new (w.alloc (.deferred (some []))) (.loop { state := .ready, pending := none, fn := fn, tmps := a.tmps, params := ps, assign := assign, body := body, defers := w.heap.size }); simpa using this
  have hD1 : W1.heap[w.heap.size]? = some (.deferred (some [])) := by
    rw [← hW1]; rw [Below.heap_alloc _ _ _ (by simp)]; exact World.alloc_heap_new w _
  have hm1 : Mod noB w W1 := by rw [← hW1]; exact ((Mod.refl _ _).alloc _).alloc _
  refine ⟨w.heap.size + 1, _, _, { target := .fn (.func gf) lb, args := #[.func (.yield (w.heap.size + 1)) #[] #[]] }, W1, gf, #[.func (.yield (w.heap.size + 1)) #[] #[]] ++ lb, W1, run_enterLoop_outer fn a.tmps ps assign body, ?_, ?_, ?_, by simp [Fence.wide], ?_⟩
  · rw [hW1]
    simp only [resolve, hg]
    simp [go_sem]
  · intro f' _; trivial
  · simp [invoke, go_sem, eg]
  · refine (range_core (B := w.heap.size) hps hr (by omega) (by omega) fn w.heap.size hlW hS rfl hm1 T hT I Ix hI hIx h0 (fun W => W.heap[w.heap.size]? = some (.deferred (some [])))
      (fun W W' h hm => hm.at h (by rintro (e | ht | hle); · omega
                                    · have := (hT _ ht).1; omega
                                    · omega)) hD1 box fa hassign hbody _).mono ?_
    rintro e W2 ⟨⟨v, rfl⟩, jump, W4, he, hsz, hx, hj⟩
    refine ⟨jump, W4, he, ?_⟩
    cases jump with
    | none => exact hdone _ W4 (Nat.le_refl _) (by omega) hj hx
    | some c => obtain ⟨pre, hpre, hix⟩ := hj; exact hstop _ c pre W4 (Nat.le_refl _) (by omega) hpre hix hx

/-- The second law: a loop in the body of loop l₀. -/
theorem range_inner {l₀ : Nat} (hl₀ : ∃ r₀, w.heap[l₀]? = some (.loop r₀)) {gf : Nat} {lb : Array Value} {enc : α → Value} {S : Nat → Prop} {L : List α} (hps : ps.size = 1)
    (hg : a.eval g = .func (.func gf) #[] lb) (eg : ∀ args w, (callFunc gf args).run P w = .ok (.enter gf args) w)
    (hr : Runs P gf lb enc S L w) (hS : ∀ k, S k → k < w.heap.size) (T : Nat → Prop) (hT : ∀ k, T k → k < w.heap.size ∧ ¬ S k)
    (I : List α → World → Prop) (Ix : Code → List α → World → Prop) (hI : Stable w.heap.size I) (hIx : ∀ c, Stable w.heap.size (Ix c)) (h0 : I [] w)
    (box : Option (TypeId × (α → Array Value))) (fa : Nat → α → Act)
    (hassign : ∀ (l : Nat) (x : α) (W : World) (K : Act → World → Prop),
      (match box with | none => K (fa 0 x) W | some (t, cs) => K (fa W.heap.size x) (W.alloc (.cells (cs x) t))) →
      assign.wpIn (Fence.wide.inRound l) n P (Exit.then K (fun _ _ _ => False)) { tmps := (ps.zip #[enc x]).foldl (fun t (p, v) => t.setIfInBounds p v) a.tmps, defers := [] } W)
    (hbody : ∀ (l : Nat) (pre : List α) (x : α) (rest : List α) (a' : Act) (W : World), L = pre ++ x :: rest → w.heap.size ≤ l → (∃ r, W.heap[l]? = some (.loop r)) → w.heap.size ≤ W.heap.size → I pre W → Var w.heap.size box fa x a' W →
      body.wpIn (Fence.wide.inRound l) n P (Post T I Ix (pre ++ [x]) W) a' W)
    (hdone : ∀ (W : World), w.heap.size ≤ W.heap.size → I L W → Q .normal a W)
    (hstop : ∀ (c : Code) (pre : List α) (W : World), w.heap.size ≤ W.heap.size → pre <+: L → Ix c pre W → c.wpIn (Fence.wide.inRound l₀) n P Q a W) :
    (Code.rangeFunc g ps assign body).wpIn (Fence.wide.inRound l₀) n P Q a w := by
  obtain ⟨r₀, hl₀⟩ := hl₀
  refine wpIn_rangeFunc ?_
  intro fn hfn
  obtain ⟨W1, hW1⟩ : ∃ W1, w.alloc (.loop { state := .ready, pending := none, fn := fn, tmps := a.tmps, params := ps, assign := assign, body := body, defers := r₀.defers }) = W1 := ⟨_, rfl⟩
  have hs1 : W1.heap.size = w.heap.size + 1 := by rw [← hW1]; simp
  have hlW : W1.heap[w.heap.size]? = some (.loop { state := .ready, pending := none, fn := fn, tmps := a.tmps, params := ps, assign := assign, body := body, defers := r₀.defers }) := by
    rw [← hW1]; exact World.alloc_heap_new w _
  have hm1 : Mod noB w W1 := by rw [← hW1]; exact (Mod.refl _ _).alloc _
  refine ⟨w.heap.size, _, _, { target := .fn (.func gf) lb, args := #[.func (.yield w.heap.size) #[] #[]] }, W1, gf, #[.func (.yield w.heap.size) #[] #[]] ++ lb, W1, run_enterLoop_inner hl₀ fn a.tmps ps assign body, ?_, ?_, ?_, by simp [Fence.wide, Fence.inRound], ?_⟩
  · rw [hW1]
    simp only [resolve, hg]
    simp [go_sem]
  · intro f' _; trivial
  · simp [invoke, go_sem, eg]
  · refine CallsIn.inRound l₀ ((range_core (B := w.heap.size) hps hr (Nat.le_refl _) (by omega) fn r₀.defers hlW hS rfl hm1 T hT I Ix hI hIx h0 (fun _ => True)
      (fun W W' h hm => h) trivial box fa hassign hbody _).mono ?_)
    rintro e W2 ⟨⟨v, rfl⟩, jump, W4, he, hsz, hx, hj⟩
    refine ⟨jump, W4, he, ?_⟩
    cases jump with
    | none => exact hdone W4 (by omega) hj
    | some c => obtain ⟨pre, hpre, hix⟩ := hj; exact hstop c pre W4 (by omega) hpre hix
end

/-! ### A region that draws its order, whose operations read, and whose calls make new memory at most: one walk, over a class of worlds, in or out of a round. -/
section
variable {P : Program} {F : Fence} {n : Nat} {md : Region.Mode} {ops : Array Oper} {C : World → Prop}

theorem wpIn_of_quiet (hfn : ∀ f, F.fn f) (hd : F.depth = none) (hcall : ∀ f args W R, Calls P f args W R → CallsIn F (n - 1) P f args W R)
    {o : Oper} {a : Act} {K : Act → Prop} {K' : Act → World → Prop} {Q' : Exit → Act → World → Prop} {w : World} (hnd : ∀ c, o.op ≠ .defer c)
    (hw : C w) (h : ∀ a w', C w' → K a → K' a w') (hh : o.quiet P a C K) : o.wpIn F n P a w K' Q' := by
  obtain ⟨v, h1, h2⟩ := hh
  have h3 := h1 w hw
  unfold Oper.quietAt at h3
  unfold Oper.wpIn
  refine ⟨fun f _ => hfn f, ?_⟩
  rw [Oper.semAt_eq _ _ _ hnd]
  generalize (execOp a.eval o).run P w = r at *
  cases r with
  | ok n w' =>
    cases n <;> simp only [Oper.quietUpon] at h3 <;> simp only [Oper.uponIn]
    case value u =>
      obtain ⟨e1, e2⟩ := h3
      rw [e1, e2]
      exact h _ _ hw h2
    case skip =>
      obtain ⟨e1, e2⟩ := h3
      rw [e1, ← e2]
      exact h _ _ hw h2
    case enter f args =>
      obtain ⟨e1, hc⟩ := h3
      rw [e1]
      refine ⟨by simp [hd], hcall _ _ _ _ (hc.mono fun e w'' ⟨he, hw''⟩ => ?_)⟩
      subst he
      exact h _ _ hw'' h2
  | halt x w' => simp only [Oper.quietUpon] at h3

theorem wpOpIn_of_quiet (hfn : ∀ f, F.fn f) (hd : F.depth = none) (hcall : ∀ f args W R, Calls P f args W R → CallsIn F (n - 1) P f args W R) (hnd : ∀ o ∈ ops, ∀ c, o.op ≠ .defer c)
    {i : Nat} {a : Act} {K : Act → Prop} {K' : Act → World → Prop} {Q' : Exit → Act → World → Prop} {w : World} (hC : C w) (h : ∀ a w', C w' → K a → K' a w') (hh : qOp P ops C i K a) : wpOpIn F n P ops Q' i K' a w := by
  unfold qOp at hh
  unfold wpOpIn
  split
  · rename_i ho; simp only [ho] at hh; exact h _ _ hC hh
  · rename_i o ho
    simp only [ho] at hh
    split
    · rename_i hw; simp only [hw, if_true] at hh; exact wpIn_of_quiet hfn hd hcall (hnd o (Array.mem_of_getElem? ho)) hC h hh
    · rename_i hw; simp only [hw] at hh; exact ⟨fun f _ => hfn f, h _ _ hC hh⟩

theorem wpAnyIn_of_quietC (hfn : ∀ f, F.fn f) (hd : F.depth = none) (hcall : ∀ f args W R, Calls P f args W R → CallsIn F (n - 1) P f args W R) (hnd : ∀ o ∈ ops, ∀ c, o.op ≠ .defer c)
    {Q : Act → Prop} {Q' : Exit → Act → World → Prop} (hQ : ∀ a w, C w → Q a → Q' .normal a w) : ∀ (fuel : Nat) (listed : Array Bool) (a : Act) (w : World), C w →
    wpAnyQ P md ops C Q fuel listed a → wpAnyIn F n P md ops Q' fuel listed a w
  | 0, _, _, _, hw, h => ⟨h.1, hQ _ _ hw h.2⟩
  | fuel + 1, _, _, _, hw, h => ⟨fun h0 => hQ _ _ hw (h.1 h0), fun i hi => wpOpIn_of_quiet hfn hd hcall hnd hw (fun a' w' hw' => wpAnyIn_of_quietC hfn hd hcall hnd hQ fuel _ a' w' hw') (h.2 i hi)⟩

def Op.isDefer : Op → Bool
  | .defer _ => true
  | _ => false

theorem region_quietC (hfn : ∀ f, F.fn f) (hd : F.depth = none) (hcall : ∀ f args W R, Calls P f args W R → CallsIn F (n - 1) P f args W R)
    {id : Nat} {Q : Exit → Act → World → Prop} {a : Act} {w : World} {l : List Oper} (hm : P.follows .mixedOrders = true) (hB : Region.lexB .any l.toArray = true) (hnd : l.all (fun o => !Op.isDefer o.op) = true) (C : World → Prop) (hC : C w.drew)
    (h : wpQuiet P l.toArray C (fun a' => ∀ w', C w' → Q .normal a' w') l a) : (Code.region id l.toArray true).wpIn F n P Q a w := by
  simp only [Region.lexB, Bool.and_eq_true] at hB
  have hnd' : ∀ o ∈ l.toArray, ∀ c, o.op ≠ .defer c := by
    intro o ho c e
    have := List.all_eq_true.1 hnd o (by simpa using ho)
    rw [e] at this
    simp [Op.isDefer] at this
  refine wpIn_region_any hm (wpAnyIn_of_quietC (C := C) (Q := fun a' => ∀ w', C w' → Q .normal a' w') hfn hd hcall hnd' (fun _ w' hw' h => h w' hw') _ _ _ _ hC ?_)
  have := wpAnyQ_lex (C := C) (md := .any) hB.1 l 0 (Array.replicate l.toArray.size false) a (by simp) (by simpa using hB.2) h
  simpa using this
end

theorem mixed : Try.prog.follows .mixedOrders = true := by kernel_rfl
theorem wide_fn : ∀ f, Fence.wide.fn f := fun _ => trivial
theorem wide_call {P : Program} {n : Nat} : ∀ f args W R, Calls P f args W R → CallsIn Fence.wide (n - 1) P f args W R := fun _ _ _ _ h => callsIn_wide.2 h
theorem round_call {P : Program} {n l : Nat} : ∀ f args W R, Calls P f args W R → CallsIn (Fence.wide.inRound l) (n - 1) P f args W R := fun _ _ _ _ h => (callsIn_wide.2 h).inRound l
theorem round2_call {P : Program} {n l l' : Nat} : ∀ f args W R, Calls P f args W R → CallsIn ((Fence.wide.inRound l).inRound l') (n - 1) P f args W R := fun _ _ _ _ h => ((callsIn_wide.2 h).inRound l).inRound l'
end Go.Proofs.Ytknbcmildpmokaa

/- A region that draws its order, whose operations read or call what makes new memory at most, but for one that makes a variable, at whatever time, and the last one, behind all others: one walk of the lexical order serves every order. -/
namespace Go.Proofs.Ytknbcmildpmokaa
open Go.RowKit Go.Shelf

/-! ### Two contracts of one call hand back one value -/
def stuckF (P : Program) : Frame := { (default : Frame) with fn := P.funcs.size, kind := .report, mode := .returning, defers := [], todo := [] }

theorem stuck_step (P : Program) (w : World) (m : Machine) : step P (lone (stuckF P) [] w) ≠ .next m := by
  intro h
  have : ∃ o w', step P (lone (stuckF P) [] w) = .ended o w' := ⟨_, _, step_lone_ended (by simp [stepG, unwind, stuckF, doReturn]; exact ⟨rfl, rfl⟩)⟩
  obtain ⟨o, w', e⟩ := this
  rw [e] at h; cases h

theorem leave_only {P : Program} {fr fr' : Frame} {w w' : World} {v : Value} (h : fr.leaving P w (.returned v)) {d : Nat} (hd : runN P d (lone fr [stuckF P] w) = .next (lone fr' [stuckF P] w')) : fr' = fr ∧ w' = w := by
  match d, hd with
  | 0, hd =>
    simp only [runN, lone] at hd
    simp only [Stepped.next.injEq, Machine.mk.injEq] at hd
    obtain ⟨h1, h2, _⟩ := hd
    simp at h2
    exact ⟨h2.symm, h1.symm⟩
  | 1, hd =>
    simp only [runN, step_leave_returned h] at hd
    simp [lone] at hd
  | d + 2, hd =>
    exfalso
    simp only [runN, step_leave_returned h] at hd
    have hfin : (stuckF P).finish v = stuckF P := rfl
    rw [hfin] at hd
    cases hs : step P (lone (stuckF P) [] w) with
    | next m => exact stuck_step P w m hs
    | ended o w2 => rw [hs] at hd; cases hd

theorem runN_two {P : Program} {m m1 m2 : Machine} {a b : Nat} (h1 : runN P a m = .next m1) (h2 : runN P b m = .next m2) : (∃ d, runN P d m1 = .next m2) ∨ ∃ d, runN P d m2 = .next m1 := by
  rcases Nat.le_total a b with h | h
  · obtain ⟨d, rfl⟩ := Nat.exists_eq_add_of_le h
    rw [runN_add, h1] at h2
    exact .inl ⟨d, h2⟩
  · obtain ⟨d, rfl⟩ := Nat.exists_eq_add_of_le h
    rw [runN_add, h2] at h1
    exact .inr ⟨d, h1⟩

theorem leaving_det {P : Program} {fr : Frame} {w : World} {v v' : Value} (h : fr.leaving P w (.returned v)) (h' : fr.leaving P w (.returned v')) : v = v' := by
  obtain ⟨_, _, _, fn, hf, hr⟩ := h
  obtain ⟨_, _, _, fn', hf', hr'⟩ := h'
  rw [hf] at hf'
  obtain rfl : fn = fn' := by simpa using hf'
  rw [hr] at hr'
  simpa using hr'

theorem Calls.det {P : Program} {f : FuncId} {args : Array Value} {w : World} {v v' : Value} {A B : World → Prop} (h : Calls P f args w fun e w' => e = .returned v ∧ A w') (h' : Calls P f args w fun e w' => e = .returned v' ∧ B w') : v = v' := by
  obtain ⟨e, w1, fr, ⟨rfl, _⟩, ⟨a, ha⟩, _, hl⟩ := h [stuckF P]
  obtain ⟨e', w2, fr', ⟨rfl, _⟩, ⟨b, hb⟩, _, hl'⟩ := h' [stuckF P]
  rcases runN_two ha hb with ⟨d, hd⟩ | ⟨d, hd⟩
  · obtain ⟨rfl, rfl⟩ := leave_only hl hd
    exact leaving_det hl hl'
  · obtain ⟨rfl, rfl⟩ := leave_only hl' hd
    exact leaving_det hl hl'

theorem quietAt_det {P : Program} {o : Oper} {a : Act} {C C' : World → Prop} {w : World} {v v' : Value} (h : o.quietAt P a C w v) (h' : o.quietAt P a C' w v') : v = v' := by
  unfold Oper.quietAt at h h'
  generalize (execOp a.eval o).run P w = r at h h'
  cases r with
  | halt x w' => simp only [Oper.quietUpon] at h
  | ok n w' =>
    cases n <;> simp only [Oper.quietUpon] at h h'
    case value u => exact h.2.symm.trans h'.2
    case skip => exact h.2.trans h'.2.symm
    case enter f args => exact Calls.det h.2 h'.2

theorem yieldsIn_det {P : Program} {ops : Array Oper} {C C' : World → Prop} {o : Oper} {a : Act} {w : World} {v v' : Value} (h : YieldsIn P ops C o v a) (h' : YieldsIn P ops C' o v' a) (hw : C w) (hw' : C' w) : v = v' := by
  rcases h with ⟨h1, h2⟩ | ⟨h1, h2⟩ <;> rcases h' with ⟨h3, h4⟩ | ⟨h3, h4⟩
  · exact quietAt_det (h2 w hw) (h4 w hw')
  · rw [h1] at h3; cases h3
  · rw [h1] at h3; cases h3
  · rw [h2, h4]

/-! ### The law -/
/-- A class of worlds in which nothing that lay in w0 has turned, and that new memory does not leave. -/
structure Sub (w0 : World) (X : World → Prop) : Prop where
  some : ∃ w, X w
  mod : ∀ w, X w → Mod noB w0 w
  stable : ∀ w w', X w → Mod noB w w' → X w'

section
variable {P : Program} {F : Fence} {n : Nat} {ops : Array Oper} {opsb : Nat → Array Oper} {ia is : Nat} {oa os : Oper} {w0 : World} {Q : Exit → Act → World → Prop} {ob : Obj}

/-- What the law asks of the region's texts: with the maker, and, in opsb, with a bare value in its place and the last operation struck. -/
structure Made (P : Program) (ops : Array Oper) (opsb : Nat → Array Oper) (ia is : Nat) (oa os : Oper) (ob : Obj) : Prop where
  ne : ia ≠ is
  a : ops[ia]? = some oa
  s : ops[is]? = some os
  ab : ∀ b, (opsb b)[ia]? = some { oa with op := .move (.const (.pointer (some ⟨b, 0, none⟩))) }
  sb : ∀ b, (opsb b)[is]? = some { os with op := .move (.const undef) }
  dst : os.dst = none
  other : ∀ b i, i ≠ ia → i ≠ is → (opsb b)[i]? = ops[i]?
  ga : oa.guard = none
  gs : os.guard = none
  last : ∀ j, j < ops.size → j ≠ is → ∃ e ∈ os.after, Region.binds .any e = true ∧ e.on = j
  low : ∀ i o, ops[i]? = some o → ∀ e ∈ o.after, Region.binds .any e = true → e.on < i
  nd : ∀ o ∈ ops, ∀ c, o.op ≠ .defer c
  alloc : ∀ (a : Act) (w : World), (execOp a.eval oa).run P w = .ok (.value (.pointer (some ⟨w.heap.size, 0, none⟩))) (w.alloc ob)

theorem Made.readyEq (M : Made P ops opsb ia is oa os ob) (b i : Nat) (listed : Array Bool) : i ∈ Region.ready .any (opsb b) listed ↔ i ∈ Region.ready .any ops listed := by
  rw [mem_ready, mem_ready]
  by_cases h1 : i = ia
  · subst h1; rw [M.a, M.ab]; simp
  · by_cases h2 : i = is
    · subst h2; rw [M.s, M.sb]; simp
    · rw [M.other b i h1 h2]
theorem Made.same (M : Made P ops opsb ia is oa os ob) (b : Nat) (tmps : Array Value) : Go.yielded (opsb b) tmps = Go.yielded ops tmps := by
  funext j
  unfold Go.yielded
  by_cases h1 : j = ia
  · subst h1; rw [M.a, M.ab]; rfl
  · by_cases h2 : j = is
    · subst h2; rw [M.s, M.sb]; rfl
    · rw [M.other b j h1 h2]

/-- One quiet operation, in the region itself. -/
theorem Made.step (M : Made P ops opsb ia is oa os ob) (hfn : ∀ f, F.fn f) (hd : F.depth = none) (hcall : ∀ f args W R, Calls P f args W R → CallsIn F (n - 1) P f args W R) {b i : Nat} {o : Oper} (hi : ops[i]? = some o) {X : World → Prop} {v : Value} {a : Act} {w : World} (hX : X w)
    (hy : YieldsIn P (opsb b) X o v a) {K : Act → World → Prop} (hK : ∀ w', X w' → K (a.put o.dst v) w') : wpOpIn F n P ops Q i K a w := by
  unfold wpOpIn
  simp only [hi]
  unfold YieldsIn at hy
  rw [M.same] at hy
  rcases hy with ⟨h1, h2⟩ | ⟨h1, rfl⟩
  · rw [if_pos h1]
    exact wpIn_of_quiet (C := X) (K := fun a' => a' = a.put o.dst v) hfn hd hcall (M.nd o (Array.mem_of_getElem? hi)) hX (fun a' w' hw' e => e ▸ hK w' hw') ⟨v, h2, rfl⟩
  · rw [if_neg (by rw [h1]; simp)]
    exact ⟨fun f _ => hfn f, hK w hX⟩

theorem ready_unlisted {md : Region.Mode} {i : Nat} {listed : Array Bool} (h : i ∈ Region.ready md ops listed) : listed.getD i true = false := (mem_ready.1 h).1

/-- What is not listed yet, there is one of it that may come up. -/
theorem Made.someReady (M : Made P ops opsb ia is oa os ob) {listed : Array Bool} (hsz : listed.size = ops.size) : ∀ j, listed.getD j true = false → ∃ i, i ∈ Region.ready .any ops listed := by
  intro j
  induction j using Nat.strongRecOn with
  | _ j ih =>
    intro hj
    by_cases h : ∃ k, k < j ∧ listed.getD k true = false
    · obtain ⟨k, hk, hu⟩ := h; exact ih k hk hu
    · have hlt : j < listed.size := by
        rcases Nat.lt_or_ge j listed.size with h' | h'
        · exact h'
        · rw [Array.getD_eq_getD_getElem?, Array.getElem?_eq_none h'] at hj; cases hj
      refine ⟨j, mem_ready.2 ⟨hj, ops[j]'(by omega), Array.getElem?_eq_getElem (by omega), fun e he hb => ?_⟩⟩
      have hl := M.low j _ (Array.getElem?_eq_getElem (by omega)) e he hb
      have hon : e.on < listed.size := by omega
      cases hv : listed.getD e.on true with
      | false => exact absurd ⟨e.on, hl, hv⟩ h
      | true =>
        rw [Array.getD_eq_getD_getElem?, Array.getElem?_eq_getElem hon] at hv ⊢
        simpa using hv

theorem getD_set {listed : Array Bool} {i j : Nat} (b d : Bool) : (listed.setIfInBounds i b).getD j d = if i = j ∧ j < listed.size then b else listed.getD j d := by
  rw [Array.getD_eq_getD_getElem?, Array.getD_eq_getD_getElem?, Array.getElem?_setIfInBounds]
  by_cases h : i = j
  · subst h
    by_cases h2 : i < listed.size
    · simp [h2]
    · simp [h2]
  · simp [h]

theorem Made.two (M : Made P ops opsb ia is oa os ob) (hfn : ∀ f, F.fn f) (hd : F.depth = none) (hcall : ∀ f args W R, Calls P f args W R → CallsIn F (n - 1) P f args W R) {b : Nat} {X : World → Prop}
    {Qb : Act → Prop} (hQb : ∀ a w, Qb a → X w → wpListIn F n P ops Q [os] a w) : ∀ (fuel : Nat) (listed : Array Bool) (a : Act) (w : World), listed.size = ops.size → listed.getD is true = false → X w → listed.getD ia true = true →
      wpAnyQ P .any (opsb b) X Qb fuel listed a → wpAnyIn F n P .any ops Q fuel listed a w := by
  intro fuel
  induction fuel with
  | zero =>
    intro listed a w hsz his hw hia h
    exfalso
    obtain ⟨i, hi⟩ := M.someReady hsz is his
    have h1 := h.1
    rw [← M.readyEq b i] at hi
    rw [h1] at hi; cases hi
  | succ fuel ih =>
    intro listed a w hsz his hw hia h
    refine ⟨fun e => ?_, fun i hi => ?_⟩
    · obtain ⟨i, hi⟩ := M.someReady hsz is his
      rw [e] at hi; cases hi
    · have hq := h.2 i ((M.readyEq b i listed).2 hi)
      obtain ⟨hun, o, ho, hall⟩ := mem_ready.1 hi
      by_cases h2 : i = is
      · subst h2
        have ho' : o = os := by rw [M.s] at ho; exact (Option.some.inj ho).symm
        subst ho'
        obtain ⟨v, hy, hK⟩ := yieldsIn_of_qOp (M.sb b) hq
        have e1 : a.put o.dst v = a := by rw [M.dst]; rfl
        simp only at hK
        rw [e1] at hK
        have hempty : Region.ready .any ops (listed.setIfInBounds i true) = [] := by
          rw [List.eq_nil_iff_forall_not_mem]
          intro j hj
          have hju := ready_unlisted hj
          rw [getD_set] at hju
          obtain ⟨_, oj, hoj, _⟩ := mem_ready.1 hj
          have hjs : j < ops.size := (Array.getElem?_eq_some_iff.1 hoj).1
          by_cases e : j = i
          · subst e
            rw [if_pos ⟨rfl, by omega⟩] at hju; cases hju
          · rw [if_neg (fun h => e h.1.symm)] at hju
            obtain ⟨e', he', hb', hon⟩ := M.last j hjs e
            have := hall e' he' hb'
            rw [hon, Array.getD_eq_getD_getElem?, Array.getElem?_eq_getElem (by omega)] at this
            rw [Array.getD_eq_getD_getElem?, Array.getElem?_eq_getElem (by omega)] at hju
            simp at this hju
            rw [this] at hju; cases hju
        have hempty' : Region.ready .any (opsb b) (listed.setIfInBounds i true) = [] := by
          rw [List.eq_nil_iff_forall_not_mem]
          intro j hj
          rw [M.readyEq b j, hempty] at hj; cases hj
        have hQa : Qb a := by
          cases fuel with
          | zero => exact hK.2
          | succ f => exact hK.1 hempty'
        have hl := hQb a w hQa hw
        unfold wpListIn at hl
        unfold wpOpIn
        simp only [ho]
        have hwant : Region.wanted o (yielded ops a.tmps) = true := by unfold Region.wanted; rw [M.gs]
        rw [if_pos hwant] at hl ⊢
        refine Oper.wpIn_mono (fun a' w' h' => ?_) hl
        cases fuel with
        | zero => exact ⟨hempty, h'⟩
        | succ f => exact ⟨fun _ => h', fun j hj => by rw [hempty] at hj; cases hj⟩
      · have h1 : i ≠ ia := fun e => by subst e; rw [hia] at hun; cases hun
        have hob : (opsb b)[i]? = some o := (M.other b i h1 h2).trans ho
        obtain ⟨v, hy, hK⟩ := yieldsIn_of_qOp hob hq
        refine M.step hfn hd hcall ho hw hy (fun w' hw' => ih _ _ w' (by rw [Array.size_setIfInBounds]; exact hsz) ?_ hw' ?_ hK)
        · rw [getD_set, if_neg (fun h => h2 h.1)]; exact his
        · rw [getD_set]
          split
          · rfl
          · exact hia

theorem Made.one (M : Made P ops opsb ia is oa os ob) (hfn : ∀ f, F.fn f) (hd : F.depth = none) (hcall : ∀ f args W R, Calls P f args W R → CallsIn F (n - 1) P f args W R)
    {Qb : Nat → Act → Prop} (hQb : ∀ b a w, Qb b a → Mod noB w0 w → w0.heap.size ≤ b → w.heap[b]? = some ob → wpListIn F n P ops Q [os] a w) : ∀ (fuel : Nat) (listed : Array Bool) (a : Act) (w : World), listed.size = ops.size → listed.getD is true = false → Mod noB w0 w → listed.getD ia true = false →
      (∀ b X, Sub w0 X → wpAnyQ P .any (opsb b) X (Qb b) fuel listed a) → wpAnyIn F n P .any ops Q fuel listed a w := by
  intro fuel
  induction fuel with
  | zero =>
    intro listed a w hsz his hw hia h
    exfalso
    obtain ⟨i, hi⟩ := M.someReady hsz is his
    have h1 := (h 0 (fun w' => Mod noB w0 w') ⟨⟨w, hw⟩, fun _ h => h, fun _ _ h k => h.trans k⟩).1
    rw [← M.readyEq 0 i] at hi
    rw [h1] at hi; cases hi
  | succ fuel ih =>
    intro listed a w hsz his hw hia h
    refine ⟨fun e => ?_, fun i hi => ?_⟩
    · obtain ⟨i, hi⟩ := M.someReady hsz is his
      rw [e] at hi; cases hi
    · obtain ⟨hun, o, ho, hall⟩ := mem_ready.1 hi
      have hne : i ≠ is := fun e => by
        subst e
        have ho' : o = os := by rw [M.s] at ho; exact (Option.some.inj ho).symm
        subst ho'
        have hs : ia < ops.size := (Array.getElem?_eq_some_iff.1 M.a).1
        obtain ⟨e', he', hb', hon⟩ := M.last ia hs M.ne
        have := hall e' he' hb'
        rw [hon, Array.getD_eq_getD_getElem?, Array.getElem?_eq_getElem (by omega)] at this
        rw [Array.getD_eq_getD_getElem?, Array.getElem?_eq_getElem (by omega)] at hia
        simp at this hia
        rw [this] at hia; cases hia
      by_cases h1 : i = ia
      · subst h1
        have ho' : o = oa := by rw [M.a] at ho; exact (Option.some.inj ho).symm
        subst ho'
        -- the maker itself
        have hw2 : Mod noB w0 (w.alloc ob) := hw.alloc ob
        have hsub : Sub w0 (fun w' => Mod noB (w.alloc ob) w') := ⟨⟨_, Mod.refl _ _⟩, fun w' h' => hw2.trans h', fun _ _ h k => h.trans k⟩
        have hq := (h w.heap.size _ hsub).2 i ((M.readyEq _ i listed).2 hi)
        obtain ⟨v, hy, hK⟩ := yieldsIn_of_qOp (M.ab w.heap.size) hq
        simp only at hK
        have hv : v = .pointer (some ⟨w.heap.size, 0, none⟩) := by
          rcases hy with ⟨_, h2⟩ | ⟨h2, _⟩
          · have := h2 _ (Mod.refl _ _)
            unfold Oper.quietAt at this
            simp only [execOp] at this
            simp [Oper.quietUpon, Act.eval, Sem.run_bind, Sem.run_pure, Result.andThen] at this
            exact this.symm
          · exfalso
            unfold Region.wanted at h2
            simp only [M.ga] at h2
            cases h2
        subst hv
        unfold wpOpIn
        simp only [ho]
        have hwant : Region.wanted o (yielded ops a.tmps) = true := by unfold Region.wanted; rw [M.ga]
        rw [if_pos hwant]
        unfold Oper.wpIn
        refine ⟨fun f _ => hfn f, ?_⟩
        rw [Oper.semAt_eq _ _ _ (M.nd o (Array.mem_of_getElem? ho)), M.alloc]
        simp only [Oper.uponIn]
        refine M.two (X := fun w' => Mod noB (w.alloc ob) w') hfn hd hcall (fun a' w' hq' hx => hQb w.heap.size a' w' hq' (hw2.trans hx) hw.size (hx.at (World.alloc_heap_new w ob) id)) fuel _ _ _ (by rw [Array.size_setIfInBounds]; exact hsz) ?_ (Mod.refl _ _) ?_ hK
        · rw [getD_set, if_neg (fun h => hne h.1)]; exact his
        · rw [getD_set, if_pos ⟨rfl, by have := (Array.getElem?_eq_some_iff.1 ho).1; omega⟩]
      · have hob : ∀ b, (opsb b)[i]? = some o := fun b => (M.other b i h1 hne).trans ho
        have hsub0 : Sub w0 (fun w' => Mod noB w0 w') := ⟨⟨w, hw⟩, fun _ h => h, fun _ _ h k => h.trans k⟩
        obtain ⟨v, hy, hK⟩ := yieldsIn_of_qOp (hob 0) ((h 0 _ hsub0).2 i ((M.readyEq 0 i listed).2 hi))
        refine M.step (b := 0) hfn hd hcall ho hw hy (fun w' hw' => ih _ _ w' (by rw [Array.size_setIfInBounds]; exact hsz) ?_ hw' ?_ ?_)
        · rw [getD_set, if_neg (fun h => hne h.1)]; exact his
        · rw [getD_set, if_neg (fun h => h1 h.1)]; exact hia
        · intro b X hX
          obtain ⟨v', hy', hK'⟩ := yieldsIn_of_qOp (hob b) ((h b X hX).2 i ((M.readyEq b i listed).2 hi))
          obtain ⟨w1, hw1⟩ := hX.some
          have hy'' : YieldsIn P (opsb 0) X o v' a := by
            unfold YieldsIn at hy' ⊢
            rw [M.same] at hy' ⊢
            exact hy'
          rw [yieldsIn_det hy hy'' (hX.mod _ hw1) hw1]
          exact hK'
end

theorem region_maker {P : Program} {F : Fence} {n : Nat} (hfn : ∀ f, F.fn f) (hd : F.depth = none) (hcall : ∀ f args W R, Calls P f args W R → CallsIn F (n - 1) P f args W R)
    {id : Nat} {Q : Exit → Act → World → Prop} {a : Act} {w : World} {l : List Oper} (hm : P.follows .mixedOrders = true) (lb : Nat → List Oper) (ia is : Nat) (oa os : Oper) (ob : Obj) (M : Made P l.toArray (fun b => (lb b).toArray) ia is oa os ob)
    (hB : ∀ b, Region.lexB .any (lb b).toArray = true) (hlen : ∀ b, (lb b).length = l.length)
    (h : ∀ b X, Sub w.drew X → wpQuiet P (lb b).toArray X (fun a' => ∀ w', Mod noB w.drew w' → w.heap.size ≤ b → w'.heap[b]? = some ob → wpListIn F n P l.toArray Q [os] a' w') (lb b) a) : (Code.region id l.toArray true).wpIn F n P Q a w := by
  refine wpIn_region_any hm ?_
  have hia : ia < l.length := by have := (Array.getElem?_eq_some_iff.1 M.a).1; simpa using this
  have his : is < l.length := by have := (Array.getElem?_eq_some_iff.1 M.s).1; simpa using this
  refine M.one (w0 := w.drew) hfn hd hcall (Qb := fun b a' => ∀ w', Mod noB w.drew w' → w.heap.size ≤ b → w'.heap[b]? = some ob → wpListIn F n P l.toArray Q [os] a' w') (fun b a' w' hq hM hb ho => hq w' hM hb ho) _ _ _ _ (by simp) ?_ (Mod.refl _ _) ?_ ?_
  · rw [Array.getD_eq_getD_getElem?, Array.getElem?_replicate]; simp [his]
  · rw [Array.getD_eq_getD_getElem?, Array.getElem?_replicate]; simp [hia]
  · intro b X hX
    have hb := hB b
    simp only [Region.lexB, Bool.and_eq_true] at hb
    have := wpAnyQ_lex (C := X) (md := .any) hb.1 (lb b) 0 (Array.replicate (lb b).toArray.size false) a (by simp) (by simpa using hb.2) (h b X hX)
    simpa [hlen b] using this

/-! ### The same over lists that are written out -/
def swapL (l : List Oper) (ia is : Nat) (oa os : Oper) (b : Nat) : List Oper := (l.set ia { oa with op := .move (.const (.pointer (some ⟨b, 0, none⟩))) }).set is { os with op := .move (.const undef) }
def lastB (l : List Oper) (is : Nat) (os : Oper) : Bool := (List.range l.length).all fun j => j == is || os.after.toList.any fun e => Region.binds .any e && e.on == j
def lowB (l : List Oper) : Bool := (List.range l.length).all fun i => match l[i]? with | some o => o.after.toList.all (fun e => !Region.binds .any e || decide (e.on < i)) | none => true

theorem made_of {P : Program} {l : List Oper} {ia is : Nat} {oa os : Oper} {ob : Obj} (ne : ia ≠ is) (a : l[ia]? = some oa) (s : l[is]? = some os) (hdst : os.dst = none) (ga : oa.guard = none) (gs : os.guard = none) (hlast : lastB l is os = true) (hlow : lowB l = true)
    (hnd : l.all (fun o => !Op.isDefer o.op) = true) (al : ∀ (a : Act) (w : World), (execOp a.eval oa).run P w = .ok (.value (.pointer (some ⟨w.heap.size, 0, none⟩))) (w.alloc ob)) :
    Made P l.toArray (fun b => (swapL l ia is oa os b).toArray) ia is oa os ob where
  ne := ne
  a := by simpa using a
  s := by simpa using s
  ab b := by
    have h := (List.getElem?_eq_some_iff.1 a).1
    simp [swapL, List.getElem?_set, Ne.symm ne, h]
  sb b := by
    have h := (List.getElem?_eq_some_iff.1 s).1
    simp [swapL, List.getElem?_set, h]
  dst := hdst
  other b i h1 h2 := by simp [swapL, List.getElem?_set, Ne.symm h1, Ne.symm h2]
  ga := ga
  gs := gs
  last j hj hne := by
    have := List.all_eq_true.1 hlast j (List.mem_range.2 (by simpa using hj))
    simp only [Bool.or_eq_true, beq_iff_eq, hne, false_or, List.any_eq_true, Bool.and_eq_true] at this
    obtain ⟨e, he, h1, h2⟩ := this
    exact ⟨e, by simpa using he, h1, h2⟩
  low i o ho e he hb := by
    have ho' : l[i]? = some o := by simpa using ho
    have := List.all_eq_true.1 hlow i (List.mem_range.2 (List.getElem?_eq_some_iff.1 ho').1)
    simp only [ho', List.all_eq_true, Bool.or_eq_true, Bool.not_eq_true', decide_eq_true_eq] at this
    rcases this e (by simpa using he) with h | h
    · rw [hb] at h; cases h
    · exact h
  nd o ho c e := by
    have := List.all_eq_true.1 hnd o (by simpa using ho)
    rw [e] at this
    simp [Op.isDefer] at this
  alloc := al

theorem swapL_len (l : List Oper) (ia is : Nat) (oa os : Oper) (b : Nat) : (swapL l ia is oa os b).length = l.length := by simp [swapL]
end Go.Proofs.Ytknbcmildpmokaa

/- A region that draws its order, whose first operations read or call what makes new memory at most, and whose others come behind all of these, one behind the other: one walk of the lexical order serves every order. -/
namespace Go.Proofs.Ytknbcmildpmokaa
open Go.RowKit Go.Shelf

def bareO (o : Oper) : Oper := { o with op := .move (.const undef), guard := none, dst := none }
/-- The operations from k on struck. -/
def strikeL (l : List Oper) (k : Nat) : List Oper := l.take k ++ (l.drop k).map bareO

/-- From i one comes to j along what must come before. -/
def ancB (l : List Oper) : Nat → Nat → Nat → Bool
  | 0, i, j => i == j
  | f + 1, i, j => i == j || match l[i]? with | some o => o.after.toList.any (fun e => Region.binds .any e && ancB l f e.on j) | none => false
def coverB (l : List Oper) (k : Nat) : Bool := match l[k]? with
  | some o => (List.range k).all fun j => o.after.toList.any fun e => Region.binds .any e && ancB l l.length e.on j
  | none => false
def chainB (l : List Oper) (k : Nat) : Bool := (List.range l.length).all fun i => decide (i ≤ k) || match l[i]? with
  | some o => o.after.toList.any fun e => Region.binds .any e && e.on == i - 1
  | none => true
def guardB (l : List Oper) (k : Nat) : Bool := (l.take k).all fun o => match o.guard with | some (j, _) => decide (j < k) | none => true

section
variable {l : List Oper} {k : Nat}

theorem strikeL_len : (strikeL l k).length = l.length := by simp [strikeL]; omega
theorem strikeL_pre {i : Nat} (hi : i < k) : (strikeL l k)[i]? = l[i]? := by
  unfold strikeL
  by_cases h : i < l.length
  · rw [List.getElem?_append_left (by simp; omega), List.getElem?_take_of_lt hi]
  · rw [List.getElem?_eq_none (by simp; omega), List.getElem?_eq_none (by omega)]
theorem strikeL_post {i : Nat} (hi : k ≤ i) {o : Oper} (ho : l[i]? = some o) : (strikeL l k)[i]? = some (bareO o) := by
  have h := (List.getElem?_eq_some_iff.1 ho).1
  unfold strikeL
  rw [List.getElem?_append_right (by simp; omega), List.getElem?_map, List.getElem?_drop]
  simp only [List.length_take, Nat.min_eq_left (show k ≤ l.length by omega)]
  rw [show k + (i - k) = i by omega, ho]
  rfl

theorem struck_ready (i : Nat) (listed : Array Bool) : i ∈ Region.ready .any (strikeL l k).toArray listed ↔ i ∈ Region.ready .any l.toArray listed := by
  rw [mem_ready, mem_ready]
  simp only [List.getElem?_toArray]
  by_cases h : i < k
  · rw [strikeL_pre h]
  · cases ho : l[i]? with
    | none =>
      have : (strikeL l k)[i]? = none := by
        rw [List.getElem?_eq_none_iff] at ho ⊢
        rw [strikeL_len]; exact ho
      rw [this]
    | some o =>
      rw [strikeL_post (by omega) ho]
      simp [bareO]

/-- What is listed, all that must come before it is. -/
def Closed (l : List Oper) (listed : Array Bool) : Prop := ∀ i o, l[i]? = some o → listed.getD i false = true → ∀ e ∈ o.after, Region.binds .any e = true → listed.getD e.on false = true

theorem getD_two {listed : Array Bool} {j : Nat} (h : j < listed.size) (b d : Bool) : listed.getD j b = listed.getD j d := by
  rw [Array.getD_eq_getD_getElem?, Array.getD_eq_getD_getElem?, Array.getElem?_eq_getElem h]; rfl

theorem Closed.anc {listed : Array Bool} (hc : Closed l listed) : ∀ (f i j : Nat), listed.getD i false = true → ancB l f i j = true → listed.getD j false = true := by
  intro f
  induction f with
  | zero => intro i j hi h; simp only [ancB, beq_iff_eq] at h; exact h ▸ hi
  | succ f ih =>
    intro i j hi h
    simp only [ancB, Bool.or_eq_true, beq_iff_eq] at h
    rcases h with h | h
    · exact h ▸ hi
    · cases ho : l[i]? with
      | none => rw [ho] at h; cases h
      | some o =>
        rw [ho] at h
        simp only [List.any_eq_true, Bool.and_eq_true] at h
        obtain ⟨e, he, hb, ha⟩ := h
        exact ih _ _ (hc i o ho hi e (by simpa using he) hb) ha

theorem Closed.set {listed : Array Bool} (hc : Closed l listed) (hsz : listed.size = l.length) {i : Nat} (hi : i ∈ Region.ready .any l.toArray listed) : Closed l (listed.setIfInBounds i true) := by
  obtain ⟨hu, o', ho', hall⟩ := mem_ready.1 hi
  have mono : ∀ j, listed.getD j false = true → (listed.setIfInBounds i true).getD j false = true := fun j hj => by
    rw [getD_set]; split
    · rfl
    · exact hj
  intro j o ho hj e he hb
  rw [getD_set] at hj
  by_cases h : i = j
  · subst h
    have : o' = o := by simpa [ho] using ho'.symm
    subst this
    exact mono _ (hall e he hb)
  · rw [if_neg (fun h' => h h'.1)] at hj
    exact mono _ (hc j o ho hj e he hb)

/-- Just those below i are listed. -/
def ListedTo (n : Nat) (listed : Array Bool) (i : Nat) : Prop := listed.size = n ∧ ∀ j, j < n → ∀ d, listed.getD j d = decide (j < i)
theorem ListedTo.set {n i : Nat} {listed : Array Bool} (h : ListedTo n listed i) (hi : i < n) : ListedTo n (listed.setIfInBounds i true) (i + 1) :=
  ⟨by rw [Array.size_setIfInBounds]; exact h.1, fun j hj d => by
    rw [getD_set]
    by_cases e : i = j
    · subst e; rw [if_pos ⟨rfl, by rw [h.1]; exact hi⟩]; simp
    · rw [if_neg (fun h' => e h'.1), h.2 j hj d]; simp; omega⟩

/-- What the law asks of the region's text. -/
structure Tailed (l : List Oper) (k : Nat) : Prop where
  lt : k < l.length
  low : lowB l = true
  cover : coverB l k = true
  chain : chainB l k = true
  guard : guardB l k = true
  nd : l.all (fun o => !Op.isDefer o.op) = true

theorem Tailed.lowAt (T : Tailed l k) {i : Nat} {o : Oper} (ho : l[i]? = some o) {e : Edge} (he : e ∈ o.after) (hb : Region.binds .any e = true) : e.on < i := by
  have := List.all_eq_true.1 T.low i (List.mem_range.2 (List.getElem?_eq_some_iff.1 ho).1)
  simp only [ho, List.all_eq_true, Bool.or_eq_true, Bool.not_eq_true', decide_eq_true_eq] at this
  rcases this e (by simpa using he) with h | h
  · rw [hb] at h; cases h
  · exact h
theorem Tailed.chainAt (T : Tailed l k) {i : Nat} {o : Oper} (ho : l[i]? = some o) (hi : k < i) : ∃ e ∈ o.after, Region.binds .any e = true ∧ e.on = i - 1 := by
  have := List.all_eq_true.1 T.chain i (List.mem_range.2 (List.getElem?_eq_some_iff.1 ho).1)
  simp only [ho, Bool.or_eq_true, decide_eq_true_eq, List.any_eq_true, Bool.and_eq_true, beq_iff_eq] at this
  rcases this with h | ⟨e, he, hb, hon⟩
  · omega
  · exact ⟨e, by simpa using he, hb, hon⟩
theorem Tailed.ndAt (T : Tailed l k) {i : Nat} {o : Oper} (ho : l[i]? = some o) : ∀ c, o.op ≠ .defer c := by
  intro c e
  have := List.all_eq_true.1 T.nd o (List.mem_of_getElem? ho)
  rw [e] at this
  simp [Op.isDefer] at this
theorem Tailed.coverAt (T : Tailed l k) {listed : Array Bool} (hc : Closed l listed) (hk : k ∈ Region.ready .any l.toArray listed) : ∀ j, j < k → listed.getD j false = true := by
  obtain ⟨_, o, ho, hall⟩ := mem_ready.1 hk
  have ho' : l[k]? = some o := by simpa using ho
  have h := T.cover
  unfold coverB at h
  rw [ho'] at h
  intro j hj
  have := List.all_eq_true.1 h j (List.mem_range.2 hj)
  simp only [List.any_eq_true, Bool.and_eq_true] at this
  obtain ⟨e, he, hb, ha⟩ := this
  exact hc.anc _ _ _ (hall e (by simpa using he) hb) ha
theorem Tailed.wanted (T : Tailed l k) {i : Nat} (hi : i < k) {o : Oper} (ho : l[i]? = some o) (tmps : Array Value) : Region.wanted o (yielded (strikeL l k).toArray tmps) = Region.wanted o (yielded l.toArray tmps) := by
  unfold Region.wanted
  cases hg : o.guard with
  | none => rfl
  | some g =>
    obtain ⟨j, b⟩ := g
    have hm : o ∈ l.take k := List.mem_of_getElem? (i := i) (by rw [List.getElem?_take_of_lt hi]; exact ho)
    have := List.all_eq_true.1 T.guard o hm
    simp only [hg, decide_eq_true_eq] at this
    simp only [yielded, List.getElem?_toArray, strikeL_pre this]

theorem Tailed.someReady (T : Tailed l k) {listed : Array Bool} (hsz : listed.size = l.length) : ∀ j, listed.getD j true = false → ∃ i, i ∈ Region.ready .any l.toArray listed := by
  intro j
  induction j using Nat.strongRecOn with
  | _ j ih =>
    intro hj
    by_cases h : ∃ m, m < j ∧ listed.getD m true = false
    · obtain ⟨m, hm, hu⟩ := h; exact ih m hm hu
    · have hlt : j < listed.size := by
        rcases Nat.lt_or_ge j listed.size with h' | h'
        · exact h'
        · rw [Array.getD_eq_getD_getElem?, Array.getElem?_eq_none h'] at hj; cases hj
      have ho : l[j]? = some (l[j]'(by omega)) := List.getElem?_eq_getElem (by omega)
      refine ⟨j, mem_ready.2 ⟨hj, _, by rw [List.getElem?_toArray]; exact ho, fun e he hb => ?_⟩⟩
      have hl := T.lowAt ho he hb
      cases hv : listed.getD e.on true with
      | false => exact absurd ⟨e.on, hl, hv⟩ h
      | true => rw [getD_two (by omega) false true]; exact hv

/-- Behind the first ones there is one way alone. -/
theorem Tailed.only (T : Tailed l k) {listed : Array Bool} {i : Nat} (hi : k ≤ i) (h : ListedTo l.length listed i) (j : Nat) : j ∈ Region.ready .any l.toArray listed ↔ j = i ∧ i < l.length := by
  constructor
  · intro hj
    obtain ⟨hu, o, ho, hall⟩ := mem_ready.1 hj
    have ho' : l[j]? = some o := by simpa using ho
    have hlt := (List.getElem?_eq_some_iff.1 ho').1
    rw [h.2 j hlt] at hu
    simp only [decide_eq_false_iff_not] at hu
    by_cases e : j = i
    · exact ⟨e, e ▸ hlt⟩
    · exfalso
      obtain ⟨e', he, hb, hon⟩ := T.chainAt ho' (by omega)
      have := hall e' he hb
      rw [hon, h.2 _ (by omega)] at this
      simp at this
      omega
  · rintro ⟨rfl, hlt⟩
    have ho : l[j]? = some (l[j]'hlt) := List.getElem?_eq_getElem hlt
    refine mem_ready.2 ⟨by rw [h.2 j hlt]; simp, _, by rw [List.getElem?_toArray]; exact ho, fun e he hb => ?_⟩
    have hl := T.lowAt ho he hb
    rw [h.2 _ (by omega)]
    simpa using hl

variable {P : Program} {F : Fence} {n : Nat} {Q : Exit → Act → World → Prop}

theorem Tailed.struck (T : Tailed l k) {X : World → Prop} {Qb : Act → Prop} : ∀ (fuel i : Nat) (listed : Array Bool) (a : Act), k ≤ i → i ≤ l.length → ListedTo l.length listed i → wpAnyQ P .any (strikeL l k).toArray X Qb fuel listed a → l.length - i ≤ fuel ∧ Qb a := by
  intro fuel
  induction fuel with
  | zero =>
    intro i listed a hk hi hL h
    rcases Nat.lt_or_ge i l.length with hlt | hge
    · have := (struck_ready (k := k) i listed).2 ((T.only hk hL i).2 ⟨rfl, hlt⟩)
      rw [h.1] at this; cases this
    · exact ⟨by omega, h.2⟩
  | succ fuel ih =>
    intro i listed a hk hi hL h
    rcases Nat.lt_or_ge i l.length with hlt | hge
    · have ho : l[i]? = some (l[i]'hlt) := List.getElem?_eq_getElem hlt
      have hq := h.2 i ((struck_ready (k := k) i listed).2 ((T.only hk hL i).2 ⟨rfl, hlt⟩))
      obtain ⟨v, _, hK⟩ := yieldsIn_of_qOp (by rw [List.getElem?_toArray]; exact strikeL_post hk ho) hq
      have := ih (i + 1) _ _ (by omega) (by omega) (hL.set hlt) hK
      exact ⟨by omega, this.2⟩
    · refine ⟨by omega, h.1 ?_⟩
      rw [List.eq_nil_iff_forall_not_mem]
      intro j hj
      have := (T.only hk hL j).1 ((struck_ready (k := k) j listed).1 hj)
      omega

theorem Tailed.tail (T : Tailed l k) : ∀ (d i fuel : Nat) (listed : Array Bool) (a : Act) (w : World), l.length - i = d → d ≤ fuel → k ≤ i → i ≤ l.length → ListedTo l.length listed i → wpListIn F n P l.toArray Q (l.drop i) a w → wpAnyIn F n P .any l.toArray Q fuel listed a w := by
  intro d
  induction d with
  | zero =>
    intro i fuel listed a w hd hf hk hi hL h
    have hnil : Region.ready .any l.toArray listed = [] := by
      rw [List.eq_nil_iff_forall_not_mem]
      intro j hj
      have := (T.only hk hL j).1 hj
      omega
    rw [List.drop_eq_nil_of_le (by omega)] at h
    cases fuel with
    | zero => exact ⟨hnil, h⟩
    | succ f => exact ⟨fun _ => h, fun j hj => by rw [hnil] at hj; cases hj⟩
  | succ d ih =>
    intro i fuel listed a w hd hf hk hi hL h
    have hlt : i < l.length := by omega
    cases fuel with
    | zero => omega
    | succ f =>
      refine ⟨fun e => ?_, fun j hj => ?_⟩
      · have := (T.only hk hL i).2 ⟨rfl, hlt⟩
        rw [e] at this; cases this
      · obtain ⟨rfl, _⟩ := (T.only hk hL j).1 hj
        have ho : l[j]? = some (l[j]'hlt) := List.getElem?_eq_getElem hlt
        rw [List.drop_eq_getElem_cons hlt] at h
        unfold wpListIn at h
        unfold wpOpIn
        simp only [List.getElem?_toArray, ho]
        have next : ∀ a' w', wpListIn F n P l.toArray Q (l.drop (j + 1)) a' w' → wpAnyIn F n P .any l.toArray Q f (listed.setIfInBounds j true) a' w' :=
          fun a' w' h' => ih (j + 1) f _ a' w' (by omega) (by omega) (by omega) (by omega) (hL.set hlt) h'
        split
        · rename_i hw
          rw [if_pos hw] at h
          exact Oper.wpIn_mono next h
        · rename_i hw
          rw [if_neg hw] at h
          exact ⟨h.1, next _ _ h.2⟩

theorem Tailed.go (T : Tailed l k) (hfn : ∀ f, F.fn f) (hd : F.depth = none) (hcall : ∀ f args W R, Calls P f args W R → CallsIn F (n - 1) P f args W R) {X : World → Prop} {Qb : Act → Prop}
    (hQb : ∀ a w, Qb a → X w → wpListIn F n P l.toArray Q (l.drop k) a w) : ∀ (fuel : Nat) (listed : Array Bool) (a : Act) (w : World), listed.size = l.length → Closed l listed → (∀ j, k ≤ j → j < l.length → listed.getD j true = false) → X w →
      wpAnyQ P .any (strikeL l k).toArray X Qb fuel listed a → wpAnyIn F n P .any l.toArray Q fuel listed a w := by
  intro fuel
  induction fuel with
  | zero =>
    intro listed a w hsz hc hun hX h
    exfalso
    obtain ⟨i, hi⟩ := T.someReady hsz k (hun k (Nat.le_refl _) T.lt)
    have h1 := h.1
    rw [← struck_ready (k := k) i] at hi
    rw [h1] at hi; cases hi
  | succ fuel ih =>
    intro listed a w hsz hc hun hX h
    by_cases hkr : k ∈ Region.ready .any l.toArray listed
    · have hcov := T.coverAt hc hkr
      have hL : ListedTo l.length listed k := ⟨hsz, fun j hj d => by
        by_cases hjk : j < k
        · rw [getD_two (by omega) d false, hcov j hjk]; simp [hjk]
        · rw [getD_two (by omega) d true, hun j (by omega) hj]; simp [hjk]⟩
      obtain ⟨h1, h2⟩ := T.struck (fuel + 1) k listed a (Nat.le_refl _) (Nat.le_of_lt T.lt) hL h
      exact T.tail _ k (fuel + 1) listed a w rfl h1 (Nat.le_refl _) (Nat.le_of_lt T.lt) hL (hQb a w h2 hX)
    · refine ⟨fun e => ?_, fun i hi => ?_⟩
      · obtain ⟨i, hi⟩ := T.someReady hsz k (hun k (Nat.le_refl _) T.lt)
        rw [e] at hi; cases hi
      · obtain ⟨hu, o, ho, hall⟩ := mem_ready.1 hi
        have ho' : l[i]? = some o := by simpa using ho
        have hilt := (List.getElem?_eq_some_iff.1 ho').1
        have hik : i < k := by
          rcases Nat.lt_or_ge i k with h' | h'
          · exact h'
          · exfalso
            rcases Nat.lt_or_ge k i with h2 | h2
            · obtain ⟨e, he, hb, hon⟩ := T.chainAt ho' h2
              have := hall e he hb
              rw [hon, getD_two (by omega) false true, hun _ (by omega) (by omega)] at this
              cases this
            · have : i = k := by omega
              exact hkr (this ▸ hi)
        have hq := h.2 i ((struck_ready (k := k) i listed).2 hi)
        obtain ⟨v, hy, hK⟩ := yieldsIn_of_qOp (by rw [List.getElem?_toArray, strikeL_pre hik]; exact ho') hq
        have hnext : ∀ w', X w' → wpAnyIn F n P .any l.toArray Q fuel (listed.setIfInBounds i true) (a.put o.dst v) w' := fun w' hX' =>
          ih _ _ w' (by rw [Array.size_setIfInBounds]; exact hsz) (hc.set hsz hi) (fun j hj hjl => by rw [getD_set, if_neg (fun h => by omega)]; exact hun j hj hjl) hX' hK
        unfold wpOpIn
        simp only [ho]
        unfold YieldsIn at hy
        rw [T.wanted hik ho'] at hy
        rcases hy with ⟨hw, hv⟩ | ⟨hw, rfl⟩
        · rw [if_pos hw]
          exact wpIn_of_quiet (C := X) (K := fun a' => a' = a.put o.dst v) hfn hd hcall (T.ndAt ho') hX (fun a' w' hw' e => e ▸ hnext w' hw') ⟨v, hv, rfl⟩
        · rw [if_neg (by rw [hw]; simp)]
          exact ⟨fun f _ => hfn f, hnext w hX⟩
end

theorem region_tail {P : Program} {F : Fence} {n : Nat} (hfn : ∀ f, F.fn f) (hd : F.depth = none) (hcall : ∀ f args W R, Calls P f args W R → CallsIn F (n - 1) P f args W R)
    {id : Nat} {Q : Exit → Act → World → Prop} {a : Act} {w : World} {l : List Oper} (hm : P.follows .mixedOrders = true) (k : Nat) (T : Tailed l k)
    (hB : Region.lexB .any (strikeL l k).toArray = true) (X : World → Prop) (hX : X w.drew)
    (h : wpQuiet P (strikeL l k).toArray X (fun a' => ∀ w', X w' → wpListIn F n P l.toArray Q (l.drop k) a' w') (strikeL l k) a) : (Code.region id l.toArray true).wpIn F n P Q a w := by
  refine wpIn_region_any hm ?_
  refine T.go (X := X) hfn hd hcall (Qb := fun a' => ∀ w', X w' → wpListIn F n P l.toArray Q (l.drop k) a' w') (fun a' w' hq hx => hq w' hx) _ _ _ _ (by simp) ?_ ?_ hX ?_
  · intro i o ho hi
    rw [Array.getD_eq_getD_getElem?, Array.getElem?_replicate] at hi
    split at hi <;> cases hi
  · intro j hj hjl
    rw [Array.getD_eq_getD_getElem?, Array.getElem?_replicate]; simp [hjl]
  · simp only [Region.lexB, Bool.and_eq_true] at hB
    have := wpAnyQ_lex (C := X) (md := .any) hB.1 (strikeL l k) 0 (Array.replicate (strikeL l k).toArray.size false) a (by simp) (by simpa using hB.2) h
    simpa [strikeL_len] using this
end Go.Proofs.Ytknbcmildpmokaa

/- Regions that draw their order, for walks that stand in no fence; bounds of products. -/
namespace Go.Proofs.Ytknbcmildpmokaa
open Go.RowKit Go.Shelf

theorem region_quietP {id : Nat} {Q : Exit → Act → World → Prop} {a : Act} {w : World} {l : List Oper} (hB : Region.lexB .any l.toArray = true) (hnd : l.all (fun o => !Op.isDefer o.op) = true)
    (C : World → Prop) (hC : C w.drew) (h : wpQuiet Try.prog l.toArray C (fun a' => ∀ w', C w' → Q .normal a' w') l a) : (Code.region id l.toArray true).wp Try.prog Q a w :=
  (wpIn_wide (n := 3)).1 (region_quietC (fun _ => trivial) rfl wide_call mixed hB hnd C hC h)
theorem region_tailP {id : Nat} {Q : Exit → Act → World → Prop} {a : Act} {w : World} {l : List Oper} (k : Nat) (T : Tailed l k)
    (hB : Region.lexB .any (strikeL l k).toArray = true) (X : World → Prop) (hX : X w.drew)
    (h : wpQuiet Try.prog (strikeL l k).toArray X (fun a' => ∀ w', X w' → wpListIn Fence.wide 3 Try.prog l.toArray Q (l.drop k) a' w') (strikeL l k) a) : (Code.region id l.toArray true).wp Try.prog Q a w :=
  (wpIn_wide (n := 3)).1 (region_tail (fun _ => trivial) rfl wide_call mixed k T hB X hX h)
theorem cells_frozen {w : World} {b : Nat} {cs : Array Value} {t : TypeId} (h : w.heap[b]? = some (.cells cs t)) (o : Nat) : w.frozen? ⟨b, o, none⟩ = false := by
  simp [World.frozen?, h]
/-- A number, or both of a span, within so much. -/
def Small (m : Int) (s : Int × Int) : Prop := (-m ≤ s.1 ∧ s.1 ≤ m) ∧ (-m ≤ s.2 ∧ s.2 ≤ m)
theorem mul_bd {m k a b : Int} (ha : -m ≤ a ∧ a ≤ m) (hb : -k ≤ b ∧ b ≤ k) : -(m * k) ≤ a * b ∧ a * b ≤ m * k := by
  have h1 : (a * b).natAbs ≤ (m * k).natAbs := by
    rw [Int.natAbs_mul, Int.natAbs_mul]
    exact Nat.mul_le_mul (by omega) (by omega)
  have h2 : 0 ≤ m * k := Int.mul_nonneg (by omega) (by omega)
  omega
theorem region_makerP {id : Nat} {Q : Exit → Act → World → Prop} {a : Act} {w : World} {l : List Oper} (lb : Nat → List Oper) (ia is : Nat) (oa os : Oper) (ob : Obj) (M : Made Try.prog l.toArray (fun b => (lb b).toArray) ia is oa os ob)
    (hB : ∀ b, Region.lexB .any (lb b).toArray = true) (hlen : ∀ b, (lb b).length = l.length)
    (h : ∀ b X, Sub w.drew X → wpQuiet Try.prog (lb b).toArray X (fun a' => ∀ w', Mod noB w.drew w' → w.heap.size ≤ b → w'.heap[b]? = some ob → wpListIn Fence.wide 3 Try.prog l.toArray Q [os] a' w') (lb b) a) : (Code.region id l.toArray true).wp Try.prog Q a w :=
  (wpIn_wide (n := 3)).1 (region_maker (fun _ => trivial) rfl wide_call mixed lb ia is oa os ob M hB hlen h)
theorem cellsAt {w : World} {b : Nat} {cs : Array Value} {T : TypeId} (h : w.heap[b]? = some (.cells cs T)) (o : Nat) : w.cell? ⟨b, o, none⟩ = cs[o]? := by simp [World.cell?, h]
theorem cell_same {w w' : World} {b : Nat} (h : w'.heap[b]? = w.heap[b]?) (o : Nat) : w'.cell? ⟨b, o, none⟩ = w.cell? ⟨b, o, none⟩ := by
  simp only [World.cell?, h]
theorem new_at (w : World) (o : Obj) : ∀ W', Mod noB (w.alloc o) W' → W'.heap[w.heap.size]? = some o := fun W' h => h.at (World.alloc_heap_new w o) id
theorem set_same {w : World} {b o : Nat} {cs ds : Array Value} {T : TypeId} {v : Value} (h : w.heap[b]? = some (.cells cs T)) (e : cs.setIfInBounds o v = ds) : (w.setCell ⟨b, o, none⟩ v).heap[b]? = some (.cells ds T) := by
  rw [← e]; exact heap_setCell_same w b o cs T v h
theorem set_other {w : World} {b c o : Nat} {x : Obj} {v : Value} (h : w.heap[b]? = some x) (n : b ≠ c) : (w.setCell ⟨c, o, none⟩ v).heap[b]? = some x := by
  rw [heap_setCell_other w ⟨c, o, none⟩ b v n]; exact h
theorem frozen_at {w : World} {b : Nat} {cs : Array Value} {T : TypeId} (h : w.heap[b]? = some (.cells cs T)) (o : Nat) : w.frozen? ⟨b, o, none⟩ = false := frozen_of_row w b o cs T h
theorem at_ltS {w : World} {b : Nat} {o : Obj} (h : w.heap[b]? = some o) : b < w.heap.size := (Array.getElem?_eq_some_iff.1 h).1
end Go.Proofs.Ytknbcmildpmokaa

/- Arrays in memory, told by a function of the place. -/
namespace Go.Proofs.Ytknbcmildpmokaa
open Go.RowKit

def fcells (n : Nat) (f : Nat → Value) : Array Value := ((List.range n).map f).toArray

theorem fcells_size (n : Nat) (f : Nat → Value) : (fcells n f).size = n := by simp [fcells]
theorem fcells_at {n : Nat} {f : Nat → Value} {k : Nat} (h : k < n) : (fcells n f)[k]? = some (f k) := by simp [fcells, h]

theorem fcells_cell {W : World} {b n : Nat} {f : Nat → Value} {T : TypeId} (h : W.heap[b]? = some (.cells (fcells n f) T)) {k : Nat} (hk : k < n) : W.cell? ⟨b, k, none⟩ = some (f k) := by
  simp only [World.cell?, h]
  simpa using fcells_at hk
theorem fcells_set {n : Nat} {f : Nat → Value} {k : Nat} (v : Value) : (fcells n f).setIfInBounds k v = fcells n (fun j => if j = k then v else f j) := by
  apply Array.ext
  · simp [fcells]
  · intro i h1 h2
    simp only [fcells, Array.getElem_setIfInBounds, List.getElem_toArray, List.getElem_map, List.getElem_range]
    by_cases e : k = i
    · subst e; simp
    · simp [e, Ne.symm e]
theorem setCell_at {W : World} {b : Nat} {cs : Array Value} {T : TypeId} (h : W.heap[b]? = some (.cells cs T)) (k : Nat) (v : Value) : (W.setCell ⟨b, k, none⟩ v).heap[b]? = some (.cells (cs.setIfInBounds k v) T) := by
  have hlt := (Array.getElem?_eq_some_iff.1 h).1
  show (W.heap.modify b _)[b]? = _
  rw [Array.getElem?_modify, if_pos rfl, h]
  simp
theorem fcells_store {W : World} {b n : Nat} {f : Nat → Value} {T : TypeId} (h : W.heap[b]? = some (.cells (fcells n f) T)) (k : Nat) (v : Value) :
    (W.setCell ⟨b, k, none⟩ v).heap[b]? = some (.cells (fcells n (fun j => if j = k then v else f j)) T) := by
  rw [setCell_at h, fcells_set]
theorem fcells_replicate (n : Nat) (v : Value) : Array.replicate n v = fcells n (fun _ => v) := by
  apply Array.ext
  · simp [fcells]
  · intro i h1 h2
    simp [fcells]

def boolCells (n : Nat) (R : Nat → Bool) : Array Value := fcells n (fun k => .bool (R k))
theorem boolCells_store {W : World} {b n : Nat} {R : Nat → Bool} {T : TypeId} (h : W.heap[b]? = some (.cells (boolCells n R) T)) (k : Nat) :
    (W.setCell ⟨b, k, none⟩ (.bool true)).heap[b]? = some (.cells (boolCells n (fun j => if j = k then true else R j)) T) := by
  unfold boolCells at *
  rw [fcells_store h]
  congr 2
  congr 1
  funext j
  by_cases e : j = k <;> simp [e]
/-! ### A whole array, read or written at once -/
section
variable {P : Program} {F : Fence} {n : Nat} {ops : Array Oper} {rest : List Oper} {o : Oper} {a : Act} {w : World} {Q : Exit → Act → World → Prop}

theorem setRow_put {b : Nat} {cs cs' : Array Value} {t : TypeId} (h : w.heap[b]? = some (.cells cs t)) : w.setRow b cs' = w.putObj b (.cells cs' t) := by
  obtain ⟨hlt, hv⟩ := Array.getElem?_eq_some_iff.1 h
  unfold World.setRow World.putObj
  congr 1
  apply Array.ext_getElem?
  intro i
  rw [Array.getElem?_modify, Array.getElem?_setIfInBounds]
  by_cases e : b = i
  · subst e
    simp [hlt, hv]
  · simp [e]

theorem alloc_put (w : World) (o o' : Obj) : (w.alloc o).putObj w.heap.size o' = w.alloc o' := by
  unfold World.putObj World.alloc
  congr 1
  apply Array.ext_getElem?
  intro i
  simp only [Array.getElem?_setIfInBounds, Array.getElem?_push, Array.size_push]
  by_cases e : w.heap.size = i
  · subst e; simp
  · have e' : ¬ i = w.heap.size := fun h => e h.symm
    simp [e, e']

theorem wpListIn_loadRow (hg : o.guard = none) (ty : TypeId) (x : Operand) (hop : o.op = .load ty x) (b : Nat) (hx : a.eval x = .pointer (some ⟨b, 0, none⟩)) (t : TypeId) (cs : Array Value) (d : TypeDesc) (hb : w.heap[b]? = some (.cells cs t))
    (hu : P.underlying ty = some d) (hd : (match d with | .struct _ | .array _ _ => true | _ => false) = true) (hi : (P.info? ty).map (·.size) = some cs.size)
    (hK : wpListIn F n P ops Q rest (a.put o.dst (.agg cs)) w) : wpListIn F n P ops Q (o :: rest) a w := by
  refine wpListIn_plain hg fun K' hK' => ?_
  unfold Oper.wpIn
  refine ⟨by simp [Oper.about, hop], ?_⟩
  rw [Oper.semAt_eq _ _ _ (by rw [hop]; intro c hc'; cases hc')]
  unfold execOp
  simp only [hop, hx, Instr.loadAt, Instr.sureAddr, Sem.run_bind, Sem.run_pure, Result.andThen_ok, run_loadVar_row w b t ty cs (0, 0) d hb hu hd hi]
  exact hK' _ _ hK

theorem wpListIn_storeRow (hg : o.guard = none) (ty : TypeId) (x y : Operand) (hop : o.op = .store ty x y) (b : Nat) (hx : a.eval x = .pointer (some ⟨b, 0, none⟩)) (cells : Array Value) (hy : a.eval y = .agg cells) (t : TypeId) (old : Array Value)
    (hb : w.heap[b]? = some (.cells old t)) (hi : (P.info? ty).map (·.size) = some cells.size) (hold : old.size = cells.size) (h1 : cells.all (·.oneCell') = true)
    (hK : wpListIn F n P ops Q rest (a.put o.dst undef) (w.putObj b (.cells cells t))) : wpListIn F n P ops Q (o :: rest) a w := by
  refine wpListIn_plain hg fun K' hK' => ?_
  unfold Oper.wpIn
  refine ⟨by simp [Oper.about, hop], ?_⟩
  rw [Oper.semAt_eq _ _ _ (by rw [hop]; intro c hc'; cases hc')]
  unfold execOp
  simp only [hop, hx, hy, Instr.storeAt, Instr.sureAddr, Sem.run_bind, Sem.run_pure, Result.andThen_ok, run_storeVar_row w b t ty old cells hb hi hold h1]
  rw [setRow_put hb]
  exact hK' _ _ hK
end

end Go.Proofs.Ytknbcmildpmokaa

/- Blocks laid one behind the other; what holds in a world and in all later ones. -/
namespace Go.Proofs.Ytknbcmildpmokaa
open Go.RowKit

/-- Objects laid one behind the other. -/
def allocL (w : World) : List Obj → World
  | [] => w
  | o :: os => allocL (w.alloc o) os
theorem allocL_size (os : List Obj) : ∀ w : World, (allocL w os).heap.size = w.heap.size + os.length := by
  induction os with
  | nil => exact fun w => rfl
  | cons o os ih => intro w; simp only [allocL, ih, World.size_alloc, List.length_cons]; omega
theorem allocL_mod (T : Nat → Prop) (os : List Obj) : ∀ w : World, Mod T w (allocL w os) := by
  induction os with
  | nil => exact fun w => Mod.refl _ _
  | cons o os ih => exact fun w => ((Mod.refl T w).alloc o).trans (ih _)
theorem allocL_at (os : List Obj) : ∀ (w : World) (i : Nat) (o : Obj), os[i]? = some o → (allocL w os).heap[w.heap.size + i]? = some o := by
  induction os with
  | nil => intro w i o h; cases h
  | cons x os ih =>
    intro w i o h
    cases i with
    | zero =>
      obtain rfl : x = o := by simpa using h
      exact (allocL_mod noB os (w.alloc x)).at (World.alloc_heap_new w x) id
    | succ i =>
      have := ih (w.alloc x) i o (by simpa using h)
      rw [World.size_alloc] at this
      rw [show w.heap.size + (i + 1) = w.heap.size + 1 + i from by omega]
      exact this
theorem allocL1 (w : World) (a : Obj) : w.alloc a = allocL w [a] := rfl
theorem allocL2 (w : World) (a b : Obj) : (w.alloc a).alloc b = allocL w [a, b] := rfl
theorem allocL3 (w : World) (a b c : Obj) : ((w.alloc a).alloc b).alloc c = allocL w [a, b, c] := rfl
theorem allocL4 (w : World) (a b c d : Obj) : (((w.alloc a).alloc b).alloc c).alloc d = allocL w [a, b, c, d] := rfl
theorem allocL5 (w : World) (a b c d e : Obj) : ((((w.alloc a).alloc b).alloc c).alloc d).alloc e = allocL w [a, b, c, d, e] := rfl
theorem allocL6 (w : World) (a b c d e f : Obj) : (((((w.alloc a).alloc b).alloc c).alloc d).alloc e).alloc f = allocL w [a, b, c, d, e, f] := rfl
theorem allocL7 (w : World) (a b c d e f g : Obj) : ((((((w.alloc a).alloc b).alloc c).alloc d).alloc e).alloc f).alloc g = allocL w [a, b, c, d, e, f, g] := rfl
theorem allocL8 (w : World) (a b c d e f g h : Obj) : (((((((w.alloc a).alloc b).alloc c).alloc d).alloc e).alloc f).alloc g).alloc h = allocL w [a, b, c, d, e, f, g, h] := rfl

/-- What holds in this world and in all later ones. -/
def Kept (w : World) (F : World → Prop) : Prop := ∀ w', Mod noB w w' → F w'
theorem Kept.later {w w' : World} {F : World → Prop} (h : Kept w F) (hm : Mod noB w w') : Kept w' F := fun w2 h2 => h w2 (hm.trans h2)
theorem Kept.and {w : World} {F G : World → Prop} (h : Kept w F) (k : Kept w G) : Kept w (fun w => F w ∧ G w) := fun w2 h2 => ⟨h w2 h2, k w2 h2⟩
theorem Kept.now {w : World} {F : World → Prop} (h : Kept w F) : F w := h w (Mod.refl _ _)
theorem kept_mod (w : World) : Kept w (fun w' => Mod noB w w') := fun _ h => h
theorem kept_block {w : World} {b : Nat} {o : Obj} (h : w.heap[b]? = some o) : Kept w (fun w' => w'.heap[b]? = some o) := fun _ hm => hm.at h id

/-- A block of a world that this one came from, and that all others lie behind. -/
theorem at_allocL {w W' : World} (os : List Obj) (h : Mod noB (allocL w os) W') (i : Nat) (o : Obj) (ho : os[i]? = some o) : W'.heap[w.heap.size + i]? = some o := h.at (allocL_at os w i o ho) id
theorem lt_allocL {w W' : World} (os : List Obj) (h : Mod noB (allocL w os) W') : w.heap.size + os.length ≤ W'.heap.size := by
  have := h.size; rw [allocL_size] at this; exact this
end Go.Proofs.Ytknbcmildpmokaa

/- Slices of integers. -/
namespace Go.Proofs.Ytknbcmildpmokaa
open Go.RowKit Go.Shelf

/-- A slice's value reads as the integers zs, in memory. -/
structure IntsAt (w : World) (ao : Option Addr) (zs : List Int) : Prop where
  lies : zs ≠ [] → ∃ b off, ao = some ⟨b, off, none⟩ ∧ b < w.heap.size ∧ ∀ j, j < zs.length → w.cell? ⟨b, off + j, none⟩ = some (.int .i64 (zs[j]?.getD 0))
  small : zs.length ≤ 1000000
theorem IntsAt.mod {w w' : World} {ao : Option Addr} {zs : List Int} (h : IntsAt w ao zs) (hm : Mod noB w w') : IntsAt w' ao zs :=
  ⟨fun hne => by obtain ⟨b, off, h1, h2, h3⟩ := h.lies hne; exact ⟨b, off, h1, Nat.lt_of_lt_of_le h2 hm.size, fun j hj => (cell_same (hm.block b h2 id) _).trans (h3 j hj)⟩, h.small⟩
/-- A block whose cells are a list of ints. -/
theorem ints_lit {w : World} {b : Nat} {cs : Array Value} {t : TypeId} (L : List Int) (h : w.heap[b]? = some (.cells cs t)) (hc : cs.toList = L.map (Value.int .i64)) (hs : L.length ≤ 1000000) : IntsAt w (some ⟨b, 0, none⟩) L :=
  ⟨fun _ => ⟨b, 0, rfl, (Array.getElem?_eq_some_iff.1 h).1, fun j hj => by
    simp only [World.cell?, h, Nat.zero_add]
    have e : cs[j]? = (cs.toList)[j]? := by simp
    have : cs[j]? = some (.int .i64 (L[j]?.getD 0)) := by rw [e, hc, List.getElem?_map, List.getElem?_eq_getElem hj]; rfl
    simpa using this⟩, hs⟩
theorem info3 : (Try.prog.info? 3).map (fun i => (i.zero, i.size, i.bytes)) = some (some (.int .i64 0), 1, 8) := by kernel_rfl
/-- The numbers of a slice of ints that a call made. -/
theorem ints_of_owns {w : World} {base n : Nat} {v : Value} {L : List Int} (h : w.ownsRow base 3 1 v n (L.map (Value.int .i64))) (hn : L.length = n) (hs : L.length ≤ 1000000) : ∃ ao cap, v = .slice ao n cap ∧ IntsAt w ao L ∧ (∀ b off, L ≠ [] → ao = some ⟨b, off, none⟩ → base ≤ b) := by
  obtain ⟨_, ⟨rfl, rfl⟩ | ⟨g, cap, cur, rfl, hb, hg, h1, _, h2, h3⟩⟩ := h
  · have : L = [] := List.length_eq_zero_iff.1 hn
    subst this
    exact ⟨none, 0, rfl, ⟨fun h => absurd rfl h, hs⟩, fun _ _ h => absurd rfl h⟩
  · refine ⟨some ⟨g, 0, none⟩, cap, rfl, ⟨fun _ => ⟨g, 0, rfl, (Array.getElem?_eq_some_iff.1 hg).1, fun j hj => ?_⟩, hs⟩, fun b off _ e => by cases e; exact hb⟩
    have hz : (0, 0).1 + j - (0, 0).1 = j := by omega
    have h4 : cur[j]? = some (.int .i64 (L[j]?.getD 0)) := by
      have e1 : (cur.toList.take (n * 1))[j]? = cur.toList[j]? := List.getElem?_take_of_lt (by omega)
      rw [h3, List.getElem?_map, List.getElem?_eq_getElem hj] at e1
      rw [← Array.getElem?_toList, ← e1, List.getElem?_eq_getElem hj]
      rfl
    simp only [World.cell?, hg, Nat.zero_add]
    simpa using h4
theorem ints_one (L : List Int) : ∀ u ∈ L.map (Value.int .i64), u.oneCell' = true := by
  intro u hu
  obtain ⟨x, _, rfl⟩ := List.mem_map.1 hu
  rfl
theorem one_cell (w : World) (n : Int) : ∀ (j : Nat) (u : Value), [Value.int .i64 n][j]? = some u → (w.alloc (.cells #[.int .i64 n] 3)).cell? (Addr.add ⟨w.heap.size, 0, none⟩ j) = some u := fun j u hj => by
  have hnw := World.alloc_heap_new w (.cells #[.int .i64 n] 3)
  have ea : Addr.add ⟨w.heap.size, 0, none⟩ j = ⟨w.heap.size, j, none⟩ := by simp [Addr.add]; omega
  rw [ea]
  simp only [World.cell?, hnw]
  rcases j with _ | j
  · simpa using hj
  · simp at hj
theorem own_ge {w : World} {base : Nat} {e : TypeId} {size : Nat} {v : Value} {n : Nat} {xs : List Value} (h : w.ownsRow base e size v n xs) {r : Nat} (hr : v.ownBlock = some r) : base ≤ r := by
  obtain ⟨_, ⟨rfl, _⟩ | ⟨g, cap, cur, rfl, hb, _⟩⟩ := h
  · cases hr
  · have : some g = some r := hr
    cases this
    exact hb
theorem own_mono {w : World} {base base' : Nat} {e : TypeId} {size : Nat} {v : Value} {n : Nat} {xs : List Value} (h : w.ownsRow base e size v n xs) (hb : base' ≤ base) : w.ownsRow base' e size v n xs := by
  obtain ⟨h1, h2 | ⟨g, cap, cur, hv, hg, h3⟩⟩ := h
  · exact ⟨h1, .inl h2⟩
  · exact ⟨h1, .inr ⟨g, cap, cur, hv, Nat.le_trans hb hg, h3⟩⟩
theorem own_mod {base e size n : Nat} {w w' : World} {v : Value} {xs : List Value} (h : w.ownsRow base e size v n xs) (hm : Mod noB w w') : w'.ownsRow base e size v n xs := by
  obtain ⟨h1, h2 | ⟨g, cap, cur, hv, hb, hh, hr⟩⟩ := h
  · exact ⟨h1, .inl h2⟩
  · exact ⟨h1, .inr ⟨g, cap, cur, hv, hb, hm.at hh id, hr⟩⟩
theorem ints_cell {w : World} {ao : Option Addr} {L : List Int} (h : IntsAt w ao L) {k : Nat} (hk : k < L.length) : ∃ b off, ao = some ⟨b, off, none⟩ ∧ b < w.heap.size ∧ w.cell? ⟨b, off + k, none⟩ = some (.int .i64 (L[k]?.getD 0)) := by
  obtain ⟨b, off, e, hb, hc⟩ := h.lies (by rintro rfl; simp at hk)
  exact ⟨b, off, e, hb, hc k hk⟩
theorem own_below {w : World} {base n : Nat} {v : Value} {xs : List Value} (h : w.ownsRow base 3 1 v n xs) {g : Nat} (e : v.ownBlock = some g) : g < w.heap.size := by
  obtain ⟨_, ⟨rfl, _⟩ | ⟨g2, cp, cur, rfl, _, hg2, _⟩⟩ := h
  · cases e
  · obtain rfl : g2 = g := Option.some.inj e
    exact (Array.getElem?_eq_some_iff.1 hg2).1
theorem kept_ints {w : World} {ao : Option Addr} {zs : List Int} (h : IntsAt w ao zs) : Kept w (fun w' => IntsAt w' ao zs) := fun _ hm => h.mod hm
end Go.Proofs.Ytknbcmildpmokaa

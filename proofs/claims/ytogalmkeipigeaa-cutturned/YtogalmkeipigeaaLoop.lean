/- A range over a function, as its callers want it: a round may turn the blocks of a set T alone (and make new ones); what is said between two rounds speaks of blocks that lay when the loop began. -/
import Derived.Test.YtogalmkeipigeaaProg
import Derived.RangeFuncNested
import Derived.RangeFuncBound
import Derived.RangeFuncCalls
import Derived.RangeFuncLeaves
import Derived.WalkKit
import Derived.OwnWalkIn
import Derived.TacticsInMore
import Derived.LoopNIn
import Derived.LoopIn
import Derived.Shelf.Abstract
import Derived.Shelf.RegionOpen
import Derived.Deep.QuietTactic
set_option linter.unusedSimpArgs false
set_option linter.unusedVariables false
namespace Go.Proofs.Ytogalmkeipigeaa
open Go.RowKit Go.Shelf

/-- A fact that the walk is not to use as a rule. -/
structure Hold (p : Prop) : Prop where
  out : p

/-- Of what lay in W, the blocks of T alone may have turned. -/
structure Mod (T : Nat → Prop) (W W' : World) : Prop where
  os : W'.os = W.os
  tape : W'.tape = W.tape
  output : W'.output = W.output
  size : W.heap.size ≤ W'.heap.size
  block : ∀ k, k < W.heap.size → ¬ T k → W'.heap[k]? = W.heap[k]?

abbrev noB : Nat → Prop := fun _ => False

theorem Mod.refl (T : Nat → Prop) (W : World) : Mod T W W := ⟨rfl, rfl, rfl, Nat.le_refl _, fun _ _ _ => rfl⟩
theorem Mod.trans {T : Nat → Prop} {A B C : World} (h : Mod T A B) (k : Mod T B C) : Mod T A C :=
  ⟨k.os.trans h.os, k.tape.trans h.tape, k.output.trans h.output, Nat.le_trans h.size k.size, fun i hi hT => (k.block i (Nat.lt_of_lt_of_le hi h.size) hT).trans (h.block i hi hT)⟩
/-- What turns behind may be other blocks, as far as they did not lie before. -/
theorem Mod.then {T T' : Nat → Prop} {A B C : World} (h : Mod T A B) (k : Mod T' B C) (hT : ∀ i, i < A.heap.size → T' i → T i) : Mod T A C :=
  ⟨k.os.trans h.os, k.tape.trans h.tape, k.output.trans h.output, Nat.le_trans h.size k.size, fun i hi hn => (k.block i (Nat.lt_of_lt_of_le hi h.size) (fun ht => hn (hT i hi ht))).trans (h.block i hi hn)⟩
theorem Mod.wider {T T' : Nat → Prop} {A B : World} (h : Mod T A B) (hT : ∀ i, i < A.heap.size → T i → T' i) : Mod T' A B :=
  ⟨h.os, h.tape, h.output, h.size, fun i hi hn => h.block i hi (fun ht => hn (hT i hi ht))⟩
theorem Mod.alloc {T : Nat → Prop} {A B : World} (h : Mod T A B) (o : Obj) : Mod T A (B.alloc o) :=
  ⟨h.os, h.tape, h.output, by simp; exact Nat.le_succ_of_le h.size, fun i hi hn => (Below.heap_alloc B o i (Nat.lt_of_lt_of_le hi h.size)).trans (h.block i hi hn)⟩
theorem Mod.drew {T : Nat → Prop} {A B : World} (h : Mod T A B) : Mod T A B.drew := ⟨h.os, h.tape, h.output, h.size, h.block⟩
theorem Mod.drewN {T : Nat → Prop} {A B : World} (h : Mod T A B) (n : Nat) : Mod T A (B.drewN n) := ⟨h.os, h.tape, h.output, h.size, h.block⟩
theorem Mod.setCell {T : Nat → Prop} {A B : World} (h : Mod T A B) {p : Addr} (hp : p.block < A.heap.size → T p.block) (v : Value) : Mod T A (B.setCell p v) :=
  ⟨h.os, h.tape, h.output, by show _ ≤ (B.heap.modify _ _).size; rw [Array.size_modify]; exact h.size, fun i hi hn => by
    have hne : p.block ≠ i := fun e => hn (e ▸ hp (e ▸ hi))
    show (B.heap.modify _ _)[i]? = _
    rw [Array.getElem?_modify, if_neg hne]
    exact h.block i hi hn⟩
theorem Mod.putObj {T : Nat → Prop} {A B : World} (h : Mod T A B) {b : Nat} (hp : b < A.heap.size → T b) (o : Obj) : Mod T A (B.putObj b o) :=
  ⟨h.os, h.tape, h.output, by simpa using h.size, fun i hi hn => by
    have hne : i ≠ b := fun e => hn (e ▸ hp (e ▸ hi))
    exact (World.putObj_heap_other hne).trans (h.block i hi hn)⟩
theorem Mod.of_below {A B : World} {n : Nat} (h : Below n A B) (hn : n = A.heap.size) : Mod noB A B := by
  subst hn
  exact ⟨h.os, h.tape, h.output, h.size, fun i hi _ => h.block i hi⟩
theorem Mod.below {A B : World} (h : Mod noB A B) : Below A.heap.size A B :=
  ⟨h.os, h.tape, h.output, h.size, fun i hi => h.block i hi id⟩
theorem Mod.of_grownBy {T : Nat → Prop} {A B : World} {row : Option Nat} (h : A.grownBy B row) (hr : ∀ r, row = some r → r < A.heap.size → T r) : Mod T A B :=
  ⟨h.os, h.tape, h.output, h.size, fun i hi hn => h.block i hi (fun e => hn (hr i e.symm hi))⟩
/-- A block that lies on. -/
theorem Mod.at {T : Nat → Prop} {A B : World} (h : Mod T A B) {k : Nat} {o : Obj} (hk : A.heap[k]? = some o) (hn : ¬ T k) : B.heap[k]? = some o :=
  (h.block k (Array.getElem?_eq_some_iff.1 hk).1 hn).trans hk
theorem Mod.keepsFrom {T : Nat → Prop} {A B : World} (h : Mod T A B) {n : Nat} (hT : ∀ k, T k → k < n) : KeepsFrom n A B :=
  ⟨h.size, fun k o hk ho _ => h.at ho (fun ht => absurd (hT k ht) (by omega))⟩

/-- What hangs on the blocks below B alone. -/
def Stable {β : Type} (B : Nat) (I : β → World → Prop) : Prop := ∀ s W W', I s W → Mod (fun k => B ≤ k) W W' → I s W'

/-- The blocks of S lie as they lay. -/
def KeepB (S : Nat → Prop) (W W' : World) : Prop := ∀ k, S k → W'.heap[k]? = W.heap[k]?

theorem Mod.keepB {T S : Nat → Prop} {A B : World} (h : Mod T A B) (hS : ∀ k, S k → k < A.heap.size ∧ ¬ T k) : KeepB S A B := fun k hk => h.block k (hS k hk).1 (hS k hk).2
theorem KeepB.trans {S : Nat → Prop} {A B C : World} (h : KeepB S A B) (k : KeepB S B C) : KeepB S A C := fun i hi => (k i hi).trans (h i hi)

/-- An iterator's value, laid in world w: called with whatever loop body that keeps the blocks of S, it hands over the elements of L, in their order; of its own it turns no block that lay when it was called. -/
def Runs {α : Type} (P : Program) (gf : Nat) (lb : Array Value) (enc : α → Value) (S : Nat → Prop) (L : List α) (w : World) : Prop :=
  ∀ (n l : Nat) (J Jx : List α → World → Prop) (W : World), w.heap.size ≤ W.heap.size → KeepB S w W → Stable W.heap.size J → Stable W.heap.size Jx →
    (∀ pre x rest W1, L = pre ++ x :: rest → J pre W1 → W.heap.size ≤ W1.heap.size → YieldAt Fence.wide n P l #[enc x] W1 fun e W' =>
      (e = .returned (.bool true) ∧ J (pre ++ [x]) W' ∧ Mod (fun k => k < W.heap.size ∧ ¬ S k) W1 W') ∨ (e = .returned (.bool false) ∧ Jx (pre ++ [x]) W' ∧ Mod (fun k => k < W.heap.size ∧ ¬ S k) W1 W')) →
    J [] W →
    CallsIn Fence.wide (n + 1) P gf (#[.func (.yield l) #[] #[]] ++ lb) W fun e W' => (∃ v, e = .returned v) ∧ W.heap.size ≤ W'.heap.size ∧ (J L W' ∨ ∃ pre, pre <+: L ∧ Jx pre W')

theorem Runs.later {α : Type} {P : Program} {gf : Nat} {lb : Array Value} {enc : α → Value} {S : Nat → Prop} {L : List α} {w w' : World} (h : Runs P gf lb enc S L w) (hb : w.heap.size ≤ w'.heap.size) (hk : KeepB S w w') : Runs P gf lb enc S L w' :=
  fun n l J Jx W hs hW => h n l J Jx W (Nat.le_trans hb hs) (hk.trans hW)

/-- The same, told by how many elements have come. -/
theorem runs_of {α : Type} {P : Program} {gf : Nat} {lb : Array Value} {enc : α → Value} {S : Nat → Prop} {L : List α} {w : World}
    (h : ∀ (n l : Nat) (J Jx : Nat → World → Prop) (W : World), w.heap.size ≤ W.heap.size → KeepB S w W → Stable W.heap.size J → Stable W.heap.size Jx →
      (∀ (m : Nat) (hm : m < L.length) (W1 : World), J m W1 → W.heap.size ≤ W1.heap.size → YieldAt Fence.wide n P l #[enc L[m]] W1 fun e W' =>
        (e = .returned (.bool true) ∧ J (m + 1) W' ∧ Mod (fun k => k < W.heap.size ∧ ¬ S k) W1 W') ∨ (e = .returned (.bool false) ∧ Jx (m + 1) W' ∧ Mod (fun k => k < W.heap.size ∧ ¬ S k) W1 W')) →
      J 0 W → CallsIn Fence.wide (n + 1) P gf (#[.func (.yield l) #[] #[]] ++ lb) W fun e W' => (∃ v, e = .returned v) ∧ W.heap.size ≤ W'.heap.size ∧ (J L.length W' ∨ ∃ m, Jx m W')) :
    Runs P gf lb enc S L w := by
  intro n l J Jx W hs hW hJ hJx hY h0
  have htake : ∀ m (hm : m < L.length), L.take (m + 1) = L.take m ++ [L[m]] := fun m hm => List.take_succ_eq_append_getElem hm
  refine (h n l (fun m W => J (L.take m) W) (fun m W => Jx (L.take m) W) W hs hW (fun s A B hs hg => hJ _ A B hs hg) (fun s A B hs hg => hJx _ A B hs hg) ?_ (by simpa using h0)).mono ?_
  · intro m hm W1 hj hsz
    have := hY (L.take m) L[m] (L.drop (m + 1)) W1 (by rw [List.getElem_cons_drop, List.take_append_drop]) hj hsz
    rw [← htake m hm] at this
    exact this
  · rintro e W' ⟨hv, hz, hj | ⟨m, hm⟩⟩
    · exact ⟨hv, hz, .inl (by rw [List.take_length] at hj; exact hj)⟩
    · exact ⟨hv, hz, .inr ⟨_, List.take_prefix _ _, hm⟩⟩

/-- How a round's body may be left. -/
def Post {α : Type} (T : Nat → Prop) (I : List α → World → Prop) (Ix : Code → List α → World → Prop) (xs : List α) (W : World) : Exit → Act → World → Prop
  | .normal, _, W' => Mod T W W' ∧ I xs W'
  | .ret, _, W' => Mod T W W' ∧ Ix .ret xs W'
  | .exit id, _, W' => Mod T W W' ∧ Ix (.exit id) xs W'
  | .goto t, _, W' => Mod T W W' ∧ Ix (.goto t) xs W'
  | .panic _, _, _ => False
  | .outgrown, _, _ => False

/-- The assign code of a loop whose variable is boxed, or not: what the round's body is told. -/
def Var {α : Type} (B : Nat) (box : Option (TypeId × (α → Array Value))) (fa : Nat → α → Act) (x : α) (a' : Act) (W : World) : Prop :=
  match box with
  | none => a' = fa 0 x
  | some (t, cs) => ∃ b, B ≤ b ∧ W.heap[b]? = some (.cells (cs x) t) ∧ a' = fa b x

section
variable {α : Type} {P : Program} {n : Nat} {g : Operand} {ps : Array Tmp} {assign body : Code} {Q : Exit → Act → World → Prop} {a : Act} {w : World}

theorem roundIn_any {F : Fence} (hF : F.depth = none) {m m' l : Nat} {f : FuncId} {tmps : Array Value} {R : Ending → World → Prop} (h : RoundIn F m P l f tmps assign body w R) : RoundIn F m' P l f tmps assign body w R :=
  ⟨h.1, fun c cs _ => h.2 c cs (fun d hd => by rw [hF] at hd; cases hd)⟩

theorem roundIn_inRound {F : Fence} {m l r : Nat} {f : FuncId} {tmps : Array Value} {R : Ending → World → Prop} (h : RoundIn F m P l f tmps assign body w R) : RoundIn (F.inRound r) m P l f tmps assign body w R := h

/-- The heart of both laws: the record lies at l in W1. -/
theorem range_core {gf : Nat} {lb : Array Value} {enc : α → Value} {S : Nat → Prop} {L : List α} (hps : ps.size = 1) (hr : Runs P gf lb enc S L w)
    {l B : Nat} {W1 : World} (hB : B ≤ l) (hl1 : l < W1.heap.size) (fn : FuncId) (dfr : Nat) (hlW : W1.heap[l]? = some (.loop { state := .ready, pending := none, fn := fn, tmps := a.tmps, params := ps, assign := assign, body := body, defers := dfr }))
    (hS : ∀ k, S k → k < B) (hwB : w.heap.size = B) (hw1 : Mod noB w W1) (T : Nat → Prop) (hT : ∀ k, T k → k < B ∧ ¬ S k)
    (I : List α → World → Prop) (Ix : Code → List α → World → Prop) (hI : Stable B I) (hIx : ∀ c, Stable B (Ix c)) (h0 : I [] w)
    (X : World → Prop) (hX : ∀ W W', X W → Mod (fun k => k = l ∨ T k ∨ W1.heap.size ≤ k) W W' → X W') (hX1 : X W1)
    (box : Option (TypeId × (α → Array Value))) (fa : Nat → α → Act)
    (hassign : ∀ (l : Nat) (x : α) (W : World) (K : Act → World → Prop),
      (match box with | none => K (fa 0 x) W | some (t, cs) => K (fa W.heap.size x) (W.alloc (.cells (cs x) t))) →
      assign.wpIn (Fence.wide.inRound l) n P (Exit.then K (fun _ _ _ => False)) { tmps := (ps.zip #[enc x]).foldl (fun t (p, v) => t.setIfInBounds p v) a.tmps, defers := [] } W)
    (hbody : ∀ (l : Nat) (pre : List α) (x : α) (rest : List α) (a' : Act) (W : World), L = pre ++ x :: rest → B ≤ l → (∃ r, W.heap[l]? = some (.loop r)) → B ≤ W.heap.size → I pre W → Var B box fa x a' W →
      body.wpIn (Fence.wide.inRound l) n P (Post T I Ix (pre ++ [x]) W) a' W) (m : Nat) :
    CallsIn Fence.wide m P gf (#[.func (.yield l) #[] #[]] ++ lb) W1 fun e W' => (∃ v, e = .returned v) ∧ ∃ jump W4, (Instr.endLoop l).run P W' = .ok jump W4 ∧ W1.heap.size ≤ W4.heap.size ∧ X W4 ∧
      (match jump with | none => I L W4 | some c => ∃ pre, pre <+: L ∧ Ix c pre W4) := by
  obtain ⟨rec, hrec⟩ : ∃ rec : LoopState → Option Code → Loop, rec = fun st pe => { state := st, pending := pe, fn := fn, tmps := a.tmps, params := ps, assign := assign, body := body, defers := dfr } := ⟨_, rfl⟩
  have hl0 : W1.heap[l]? = some (.loop (rec .ready none)) := by rw [hrec]; exact hlW
  have hBl : B ≤ l := hB
  -- what a write to the record leaves
  have put_l : ∀ (W : World) (o : Obj), Mod (fun k => k = l) W (W.putObj l o) := fun W o => (Mod.refl (fun k => k = l) W).putObj (b := l) (fun _ => rfl) o
  have hIput : ∀ pre W o, I pre W → I pre (W.putObj l o) := fun pre W o h => hI _ _ _ h ((put_l W o).wider (fun i _ e => e ▸ hBl))
  have hIxput : ∀ c pre W o, Ix c pre W → Ix c pre (W.putObj l o) := fun c pre W o h => hIx c _ _ _ h ((put_l W o).wider (fun i _ e => e ▸ hBl))
  have hXput : ∀ W o, X W → X (W.putObj l o) := fun W o h => hX _ _ h ((put_l W o).wider (fun i _ e => .inl e))
  have hcall := hr n l (fun pre W => I pre W ∧ W.heap[l]? = some (.loop (rec .ready none)) ∧ X W) (fun pre W => ∃ c, Ix c pre W ∧ W.heap[l]? = some (.loop (rec .done (some c))) ∧ X W) W1 hw1.size
    (hw1.keepB (fun k hk => ⟨hwB ▸ hS k hk, id⟩))
    (fun s W W' h hm => ⟨hI _ _ _ h.1 (hm.wider (fun i _ hi => by omega)), hm.at h.2.1 (by omega), hX _ _ h.2.2 (hm.wider (fun i _ hi => .inr (.inr hi)))⟩)
    (fun s W W' h hm => by
      obtain ⟨c, h1, h2, h3⟩ := h
      exact ⟨c, hIx c _ _ _ h1 (hm.wider (fun i _ hi => by omega)), hm.at h2 (by omega), hX _ _ h3 (hm.wider (fun i _ hi => .inr (.inr hi)))⟩)
    ?_ ⟨hI _ _ _ h0 (hw1.wider (fun i _ h => h.elim)), hl0, hX1⟩
  · refine callsIn_wide.2 (callsIn_wide.1 (hcall.mono ?_))
    rintro e W2 ⟨hv, hsz2, ⟨hi, hl, hx⟩ | ⟨pre, hpre, c, hi, hl, hx⟩⟩
    · exact ⟨hv, none, _, by have := run_endLoop (P := P) hl (by rw [hrec]; simp); rw [hrec] at this; exact this, by simpa using hsz2, hXput _ _ hx, hIput _ _ _ hi⟩
    · exact ⟨hv, some c, _, by have := run_endLoop (P := P) hl (by rw [hrec]; simp); rw [hrec] at this; exact this, by simpa using hsz2, hXput _ _ hx, pre, hpre, hIxput _ _ _ _ hi⟩
  · -- one round
    rintro pre x rest W hL ⟨hi, hl, hx⟩ hszW
    have hlt : l < W.heap.size := (Array.getElem?_eq_some_iff.1 hl).1
    have hy := run_yield (P := P) (args := #[enc x]) hl (by rw [hrec]; exact hps.symm)
    rw [hrec] at hy
    refine ⟨fn, _, assign, body, hy, roundIn_any rfl (roundIn_of_wpIn trivial (hassign l x W _ ?_))⟩
    -- the world that the assign code leaves
    have hgo : ∀ (a' : Act) (Wa : World), Mod noB W Wa → Var B box fa x a' Wa → ∃ w₂, (Instr.beginRound l).run P Wa = .ok () w₂ ∧ body.wpIn (Fence.wide.inRound l) n P (roundPost P l (fun e W' =>
        (e = .returned (.bool true) ∧ (I (pre ++ [x]) W' ∧ W'.heap[l]? = some (.loop (rec .ready none)) ∧ X W') ∧ Mod (fun k => k < W1.heap.size ∧ ¬ S k) W W') ∨
        (e = .returned (.bool false) ∧ (∃ c, Ix c (pre ++ [x]) W' ∧ W'.heap[l]? = some (.loop (rec .done (some c))) ∧ X W') ∧ Mod (fun k => k < W1.heap.size ∧ ¬ S k) W W'))) a' w₂ := by
      intro a' Wa hma hvar
      have hla := hma.at hl id
      have hlta : l < Wa.heap.size := (Array.getElem?_eq_some_iff.1 hla).1
      refine ⟨_, run_beginRound hla (by rw [hrec]), ?_⟩
      obtain ⟨Wb, hWb⟩ : ∃ Wb, Wa.putObj l (.loop { rec .ready none with state := .busy }) = Wb := ⟨_, rfl⟩
      have hlb : Wb.heap[l]? = some (.loop { rec .ready none with state := .busy }) := by rw [← hWb]; exact World.putObj_heap_same hlta
      have hmb : Mod (fun k => k = l) Wa Wb := by rw [← hWb]; exact put_l _ _
      have hwb : Mod (fun k => k = l) W Wb := hma.wider (fun _ _ h => h.elim) |>.trans hmb
      have hib : I pre Wb := hI _ _ _ hi (hwb.wider (fun i _ e => e ▸ hBl))
      have hxb : X Wb := hX _ _ hx (hwb.wider (fun i _ e => .inl e))
      have hvb : Var B box fa x a' Wb := by
        unfold Var at hvar ⊢
        split at hvar
        · exact hvar
        · obtain ⟨b, h1, h2, h3⟩ := hvar
          refine ⟨b, h1, hmb.at h2 (fun e => ?_), h3⟩
          rw [e, hla] at h2
          cases h2
      rw [hWb]
      refine wpIn_mono (hbody l pre x rest a' Wb hL hBl ⟨_, hlb⟩ (by have := hwb.size; omega) hib hvb) ?_
      have fin : ∀ (jump : Option Code) (W3 : World), Mod T Wb W3 → (Instr.endRound l jump).run P W3 = .ok (.bool jump.isNone) (W3.putObj l (.loop (rec (if jump.isNone then .ready else .done) jump))) ∧
          (W3.putObj l (.loop (rec (if jump.isNone then .ready else .done) jump))).heap[l]? = some (.loop (rec (if jump.isNone then .ready else .done) jump)) ∧ X (W3.putObj l (.loop (rec (if jump.isNone then .ready else .done) jump))) ∧
          Mod (fun k => k < W1.heap.size ∧ ¬ S k) W (W3.putObj l (.loop (rec (if jump.isNone then .ready else .done) jump))) := by
        intro jump W3 hm3
        have hl3 : W3.heap[l]? = some (.loop { rec .ready none with state := .busy }) := hm3.at hlb (fun ht => by have := (hT l ht).1; omega)
        have := run_endRound (P := P) jump hl3
        rw [hrec] at this ⊢
        have hlS : l < W1.heap.size ∧ ¬ S l := ⟨hl1, fun h => by have := hS l h; omega⟩
        refine ⟨this, World.putObj_heap_same (Array.getElem?_eq_some_iff.1 hl3).1, hXput _ _ (hX _ _ hxb (hm3.wider (fun i _ ht => .inr (.inl ht)))), ?_⟩
        exact ((hwb.wider (fun i _ e => e ▸ hlS)).trans (hm3.wider (fun i _ ht => ⟨by have := (hT i ht).1; omega, (hT i ht).2⟩))).trans ((put_l _ _).wider (fun i _ e => e ▸ hlS))
      rintro e a3 W3 hp
      cases e with
      | normal =>
        obtain ⟨f1, f2, f3, f4⟩ := fin none W3 hp.1
        exact ⟨_, _, f1, .inl ⟨rfl, ⟨hIput _ _ _ hp.2, f2, f3⟩, f4⟩⟩
      | ret =>
        obtain ⟨f1, f2, f3, f4⟩ := fin (some .ret) W3 hp.1
        exact ⟨_, _, f1, .inr ⟨rfl, ⟨_, hIxput _ _ _ _ hp.2, f2, f3⟩, f4⟩⟩
      | exit id =>
        obtain ⟨f1, f2, f3, f4⟩ := fin (some (.exit id)) W3 hp.1
        exact ⟨_, _, f1, .inr ⟨rfl, ⟨_, hIxput _ _ _ _ hp.2, f2, f3⟩, f4⟩⟩
      | goto t =>
        obtain ⟨f1, f2, f3, f4⟩ := fin (some (.goto t)) W3 hp.1
        exact ⟨_, _, f1, .inr ⟨rfl, ⟨_, hIxput _ _ _ _ hp.2, f2, f3⟩, f4⟩⟩
      | panic ch => exact hp.elim
      | outgrown => exact hp.elim
    cases box with
    | none => exact hgo _ _ (Mod.refl _ _) rfl
    | some tc =>
      obtain ⟨t, cs⟩ := tc
      exact hgo _ _ ((Mod.refl _ _).alloc _) ⟨W.heap.size, by omega, World.alloc_heap_new W _, rfl⟩

/-- The first law: a loop that stands in no other loop's round. -/
theorem range_plain {gf : Nat} {lb : Array Value} {enc : α → Value} {S : Nat → Prop} {L : List α} (hps : ps.size = 1)
    (hg : a.eval g = .func (.func gf) #[] lb) (eg : ∀ args w, (callFunc gf args).run P w = .ok (.enter gf args) w)
    (hr : Runs P gf lb enc S L w) (hS : ∀ k, S k → k < w.heap.size) (T : Nat → Prop) (hT : ∀ k, T k → k < w.heap.size ∧ ¬ S k)
    (I : List α → World → Prop) (Ix : Code → List α → World → Prop) (hI : Stable w.heap.size I) (hIx : ∀ c, Stable w.heap.size (Ix c)) (h0 : I [] w)
    (box : Option (TypeId × (α → Array Value))) (fa : Nat → α → Act)
    (hassign : ∀ (l : Nat) (x : α) (W : World) (K : Act → World → Prop),
      (match box with | none => K (fa 0 x) W | some (t, cs) => K (fa W.heap.size x) (W.alloc (.cells (cs x) t))) →
      assign.wpIn (Fence.wide.inRound l) n P (Exit.then K (fun _ _ _ => False)) { tmps := (ps.zip #[enc x]).foldl (fun t (p, v) => t.setIfInBounds p v) a.tmps, defers := [] } W)
    (hbody : ∀ (l : Nat) (pre : List α) (x : α) (rest : List α) (a' : Act) (W : World), L = pre ++ x :: rest → w.heap.size ≤ l → (∃ r, W.heap[l]? = some (.loop r)) → w.heap.size ≤ W.heap.size → I pre W → Var w.heap.size box fa x a' W →
      body.wpIn (Fence.wide.inRound l) n P (Post T I Ix (pre ++ [x]) W) a' W)
    (hdone : ∀ (D : Nat) (W : World), w.heap.size ≤ D → w.heap.size ≤ W.heap.size → I L W → W.heap[D]? = some (.deferred (some [])) → Q .normal { a with defers := { target := .collected D, args := #[] } :: a.defers } W)
    (hstop : ∀ (D : Nat) (c : Code) (pre : List α) (W : World), w.heap.size ≤ D → w.heap.size ≤ W.heap.size → pre <+: L → Ix c pre W → W.heap[D]? = some (.deferred (some [])) → c.wpIn Fence.wide n P Q { a with defers := { target := .collected D, args := #[] } :: a.defers } W) :
    (Code.rangeFunc g ps assign body).wpIn Fence.wide n P Q a w := by
  refine wpIn_rangeFunc ?_
  intro fn hfn
  obtain ⟨W1, hW1⟩ : ∃ W1, (w.alloc (.deferred (some []))).alloc (.loop { state := .ready, pending := none, fn := fn, tmps := a.tmps, params := ps, assign := assign, body := body, defers := w.heap.size }) = W1 := ⟨_, rfl⟩
  have hs1 : W1.heap.size = w.heap.size + 2 := by rw [← hW1]; simp
  have hlW : W1.heap[w.heap.size + 1]? = some (.loop { state := .ready, pending := none, fn := fn, tmps := a.tmps, params := ps, assign := assign, body := body, defers := w.heap.size }) := by
    rw [← hW1]; have := World.alloc_heap_new (w.alloc (.deferred (some []))) (.loop { state := .ready, pending := none, fn := fn, tmps := a.tmps, params := ps, assign := assign, body := body, defers := w.heap.size }); simpa using this
  have hD1 : W1.heap[w.heap.size]? = some (.deferred (some [])) := by
    rw [← hW1]; rw [Below.heap_alloc _ _ _ (by simp)]; exact World.alloc_heap_new w _
  have hm1 : Mod noB w W1 := by rw [← hW1]; exact ((Mod.refl _ _).alloc _).alloc _
  refine ⟨w.heap.size + 1, _, _, { target := .fn (.func gf) lb, args := #[.func (.yield (w.heap.size + 1)) #[] #[]] }, W1, gf, #[.func (.yield (w.heap.size + 1)) #[] #[]] ++ lb, W1, run_enterLoop_outer fn a.tmps ps assign body, ?_, ?_, ?_, by simp [Fence.wide], ?_⟩
  · rw [hW1]
    simp only [resolve, hg]
    simp [go_sem]
  · intro f' _; trivial
  · simp [invoke, go_sem, eg]
  · refine (range_core (B := w.heap.size) hps hr (by omega) (by omega) fn w.heap.size hlW hS rfl hm1 T hT I Ix hI hIx h0 (fun W => W.heap[w.heap.size]? = some (.deferred (some [])))
      (fun W W' h hm => hm.at h (by rintro (e | ht | hle); · omega
                                    · have := (hT _ ht).1; omega
                                    · omega)) hD1 box fa hassign hbody _).mono ?_
    rintro e W2 ⟨⟨v, rfl⟩, jump, W4, he, hsz, hx, hj⟩
    refine ⟨jump, W4, he, ?_⟩
    cases jump with
    | none => exact hdone _ W4 (Nat.le_refl _) (by omega) hj hx
    | some c => obtain ⟨pre, hpre, hix⟩ := hj; exact hstop _ c pre W4 (Nat.le_refl _) (by omega) hpre hix hx

/-- The second law: a loop in the body of loop l₀. -/
theorem range_inner {l₀ : Nat} (hl₀ : ∃ r₀, w.heap[l₀]? = some (.loop r₀)) {gf : Nat} {lb : Array Value} {enc : α → Value} {S : Nat → Prop} {L : List α} (hps : ps.size = 1)
    (hg : a.eval g = .func (.func gf) #[] lb) (eg : ∀ args w, (callFunc gf args).run P w = .ok (.enter gf args) w)
    (hr : Runs P gf lb enc S L w) (hS : ∀ k, S k → k < w.heap.size) (T : Nat → Prop) (hT : ∀ k, T k → k < w.heap.size ∧ ¬ S k)
    (I : List α → World → Prop) (Ix : Code → List α → World → Prop) (hI : Stable w.heap.size I) (hIx : ∀ c, Stable w.heap.size (Ix c)) (h0 : I [] w)
    (box : Option (TypeId × (α → Array Value))) (fa : Nat → α → Act)
    (hassign : ∀ (l : Nat) (x : α) (W : World) (K : Act → World → Prop),
      (match box with | none => K (fa 0 x) W | some (t, cs) => K (fa W.heap.size x) (W.alloc (.cells (cs x) t))) →
      assign.wpIn (Fence.wide.inRound l) n P (Exit.then K (fun _ _ _ => False)) { tmps := (ps.zip #[enc x]).foldl (fun t (p, v) => t.setIfInBounds p v) a.tmps, defers := [] } W)
    (hbody : ∀ (l : Nat) (pre : List α) (x : α) (rest : List α) (a' : Act) (W : World), L = pre ++ x :: rest → w.heap.size ≤ l → (∃ r, W.heap[l]? = some (.loop r)) → w.heap.size ≤ W.heap.size → I pre W → Var w.heap.size box fa x a' W →
      body.wpIn (Fence.wide.inRound l) n P (Post T I Ix (pre ++ [x]) W) a' W)
    (hdone : ∀ (W : World), w.heap.size ≤ W.heap.size → I L W → Q .normal a W)
    (hstop : ∀ (c : Code) (pre : List α) (W : World), w.heap.size ≤ W.heap.size → pre <+: L → Ix c pre W → c.wpIn (Fence.wide.inRound l₀) n P Q a W) :
    (Code.rangeFunc g ps assign body).wpIn (Fence.wide.inRound l₀) n P Q a w := by
  obtain ⟨r₀, hl₀⟩ := hl₀
  refine wpIn_rangeFunc ?_
  intro fn hfn
  obtain ⟨W1, hW1⟩ : ∃ W1, w.alloc (.loop { state := .ready, pending := none, fn := fn, tmps := a.tmps, params := ps, assign := assign, body := body, defers := r₀.defers }) = W1 := ⟨_, rfl⟩
  have hs1 : W1.heap.size = w.heap.size + 1 := by rw [← hW1]; simp
  have hlW : W1.heap[w.heap.size]? = some (.loop { state := .ready, pending := none, fn := fn, tmps := a.tmps, params := ps, assign := assign, body := body, defers := r₀.defers }) := by
    rw [← hW1]; exact World.alloc_heap_new w _
  have hm1 : Mod noB w W1 := by rw [← hW1]; exact (Mod.refl _ _).alloc _
  refine ⟨w.heap.size, _, _, { target := .fn (.func gf) lb, args := #[.func (.yield w.heap.size) #[] #[]] }, W1, gf, #[.func (.yield w.heap.size) #[] #[]] ++ lb, W1, run_enterLoop_inner hl₀ fn a.tmps ps assign body, ?_, ?_, ?_, by simp [Fence.wide, Fence.inRound], ?_⟩
  · rw [hW1]
    simp only [resolve, hg]
    simp [go_sem]
  · intro f' _; trivial
  · simp [invoke, go_sem, eg]
  · refine CallsIn.inRound l₀ ((range_core (B := w.heap.size) hps hr (Nat.le_refl _) (by omega) fn r₀.defers hlW hS rfl hm1 T hT I Ix hI hIx h0 (fun _ => True)
      (fun W W' h hm => h) trivial box fa hassign hbody _).mono ?_)
    rintro e W2 ⟨⟨v, rfl⟩, jump, W4, he, hsz, hx, hj⟩
    refine ⟨jump, W4, he, ?_⟩
    cases jump with
    | none => exact hdone W4 (by omega) hj
    | some c => obtain ⟨pre, hpre, hix⟩ := hj; exact hstop c pre W4 (by omega) hpre hix
end

/-! ### A region that draws its order, whose operations read, and whose calls make new memory at most: one walk, over a class of worlds, in or out of a round. -/
section
variable {P : Program} {F : Fence} {n : Nat} {md : Region.Mode} {ops : Array Oper} {C : World → Prop}

theorem wpIn_of_quiet (hfn : ∀ f, F.fn f) (hd : F.depth = none) (hcall : ∀ f args W R, Calls P f args W R → CallsIn F (n - 1) P f args W R)
    {o : Oper} {a : Act} {K : Act → Prop} {K' : Act → World → Prop} {Q' : Exit → Act → World → Prop} {w : World} (hnd : ∀ c, o.op ≠ .defer c)
    (hw : C w) (h : ∀ a w', C w' → K a → K' a w') (hh : o.quiet P a C K) : o.wpIn F n P a w K' Q' := by
  obtain ⟨v, h1, h2⟩ := hh
  have h3 := h1 w hw
  unfold Oper.quietAt at h3
  unfold Oper.wpIn
  refine ⟨fun f _ => hfn f, ?_⟩
  rw [Oper.semAt_eq _ _ _ hnd]
  generalize (execOp a.eval o).run P w = r at *
  cases r with
  | ok n w' =>
    cases n <;> simp only [Oper.quietUpon] at h3 <;> simp only [Oper.uponIn]
    case value u =>
      obtain ⟨e1, e2⟩ := h3
      rw [e1, e2]
      exact h _ _ hw h2
    case skip =>
      obtain ⟨e1, e2⟩ := h3
      rw [e1, ← e2]
      exact h _ _ hw h2
    case enter f args =>
      obtain ⟨e1, hc⟩ := h3
      rw [e1]
      refine ⟨by simp [hd], hcall _ _ _ _ (hc.mono fun e w'' ⟨he, hw''⟩ => ?_)⟩
      subst he
      exact h _ _ hw'' h2
  | halt x w' => simp only [Oper.quietUpon] at h3

theorem wpOpIn_of_quiet (hfn : ∀ f, F.fn f) (hd : F.depth = none) (hcall : ∀ f args W R, Calls P f args W R → CallsIn F (n - 1) P f args W R) (hnd : ∀ o ∈ ops, ∀ c, o.op ≠ .defer c)
    {i : Nat} {a : Act} {K : Act → Prop} {K' : Act → World → Prop} {Q' : Exit → Act → World → Prop} {w : World} (hC : C w) (h : ∀ a w', C w' → K a → K' a w') (hh : qOp P ops C i K a) : wpOpIn F n P ops Q' i K' a w := by
  unfold qOp at hh
  unfold wpOpIn
  split
  · rename_i ho; simp only [ho] at hh; exact h _ _ hC hh
  · rename_i o ho
    simp only [ho] at hh
    split
    · rename_i hw; simp only [hw, if_true] at hh; exact wpIn_of_quiet hfn hd hcall (hnd o (Array.mem_of_getElem? ho)) hC h hh
    · rename_i hw; simp only [hw] at hh; exact ⟨fun f _ => hfn f, h _ _ hC hh⟩

theorem wpAnyIn_of_quietC (hfn : ∀ f, F.fn f) (hd : F.depth = none) (hcall : ∀ f args W R, Calls P f args W R → CallsIn F (n - 1) P f args W R) (hnd : ∀ o ∈ ops, ∀ c, o.op ≠ .defer c)
    {Q : Act → Prop} {Q' : Exit → Act → World → Prop} (hQ : ∀ a w, C w → Q a → Q' .normal a w) : ∀ (fuel : Nat) (listed : Array Bool) (a : Act) (w : World), C w →
    wpAnyQ P md ops C Q fuel listed a → wpAnyIn F n P md ops Q' fuel listed a w
  | 0, _, _, _, hw, h => ⟨h.1, hQ _ _ hw h.2⟩
  | fuel + 1, _, _, _, hw, h => ⟨fun h0 => hQ _ _ hw (h.1 h0), fun i hi => wpOpIn_of_quiet hfn hd hcall hnd hw (fun a' w' hw' => wpAnyIn_of_quietC hfn hd hcall hnd hQ fuel _ a' w' hw') (h.2 i hi)⟩

def Op.isDefer : Op → Bool
  | .defer _ => true
  | _ => false

theorem region_quietC (hfn : ∀ f, F.fn f) (hd : F.depth = none) (hcall : ∀ f args W R, Calls P f args W R → CallsIn F (n - 1) P f args W R)
    {id : Nat} {Q : Exit → Act → World → Prop} {a : Act} {w : World} {l : List Oper} (hm : P.follows .mixedOrders = true) (hB : Region.lexB .any l.toArray = true) (hnd : l.all (fun o => !Op.isDefer o.op) = true) (C : World → Prop) (hC : C w.drew)
    (h : wpQuiet P l.toArray C (fun a' => ∀ w', C w' → Q .normal a' w') l a) : (Code.region id l.toArray true).wpIn F n P Q a w := by
  simp only [Region.lexB, Bool.and_eq_true] at hB
  have hnd' : ∀ o ∈ l.toArray, ∀ c, o.op ≠ .defer c := by
    intro o ho c e
    have := List.all_eq_true.1 hnd o (by simpa using ho)
    rw [e] at this
    simp [Op.isDefer] at this
  refine wpIn_region_any hm (wpAnyIn_of_quietC (C := C) (Q := fun a' => ∀ w', C w' → Q .normal a' w') hfn hd hcall hnd' (fun _ w' hw' h => h w' hw') _ _ _ _ hC ?_)
  have := wpAnyQ_lex (C := C) (md := .any) hB.1 l 0 (Array.replicate l.toArray.size false) a (by simp) (by simpa using hB.2) h
  simpa using this
end

theorem mixed : Try.prog.follows .mixedOrders = true := by kernel_rfl
theorem wide_fn : ∀ f, Fence.wide.fn f := fun _ => trivial
theorem wide_call {P : Program} {n : Nat} : ∀ f args W R, Calls P f args W R → CallsIn Fence.wide (n - 1) P f args W R := fun _ _ _ _ h => callsIn_wide.2 h
theorem round_call {P : Program} {n l : Nat} : ∀ f args W R, Calls P f args W R → CallsIn (Fence.wide.inRound l) (n - 1) P f args W R := fun _ _ _ _ h => (callsIn_wide.2 h).inRound l
theorem round2_call {P : Program} {n l l' : Nat} : ∀ f args W R, Calls P f args W R → CallsIn ((Fence.wide.inRound l).inRound l') (n - 1) P f args W R := fun _ _ _ _ h => ((callsIn_wide.2 h).inRound l).inRound l'
end Go.Proofs.Ytogalmkeipigeaa

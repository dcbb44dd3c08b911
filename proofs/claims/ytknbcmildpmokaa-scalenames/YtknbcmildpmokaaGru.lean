/- What speaks of no seat: ranges over iterators that make just so many blocks, when they begin, and turn these alone: the rounds may keep memory of their own. -/
import Derived.Test.YtknbcmildpmokaaGen
set_option linter.unusedSimpArgs false
set_option linter.unusedVariables false
namespace Go.Proofs.Ytknbcmildpmokaa
open Go.RowKit Go.Shelf

/-- What does not hang on the blocks from B to before C. -/
def StableB {β : Type} (B C : Nat) (I : β → World → Prop) : Prop := ∀ s W W', I s W → Mod (fun k => B ≤ k ∧ k < C) W W' → I s W'
/-- An iterator's value: called with whatever loop body that keeps the blocks of S, and the c blocks that it makes when it begins, it hands over the elements of L, in their order; of its own it turns these c blocks alone. -/
def RunsB {α : Type} (P : Program) (gf : Nat) (lb : Array Value) (enc : α → Value) (S : Nat → Prop) (c : Nat) (L : List α) (w : World) : Prop :=
  ∀ (n l : Nat) (J Jx : List α → World → Prop) (W : World), w.heap.size ≤ W.heap.size → KeepB S w W → StableB W.heap.size (W.heap.size + c) J → StableB W.heap.size (W.heap.size + c) Jx →
    (∀ pre x rest W1, L = pre ++ x :: rest → J pre W1 → W.heap.size + c ≤ W1.heap.size → YieldAt Fence.wide n P l #[enc x] W1 fun e W' =>
      (e = .returned (.bool true) ∧ J (pre ++ [x]) W' ∧ Mod (fun k => ¬ S k ∧ ¬ (W.heap.size ≤ k ∧ k < W.heap.size + c)) W1 W') ∨ (e = .returned (.bool false) ∧ Jx (pre ++ [x]) W' ∧ Mod (fun k => ¬ S k ∧ ¬ (W.heap.size ≤ k ∧ k < W.heap.size + c)) W1 W')) →
    J [] W →
    CallsIn Fence.wide (n + 1) P gf (#[.func (.yield l) #[] #[]] ++ lb) W fun e W' => (∃ v, e = .returned v) ∧ W.heap.size ≤ W'.heap.size ∧ (J L W' ∨ ∃ pre, pre <+: L ∧ Jx pre W')

section
variable {α : Type} {P : Program} {n : Nat} {g : Operand} {ps : Array Tmp} {assign body : Code} {Q : Exit → Act → World → Prop} {a : Act} {w : World}
/-- The heart of both laws: the record lies at l in W1. -/
theorem range_coreB {gf : Nat} {lb : Array Value} {enc : α → Value} {S : Nat → Prop} {L : List α} (hps : ps.size = 1) {c C : Nat} (hr : RunsB P gf lb enc S c L w)
    {l B : Nat} {W1 : World} (hB : B ≤ l) (hl1 : l < W1.heap.size) (hC : W1.heap.size + c = C) (fn : FuncId) (dfr : Nat) (hlW : W1.heap[l]? = some (.loop { state := .ready, pending := none, fn := fn, tmps := a.tmps, params := ps, assign := assign, body := body, defers := dfr }))
    (hS : ∀ k, S k → k < B) (hwB : w.heap.size = B) (hw1 : Mod noB w W1) (T : Nat → Prop) (hT : ∀ k, T k → (k < B ∨ C ≤ k) ∧ ¬ S k)
    (I : List α → World → Prop) (Ix : Code → List α → World → Prop) (hI : StableB B C I) (hIx : ∀ d, StableB B C (Ix d)) (h0 : I [] w)
    (X : World → Prop) (hX : ∀ W W', X W → Mod (fun k => k = l ∨ T k ∨ W1.heap.size ≤ k) W W' → X W') (hX1 : X W1)
    (box : Option (TypeId × (α → Array Value))) (fa : Nat → α → Act)
    (hassign : ∀ (l : Nat) (x : α) (W : World) (K : Act → World → Prop),
      (match box with | none => K (fa 0 x) W | some (t, cs) => K (fa W.heap.size x) (W.alloc (.cells (cs x) t))) →
      assign.wpIn (Fence.wide.inRound l) n P (Exit.then K (fun _ _ _ => False)) { tmps := (ps.zip #[enc x]).foldl (fun t (p, v) => t.setIfInBounds p v) a.tmps, defers := [] } W)
    (hbody : ∀ (l : Nat) (pre : List α) (x : α) (rest : List α) (a' : Act) (W : World), L = pre ++ x :: rest → B ≤ l → (∃ r, W.heap[l]? = some (.loop r)) → C ≤ W.heap.size → I pre W → Var C box fa x a' W →
      body.wpIn (Fence.wide.inRound l) n P (Post T I Ix (pre ++ [x]) W) a' W) (m : Nat) :
    CallsIn Fence.wide m P gf (#[.func (.yield l) #[] #[]] ++ lb) W1 fun e W' => (∃ v, e = .returned v) ∧ ∃ jump W4, (Instr.endLoop l).run P W' = .ok jump W4 ∧ W1.heap.size ≤ W4.heap.size ∧ X W4 ∧
      (match jump with | none => I L W4 | some c => ∃ pre, pre <+: L ∧ Ix c pre W4) := by
  obtain ⟨rec, hrec⟩ : ∃ rec : LoopState → Option Code → Loop, rec = fun st pe => { state := st, pending := pe, fn := fn, tmps := a.tmps, params := ps, assign := assign, body := body, defers := dfr } := ⟨_, rfl⟩
  have hl0 : W1.heap[l]? = some (.loop (rec .ready none)) := by rw [hrec]; exact hlW
  have hBl : B ≤ l := hB
  have hBC : B ≤ l ∧ l < C := ⟨hB, by omega⟩
  -- what a write to the record leaves
  have put_l : ∀ (W : World) (o : Obj), Mod (fun k => k = l) W (W.putObj l o) := fun W o => (Mod.refl (fun k => k = l) W).putObj (b := l) (fun _ => rfl) o
  have hIput : ∀ pre W o, I pre W → I pre (W.putObj l o) := fun pre W o h => hI _ _ _ h ((put_l W o).wider (fun i _ e => e ▸ hBC))
  have hIxput : ∀ c pre W o, Ix c pre W → Ix c pre (W.putObj l o) := fun c pre W o h => hIx c _ _ _ h ((put_l W o).wider (fun i _ e => e ▸ hBC))
  have hXput : ∀ W o, X W → X (W.putObj l o) := fun W o h => hX _ _ h ((put_l W o).wider (fun i _ e => .inl e))
  have hcall := hr n l (fun pre W => I pre W ∧ W.heap[l]? = some (.loop (rec .ready none)) ∧ X W) (fun pre W => ∃ c, Ix c pre W ∧ W.heap[l]? = some (.loop (rec .done (some c))) ∧ X W) W1 hw1.size
    (hw1.keepB (fun k hk => ⟨hwB ▸ hS k hk, id⟩))
    (fun s W W' h hm => ⟨hI _ _ _ h.1 (hm.wider (fun i _ hi => by omega)), hm.at h.2.1 (by omega), hX _ _ h.2.2 (hm.wider (fun i _ hi => .inr (.inr hi.1)))⟩)
    (fun s W W' h hm => by
      obtain ⟨d, h1, h2, h3⟩ := h
      exact ⟨d, hIx d _ _ _ h1 (hm.wider (fun i _ hi => by omega)), hm.at h2 (by omega), hX _ _ h3 (hm.wider (fun i _ hi => .inr (.inr hi.1)))⟩)
    ?_ ⟨hI _ _ _ h0 (hw1.wider (fun i _ h => h.elim)), hl0, hX1⟩
  · refine callsIn_wide.2 (callsIn_wide.1 (hcall.mono ?_))
    rintro e W2 ⟨hv, hsz2, ⟨hi, hl, hx⟩ | ⟨pre, hpre, c, hi, hl, hx⟩⟩
    · exact ⟨hv, none, _, by have := run_endLoop (P := P) hl (by rw [hrec]; simp); rw [hrec] at this; exact this, by simpa using hsz2, hXput _ _ hx, hIput _ _ _ hi⟩
    · exact ⟨hv, some c, _, by have := run_endLoop (P := P) hl (by rw [hrec]; simp); rw [hrec] at this; exact this, by simpa using hsz2, hXput _ _ hx, pre, hpre, hIxput _ _ _ _ hi⟩
  · -- one round
    rintro pre x rest W hL ⟨hi, hl, hx⟩ hszW
    have hlt : l < W.heap.size := (Array.getElem?_eq_some_iff.1 hl).1
    have hy := run_yield (P := P) (args := #[enc x]) hl (by rw [hrec]; exact hps.symm)
    rw [hrec] at hy
    refine ⟨fn, _, assign, body, hy, roundIn_any rfl (roundIn_of_wpIn trivial (hassign l x W _ ?_))⟩
    -- the world that the assign code leaves
    have hgo : ∀ (a' : Act) (Wa : World), Mod noB W Wa → Var C box fa x a' Wa → ∃ w₂, (Instr.beginRound l).run P Wa = .ok () w₂ ∧ body.wpIn (Fence.wide.inRound l) n P (roundPost P l (fun e W' =>
        (e = .returned (.bool true) ∧ (I (pre ++ [x]) W' ∧ W'.heap[l]? = some (.loop (rec .ready none)) ∧ X W') ∧ Mod (fun k => ¬ S k ∧ ¬ (W1.heap.size ≤ k ∧ k < W1.heap.size + c)) W W') ∨
        (e = .returned (.bool false) ∧ (∃ c, Ix c (pre ++ [x]) W' ∧ W'.heap[l]? = some (.loop (rec .done (some c))) ∧ X W') ∧ Mod (fun k => ¬ S k ∧ ¬ (W1.heap.size ≤ k ∧ k < W1.heap.size + c)) W W'))) a' w₂ := by
      intro a' Wa hma hvar
      have hla := hma.at hl id
      have hlta : l < Wa.heap.size := (Array.getElem?_eq_some_iff.1 hla).1
      refine ⟨_, run_beginRound hla (by rw [hrec]), ?_⟩
      obtain ⟨Wb, hWb⟩ : ∃ Wb, Wa.putObj l (.loop { rec .ready none with state := .busy }) = Wb := ⟨_, rfl⟩
      have hlb : Wb.heap[l]? = some (.loop { rec .ready none with state := .busy }) := by rw [← hWb]; exact World.putObj_heap_same hlta
      have hmb : Mod (fun k => k = l) Wa Wb := by rw [← hWb]; exact put_l _ _
      have hwb : Mod (fun k => k = l) W Wb := hma.wider (fun _ _ h => h.elim) |>.trans hmb
      have hib : I pre Wb := hI _ _ _ hi (hwb.wider (fun i _ e => e ▸ hBC))
      have hxb : X Wb := hX _ _ hx (hwb.wider (fun i _ e => .inl e))
      have hvb : Var C box fa x a' Wb := by
        unfold Var at hvar ⊢
        split at hvar
        · exact hvar
        · obtain ⟨b, h1, h2, h3⟩ := hvar
          refine ⟨b, h1, hmb.at h2 (fun e => ?_), h3⟩
          rw [e, hla] at h2
          cases h2
      rw [hWb]
      refine wpIn_mono (hbody l pre x rest a' Wb hL hBl ⟨_, hlb⟩ (by have := hwb.size; omega) hib hvb) ?_
      have fin : ∀ (jump : Option Code) (W3 : World), Mod T Wb W3 → (Instr.endRound l jump).run P W3 = .ok (.bool jump.isNone) (W3.putObj l (.loop (rec (if jump.isNone then .ready else .done) jump))) ∧
          (W3.putObj l (.loop (rec (if jump.isNone then .ready else .done) jump))).heap[l]? = some (.loop (rec (if jump.isNone then .ready else .done) jump)) ∧ X (W3.putObj l (.loop (rec (if jump.isNone then .ready else .done) jump))) ∧
          Mod (fun k => ¬ S k ∧ ¬ (W1.heap.size ≤ k ∧ k < W1.heap.size + c)) W (W3.putObj l (.loop (rec (if jump.isNone then .ready else .done) jump))) := by
        intro jump W3 hm3
        have hl3 : W3.heap[l]? = some (.loop { rec .ready none with state := .busy }) := hm3.at hlb (fun ht => by have := (hT l ht).1; omega)
        have := run_endRound (P := P) jump hl3
        rw [hrec] at this ⊢
        have hlS : ¬ S l ∧ ¬ (W1.heap.size ≤ l ∧ l < W1.heap.size + c) := ⟨(fun h => by have := hS l h; omega), by omega⟩
        refine ⟨this, World.putObj_heap_same (Array.getElem?_eq_some_iff.1 hl3).1, hXput _ _ (hX _ _ hxb (hm3.wider (fun i _ ht => .inr (.inl ht)))), ?_⟩
        exact ((hwb.wider (fun i _ e => e ▸ hlS)).trans (hm3.wider (fun i _ ht => ⟨(hT i ht).2, by have := (hT i ht).1; omega⟩))).trans ((put_l _ _).wider (fun i _ e => e ▸ hlS))
      rintro e a3 W3 hp
      cases e with
      | normal =>
        obtain ⟨f1, f2, f3, f4⟩ := fin none W3 hp.1
        exact ⟨_, _, f1, .inl ⟨rfl, ⟨hIput _ _ _ hp.2, f2, f3⟩, f4⟩⟩
      | ret =>
        obtain ⟨f1, f2, f3, f4⟩ := fin (some .ret) W3 hp.1
        exact ⟨_, _, f1, .inr ⟨rfl, ⟨_, hIxput _ _ _ _ hp.2, f2, f3⟩, f4⟩⟩
      | exit id =>
        obtain ⟨f1, f2, f3, f4⟩ := fin (some (.exit id)) W3 hp.1
        exact ⟨_, _, f1, .inr ⟨rfl, ⟨_, hIxput _ _ _ _ hp.2, f2, f3⟩, f4⟩⟩
      | goto t =>
        obtain ⟨f1, f2, f3, f4⟩ := fin (some (.goto t)) W3 hp.1
        exact ⟨_, _, f1, .inr ⟨rfl, ⟨_, hIxput _ _ _ _ hp.2, f2, f3⟩, f4⟩⟩
      | panic ch => exact hp.elim
      | outgrown => exact hp.elim
    cases box with
    | none => exact hgo _ _ (Mod.refl _ _) rfl
    | some tc =>
      obtain ⟨t, cs⟩ := tc
      exact hgo _ _ ((Mod.refl _ _).alloc _) ⟨W.heap.size, by omega, World.alloc_heap_new W _, rfl⟩
/-- The first law: a loop that stands in no other loop's round. -/
theorem range_plainB {gf : Nat} {lb : Array Value} {enc : α → Value} {S : Nat → Prop} {L : List α} (hps : ps.size = 1)
    (hg : a.eval g = .func (.func gf) #[] lb) (eg : ∀ args w, (callFunc gf args).run P w = .ok (.enter gf args) w)
    {c : Nat} (hr : RunsB P gf lb enc S c L w) (hS : ∀ k, S k → k < w.heap.size) (T : Nat → Prop) (hT : ∀ k, T k → (k < w.heap.size ∨ w.heap.size + 2 + c ≤ k) ∧ ¬ S k)
    (I : List α → World → Prop) (Ix : Code → List α → World → Prop) (hI : StableB w.heap.size (w.heap.size + 2 + c) I) (hIx : ∀ d, StableB w.heap.size (w.heap.size + 2 + c) (Ix d)) (h0 : I [] w)
    (box : Option (TypeId × (α → Array Value))) (fa : Nat → α → Act)
    (hassign : ∀ (l : Nat) (x : α) (W : World) (K : Act → World → Prop),
      (match box with | none => K (fa 0 x) W | some (t, cs) => K (fa W.heap.size x) (W.alloc (.cells (cs x) t))) →
      assign.wpIn (Fence.wide.inRound l) n P (Exit.then K (fun _ _ _ => False)) { tmps := (ps.zip #[enc x]).foldl (fun t (p, v) => t.setIfInBounds p v) a.tmps, defers := [] } W)
    (hbody : ∀ (l : Nat) (pre : List α) (x : α) (rest : List α) (a' : Act) (W : World), L = pre ++ x :: rest → w.heap.size ≤ l → (∃ r, W.heap[l]? = some (.loop r)) → w.heap.size + 2 + c ≤ W.heap.size → I pre W → Var (w.heap.size + 2 + c) box fa x a' W →
      body.wpIn (Fence.wide.inRound l) n P (Post T I Ix (pre ++ [x]) W) a' W)
    (hdone : ∀ (D : Nat) (W : World), w.heap.size ≤ D → w.heap.size ≤ W.heap.size → I L W → W.heap[D]? = some (.deferred (some [])) → Q .normal { a with defers := { target := .collected D, args := #[] } :: a.defers } W)
    (hstop : ∀ (D : Nat) (c : Code) (pre : List α) (W : World), w.heap.size ≤ D → w.heap.size ≤ W.heap.size → pre <+: L → Ix c pre W → W.heap[D]? = some (.deferred (some [])) → c.wpIn Fence.wide n P Q { a with defers := { target := .collected D, args := #[] } :: a.defers } W) :
    (Code.rangeFunc g ps assign body).wpIn Fence.wide n P Q a w := by
  refine wpIn_rangeFunc ?_
  intro fn hfn
  obtain ⟨W1, hW1⟩ : ∃ W1, (w.alloc (.deferred (some []))).alloc (.loop { state := .ready, pending := none, fn := fn, tmps := a.tmps, params := ps, assign := assign, body := body, defers := w.heap.size }) = W1 := ⟨_, rfl⟩
  have hs1 : W1.heap.size = w.heap.size + 2 := by rw [← hW1]; simp
  have hlW : W1.heap[w.heap.size + 1]? = some (.loop { state := .ready, pending := none, fn := fn, tmps := a.tmps, params := ps, assign := assign, body := body, defers := w.heap.size }) := by
    rw [← hW1]; have := World.alloc_heap_new (w.alloc (.deferred (some []))) (.loop { state := .ready, pending := none, fn := fn, tmps := a.tmps, params := ps, assign := assign, body := body, defers := w.heap.size }); simpa using this
  have hD1 : W1.heap[w.heap.size]? = some (.deferred (some [])) := by
    rw [← hW1]; rw [Below.heap_alloc _ _ _ (by simp)]; exact World.alloc_heap_new w _
  have hm1 : Mod noB w W1 := by rw [← hW1]; exact ((Mod.refl _ _).alloc _).alloc _
  refine ⟨w.heap.size + 1, _, _, { target := .fn (.func gf) lb, args := #[.func (.yield (w.heap.size + 1)) #[] #[]] }, W1, gf, #[.func (.yield (w.heap.size + 1)) #[] #[]] ++ lb, W1, run_enterLoop_outer fn a.tmps ps assign body, ?_, ?_, ?_, by simp [Fence.wide], ?_⟩
  · rw [hW1]
    simp only [resolve, hg]
    simp [go_sem]
  · intro f' _; trivial
  · simp [invoke, go_sem, eg]
  · refine (range_coreB (B := w.heap.size) (C := w.heap.size + 2 + c) hps hr (by omega) (by omega) (by omega) fn w.heap.size hlW hS rfl hm1 T hT I Ix hI hIx h0 (fun W => W.heap[w.heap.size]? = some (.deferred (some [])))
      (fun W W' h hm => hm.at h (by rintro (e | ht | hle); · omega
                                    · have := (hT _ ht).1; omega
                                    · omega)) hD1 box fa hassign hbody _).mono ?_
    rintro e W2 ⟨⟨v, rfl⟩, jump, W4, he, hsz, hx, hj⟩
    refine ⟨jump, W4, he, ?_⟩
    cases jump with
    | none => exact hdone _ W4 (Nat.le_refl _) (by omega) hj hx
    | some c => obtain ⟨pre, hpre, hix⟩ := hj; exact hstop _ c pre W4 (Nat.le_refl _) (by omega) hpre hix hx

end
end Go.Proofs.Ytknbcmildpmokaa

/- A range over an iterator that hands over lists of integers that lie in memory: what it has handed over stays the loop's. -/
import Derived.Test.YtnjbamikfjdofaaKept
set_option linter.unusedSimpArgs false
set_option linter.unusedVariables false
namespace Go.Proofs.Ytnjbamikfjdofaa
open Go.RowKit Go.Shelf

/-- A list, and the slice that holds it. -/
abbrev Held := List Int × Value
/-- A slice's value holds these integers, in a row of its own from block B on. -/
def OwnV (B : Nat) (W : World) (x : Held) : Prop := W.ownsRow B 3 1 x.2 x.1.length (x.1.map (Value.int .i64))
theorem OwnV.same {B : Nat} {W W' : World} {x : Held} (h : OwnV B W x) (he : ∀ r, x.2.ownBlock = some r → W'.heap[r]? = W.heap[r]?) : OwnV B W' x := by
  obtain ⟨x, v⟩ := x
  obtain ⟨h1, h2 | ⟨g, cap, cur, hv, hb, hh, hr⟩⟩ := h
  · exact ⟨h1, .inl h2⟩
  · refine ⟨h1, .inr ⟨g, cap, cur, hv, hb, ?_, hr⟩⟩
    rw [he g (by simp only at hv ⊢; rw [hv]; rfl)]
    exact hh
theorem OwnV.cells {B : Nat} {W : World} {x : Held} (h : OwnV B W x) {r : Nat} (hr : x.2.ownBlock = some r) : B ≤ r ∧ r < W.heap.size ∧ ∃ cs, W.heap[r]? = some (.cells cs 3) := by
  obtain ⟨x, v⟩ := x
  obtain ⟨h1, ⟨hv, _⟩ | ⟨g, cap, cur, hv, hb, hh, _⟩⟩ := h
  · simp only at hv hr; rw [hv] at hr; cases hr
  · simp only at hv hr
    rw [hv] at hr
    have : some g = some r := hr
    cases this
    exact ⟨hb, (Array.getElem?_eq_some_iff.1 hh).1, _, hh⟩
theorem OwnV.mono {B B' : Nat} {W : World} {x : Held} (h : OwnV B W x) (hb : B' ≤ B) : OwnV B' W x := own_mono h hb

/-- Blocks that an iterator may turn: those that came since the call, but for those that it has handed over. -/
def FreeOf (B : Nat) (pre : List Held) (k : Nat) : Prop := B ≤ k ∧ ∀ p ∈ pre, p.2.ownBlock ≠ some k
def StableV (B : Nat) (I : List Held → World → Prop) : Prop := ∀ s W W', I s W → Mod (FreeOf B s) W W' → I s W'

/-- As Runs, of an iterator whose elements lie in memory. -/
def RunsV (P : Program) (gf : Nat) (lb : Array Value) (S : Nat → Prop) (L : List (List Int)) (w : World) : Prop :=
  ∀ (n l : Nat) (J Jx : List Held → World → Prop) (W : World), w.heap.size ≤ W.heap.size → KeepB S w W → StableV W.heap.size J → StableV W.heap.size Jx →
    (∀ pre x rest W1, L = pre.map Prod.fst ++ x.1 :: rest → J pre W1 → W.heap.size ≤ W1.heap.size → OwnV W.heap.size W1 x → (∀ p ∈ pre, ∀ r, p.2.ownBlock = some r → x.2.ownBlock ≠ some r) → YieldAt Fence.wide n P l #[x.2] W1 fun e W' =>
      (e = .returned (.bool true) ∧ J (pre ++ [x]) W' ∧ Mod (fun k => k < W.heap.size ∧ ¬ S k) W1 W') ∨ (e = .returned (.bool false) ∧ Jx (pre ++ [x]) W' ∧ Mod (fun k => k < W.heap.size ∧ ¬ S k) W1 W')) →
    J [] W →
    CallsIn Fence.wide (n + 1) P gf (#[.func (.yield l) #[] #[]] ++ lb) W fun e W' => (∃ v, e = .returned v) ∧ W.heap.size ≤ W'.heap.size ∧ ((∃ pre, pre.map Prod.fst = L ∧ J pre W') ∨ ∃ pre, pre.map Prod.fst <+: L ∧ Jx pre W')

theorem RunsV.later {P : Program} {gf : Nat} {lb : Array Value} {S : Nat → Prop} {L : List (List Int)} {w w' : World} (h : RunsV P gf lb S L w) (hb : w.heap.size ≤ w'.heap.size) (hk : KeepB S w w') : RunsV P gf lb S L w' :=
  fun n l J Jx W hs hW => h n l J Jx W (Nat.le_trans hb hs) (hk.trans hW)

section
variable {P : Program} {n : Nat} {g : Operand} {ps : Array Tmp} {assign body : Code} {Q : Exit → Act → World → Prop} {a : Act} {w : World}

/-- A loop that stands in no other loop's round. -/
theorem range_plainV {gf : Nat} {lb : Array Value} {S : Nat → Prop} {L : List (List Int)} (hps : ps.size = 1)
    (hg : a.eval g = .func (.func gf) #[] lb) (eg : ∀ args w, (callFunc gf args).run P w = .ok (.enter gf args) w)
    (hr : RunsV P gf lb S L w) (hS : ∀ k, S k → k < w.heap.size) (T : Nat → Prop) (hT : ∀ k, T k → k < w.heap.size ∧ ¬ S k)
    (I : List Held → World → Prop) (Ix : Code → List Held → World → Prop) (hI : StableV w.heap.size I) (hIx : ∀ c, StableV w.heap.size (Ix c)) (h0 : I [] w)
    (box : Option (TypeId × (Held → Array Value))) (fa : Nat → Held → Act)
    (hassign : ∀ (l : Nat) (x : Held) (W : World) (K : Act → World → Prop),
      (match box with | none => K (fa 0 x) W | some (t, cs) => K (fa W.heap.size x) (W.alloc (.cells (cs x) t))) →
      assign.wpIn (Fence.wide.inRound l) n P (Exit.then K (fun _ _ _ => False)) { tmps := (ps.zip #[x.2]).foldl (fun t (p, v) => t.setIfInBounds p v) a.tmps, defers := [] } W)
    (hbody : ∀ (l : Nat) (pre : List Held) (x : Held) (rest : List (List Int)) (a' : Act) (W : World), L = pre.map Prod.fst ++ x.1 :: rest → w.heap.size ≤ l → (∃ r, W.heap[l]? = some (.loop r)) → w.heap.size ≤ W.heap.size → I pre W → OwnV w.heap.size W x → (∀ p ∈ pre, ∀ r, p.2.ownBlock = some r → x.2.ownBlock ≠ some r) → Var w.heap.size box fa x a' W →
      body.wpIn (Fence.wide.inRound l) n P (Post T I Ix (pre ++ [x]) W) a' W)
    (hdone : ∀ (D : Nat) (pre : List Held) (W : World), w.heap.size ≤ D → w.heap.size ≤ W.heap.size → pre.map Prod.fst = L → I pre W → W.heap[D]? = some (.deferred (some [])) → Q .normal { a with defers := { target := .collected D, args := #[] } :: a.defers } W)
    (hstop : ∀ (D : Nat) (c : Code) (pre : List Held) (W : World), w.heap.size ≤ D → w.heap.size ≤ W.heap.size → pre.map Prod.fst <+: L → Ix c pre W → W.heap[D]? = some (.deferred (some [])) → c.wpIn Fence.wide n P Q { a with defers := { target := .collected D, args := #[] } :: a.defers } W) :
    (Code.rangeFunc g ps assign body).wpIn Fence.wide n P Q a w := by
  refine wpIn_rangeFunc ?_
  intro fn hfn
  obtain ⟨W1, hW1⟩ : ∃ W1, (w.alloc (.deferred (some []))).alloc (.loop { state := .ready, pending := none, fn := fn, tmps := a.tmps, params := ps, assign := assign, body := body, defers := w.heap.size }) = W1 := ⟨_, rfl⟩
  have hs1 : W1.heap.size = w.heap.size + 2 := by rw [← hW1]; simp
  obtain ⟨rec, hrec⟩ : ∃ rec : LoopState → Option Code → Loop, rec = fun st pe => { state := st, pending := pe, fn := fn, tmps := a.tmps, params := ps, assign := assign, body := body, defers := w.heap.size } := ⟨_, rfl⟩
  obtain ⟨l, hl⟩ : ∃ l, l = w.heap.size + 1 := ⟨_, rfl⟩
  have hl0 : W1.heap[l]? = some (.loop (rec .ready none)) := by
    rw [hrec, hl, ← hW1]; have := World.alloc_heap_new (w.alloc (.deferred (some []))) (.loop { state := .ready, pending := none, fn := fn, tmps := a.tmps, params := ps, assign := assign, body := body, defers := w.heap.size }); simpa using this
  have hD1 : W1.heap[w.heap.size]? = some (.deferred (some [])) := by
    rw [← hW1]; rw [Below.heap_alloc _ _ _ (by simp)]; exact World.alloc_heap_new w _
  have hm1 : Mod noB w W1 := by rw [← hW1]; exact ((Mod.refl _ _).alloc _).alloc _
  have hBl : w.heap.size ≤ l := by omega
  have hl1 : l < W1.heap.size := by omega
  refine ⟨w.heap.size + 1, _, _, { target := .fn (.func gf) lb, args := #[.func (.yield (w.heap.size + 1)) #[] #[]] }, W1, gf, #[.func (.yield (w.heap.size + 1)) #[] #[]] ++ lb, W1, run_enterLoop_outer fn a.tmps ps assign body, ?_, ?_, ?_, by simp [Fence.wide], ?_⟩
  · rw [hW1]
    simp only [resolve, hg]
    simp [go_sem]
  · intro f' _; trivial
  · simp [invoke, go_sem, eg]
  · rw [← hl]
    -- what a write to the record leaves
    have put_l : ∀ (W : World) (o : Obj), Mod (fun k => k = l) W (W.putObj l o) := fun W o => (Mod.refl (fun k => k = l) W).putObj (b := l) (fun _ => rfl) o
    have hIput : ∀ pre W o, (∀ p ∈ pre, p.2.ownBlock ≠ some l) → I pre W → I pre (W.putObj l o) := fun pre W o hn h => hI _ _ _ h ((put_l W o).wider (fun i _ e => e ▸ ⟨hBl, hn⟩))
    have hIxput : ∀ c pre W o, (∀ p ∈ pre, p.2.ownBlock ≠ some l) → Ix c pre W → Ix c pre (W.putObj l o) := fun c pre W o hn h => hIx c _ _ _ h ((put_l W o).wider (fun i _ e => e ▸ ⟨hBl, hn⟩))
    have hXput : ∀ (W : World) o, W.heap[w.heap.size]? = some (.deferred (some [])) → (W.putObj l o).heap[w.heap.size]? = some (.deferred (some [])) := fun W o h => (put_l W o).at h (by omega)
    have hcall := hr n l (fun pre W => I pre W ∧ W.heap[l]? = some (.loop (rec .ready none)) ∧ W.heap[w.heap.size]? = some (.deferred (some [])) ∧ ∀ p ∈ pre, p.2.ownBlock ≠ some l)
      (fun pre W => ∃ c, Ix c pre W ∧ W.heap[l]? = some (.loop (rec .done (some c))) ∧ W.heap[w.heap.size]? = some (.deferred (some [])) ∧ ∀ p ∈ pre, p.2.ownBlock ≠ some l) W1 hm1.size
      (hm1.keepB (fun k hk => ⟨hS k hk, id⟩))
      (fun s W W' h hm => ⟨hI _ _ _ h.1 (hm.wider (fun i _ hi => ⟨by have := hi.1; omega, hi.2⟩)), hm.at h.2.1 (fun hi => by have := hi.1; omega), hm.at h.2.2.1 (fun hi => by have := hi.1; omega), h.2.2.2⟩)
      (fun s W W' h hm => by
        obtain ⟨c, h1, h2, h3, h4⟩ := h
        exact ⟨c, hIx c _ _ _ h1 (hm.wider (fun i _ hi => ⟨by have := hi.1; omega, hi.2⟩)), hm.at h2 (fun hi => by have := hi.1; omega), hm.at h3 (fun hi => by have := hi.1; omega), h4⟩)
      ?_ ⟨hI _ _ _ h0 (hm1.wider (fun i _ h => h.elim)), hl0, hD1, by simp⟩
    · refine callsIn_wide.2 (callsIn_wide.1 (hcall.mono ?_))
      rintro e W2 ⟨⟨v, rfl⟩, hsz2, ⟨pre, hpre, hi, hll, hx, hn⟩ | ⟨pre, hpre, c, hi, hll, hx, hn⟩⟩
      · refine ⟨none, _, by have := run_endLoop (P := P) hll (by rw [hrec]; simp); rw [hrec] at this; exact this, ?_⟩
        exact hdone w.heap.size pre _ (Nat.le_refl _) (by simp; omega) hpre (hIput _ _ _ hn hi) (hXput _ _ hx)
      · refine ⟨some c, _, by have := run_endLoop (P := P) hll (by rw [hrec]; simp); rw [hrec] at this; exact this, ?_⟩
        exact hstop w.heap.size c pre _ (Nat.le_refl _) (by simp; omega) hpre (hIxput _ _ _ _ hn hi) (hXput _ _ hx)
    · -- one round
      rintro pre x rest W hL ⟨hi, hll, hx, hn⟩ hszW hown hap
      have hlt : l < W.heap.size := (Array.getElem?_eq_some_iff.1 hll).1
      have hxl : x.2.ownBlock ≠ some l := fun he => by
        obtain ⟨_, _, cs, hc⟩ := hown.cells he
        rw [hll] at hc
        cases hc
      have hn' : ∀ p ∈ pre ++ [x], p.2.ownBlock ≠ some l := fun p hp => by
        rcases List.mem_append.1 hp with hp | hp
        · exact hn p hp
        · obtain rfl : p = x := by simpa using hp
          exact hxl
      have hy := run_yield (P := P) (args := #[x.2]) hll (by rw [hrec]; exact hps.symm)
      rw [hrec] at hy
      refine ⟨fn, _, assign, body, hy, roundIn_any rfl (roundIn_of_wpIn trivial (hassign l x W _ ?_))⟩
      -- the world that the assign code leaves
      have hgo : ∀ (a' : Act) (Wa : World), Mod noB W Wa → Var w.heap.size box fa x a' Wa → ∃ w₂, (Instr.beginRound l).run P Wa = .ok () w₂ ∧ body.wpIn (Fence.wide.inRound l) n P (roundPost P l (fun e W' =>
          (e = .returned (.bool true) ∧ (I (pre ++ [x]) W' ∧ W'.heap[l]? = some (.loop (rec .ready none)) ∧ W'.heap[w.heap.size]? = some (.deferred (some [])) ∧ ∀ p ∈ pre ++ [x], p.2.ownBlock ≠ some l) ∧ Mod (fun k => k < W1.heap.size ∧ ¬ S k) W W') ∨
          (e = .returned (.bool false) ∧ (∃ c, Ix c (pre ++ [x]) W' ∧ W'.heap[l]? = some (.loop (rec .done (some c))) ∧ W'.heap[w.heap.size]? = some (.deferred (some [])) ∧ ∀ p ∈ pre ++ [x], p.2.ownBlock ≠ some l) ∧ Mod (fun k => k < W1.heap.size ∧ ¬ S k) W W'))) a' w₂ := by
        intro a' Wa hma hvar
        have hla := hma.at hll id
        have hlta : l < Wa.heap.size := (Array.getElem?_eq_some_iff.1 hla).1
        refine ⟨_, run_beginRound hla (by rw [hrec]), ?_⟩
        obtain ⟨Wb, hWb⟩ : ∃ Wb, Wa.putObj l (.loop { rec .ready none with state := .busy }) = Wb := ⟨_, rfl⟩
        have hlb : Wb.heap[l]? = some (.loop { rec .ready none with state := .busy }) := by rw [← hWb]; exact World.putObj_heap_same hlta
        have hmb : Mod (fun k => k = l) Wa Wb := by rw [← hWb]; exact put_l _ _
        have hwb : Mod (fun k => k = l) W Wb := hma.wider (fun _ _ h => h.elim) |>.trans hmb
        have hib : I pre Wb := hI _ _ _ hi (hwb.wider (fun i _ e => e ▸ ⟨hBl, hn⟩))
        have hxb := hwb.at hx (by omega)
        have howb : OwnV w.heap.size Wb x := (hown.mono (by omega)).same (fun r hr => by
          obtain ⟨_, hlt, _⟩ := hown.cells hr
          exact hwb.block r hlt (fun e => hxl (e ▸ hr)))
        have hvb : Var w.heap.size box fa x a' Wb := by
          unfold Var at hvar ⊢
          split at hvar
          · exact hvar
          · obtain ⟨b, h1, h2, h3⟩ := hvar
            refine ⟨b, h1, hmb.at h2 (fun e => ?_), h3⟩
            rw [e, hla] at h2
            cases h2
        rw [hWb]
        refine wpIn_mono (hbody l pre x rest a' Wb hL hBl ⟨_, hlb⟩ (by have := hwb.size; omega) hib howb hap hvb) ?_
        have fin : ∀ (jump : Option Code) (W3 : World), Mod T Wb W3 → (Instr.endRound l jump).run P W3 = .ok (.bool jump.isNone) (W3.putObj l (.loop (rec (if jump.isNone then .ready else .done) jump))) ∧
            (W3.putObj l (.loop (rec (if jump.isNone then .ready else .done) jump))).heap[l]? = some (.loop (rec (if jump.isNone then .ready else .done) jump)) ∧ (W3.putObj l (.loop (rec (if jump.isNone then .ready else .done) jump))).heap[w.heap.size]? = some (.deferred (some [])) ∧
            Mod (fun k => k < W1.heap.size ∧ ¬ S k) W (W3.putObj l (.loop (rec (if jump.isNone then .ready else .done) jump))) := by
          intro jump W3 hm3
          have hl3 : W3.heap[l]? = some (.loop { rec .ready none with state := .busy }) := hm3.at hlb (fun ht => by have := (hT l ht).1; omega)
          have := run_endRound (P := P) jump hl3
          rw [hrec] at this ⊢
          have hlS : l < W1.heap.size ∧ ¬ S l := ⟨hl1, fun h => by have := hS l h; omega⟩
          refine ⟨this, World.putObj_heap_same (Array.getElem?_eq_some_iff.1 hl3).1, hXput _ _ (hm3.at hxb (fun ht => by have := (hT _ ht).1; omega)), ?_⟩
          exact ((hwb.wider (fun i _ e => e ▸ hlS)).trans (hm3.wider (fun i _ ht => ⟨by have := (hT i ht).1; omega, (hT i ht).2⟩))).trans ((put_l _ _).wider (fun i _ e => e ▸ hlS))
        rintro e a3 W3 hp
        cases e with
        | normal =>
          obtain ⟨f1, f2, f3, f4⟩ := fin none W3 hp.1
          exact ⟨_, _, f1, .inl ⟨rfl, ⟨hIput _ _ _ hn' hp.2, f2, f3, hn'⟩, f4⟩⟩
        | ret =>
          obtain ⟨f1, f2, f3, f4⟩ := fin (some .ret) W3 hp.1
          exact ⟨_, _, f1, .inr ⟨rfl, ⟨_, hIxput _ _ _ _ hn' hp.2, f2, f3, hn'⟩, f4⟩⟩
        | exit id =>
          obtain ⟨f1, f2, f3, f4⟩ := fin (some (.exit id)) W3 hp.1
          exact ⟨_, _, f1, .inr ⟨rfl, ⟨_, hIxput _ _ _ _ hn' hp.2, f2, f3, hn'⟩, f4⟩⟩
        | goto t =>
          obtain ⟨f1, f2, f3, f4⟩ := fin (some (.goto t)) W3 hp.1
          exact ⟨_, _, f1, .inr ⟨rfl, ⟨_, hIxput _ _ _ _ hn' hp.2, f2, f3, hn'⟩, f4⟩⟩
        | panic ch => exact hp.elim
        | outgrown => exact hp.elim
      cases box with
      | none => exact hgo _ _ (Mod.refl _ _) rfl
      | some tc =>
        obtain ⟨t, cs⟩ := tc
        exact hgo _ _ ((Mod.refl _ _).alloc _) ⟨W.heap.size, by omega, World.alloc_heap_new W _, rfl⟩
end
end Go.Proofs.Ytnjbamikfjdofaa

/- A region that draws its order, whose operations read or call what makes new memory at most, but for one that makes a variable, at whatever time, and the last one, behind all others: one walk of the lexical order serves every order. -/
import Derived.Test.YtogalmkeipigeaaLoop
set_option linter.unusedSimpArgs false
set_option linter.unusedVariables false
namespace Go.Proofs.Ytogalmkeipigeaa
open Go.RowKit Go.Shelf

/-! ### Two contracts of one call hand back one value -/
def stuckF (P : Program) : Frame := { (default : Frame) with fn := P.funcs.size, kind := .report, mode := .returning, defers := [], todo := [] }

theorem stuck_step (P : Program) (w : World) (m : Machine) : step P (lone (stuckF P) [] w) ≠ .next m := by
  intro h
  have : ∃ o w', step P (lone (stuckF P) [] w) = .ended o w' := ⟨_, _, step_lone_ended (by simp [stepG, unwind, stuckF, doReturn]; exact ⟨rfl, rfl⟩)⟩
  obtain ⟨o, w', e⟩ := this
  rw [e] at h; cases h

theorem leave_only {P : Program} {fr fr' : Frame} {w w' : World} {v : Value} (h : fr.leaving P w (.returned v)) {d : Nat} (hd : runN P d (lone fr [stuckF P] w) = .next (lone fr' [stuckF P] w')) : fr' = fr ∧ w' = w := by
  match d, hd with
  | 0, hd =>
    simp only [runN, lone] at hd
    simp only [Stepped.next.injEq, Machine.mk.injEq] at hd
    obtain ⟨h1, h2, _⟩ := hd
    simp at h2
    exact ⟨h2.symm, h1.symm⟩
  | 1, hd =>
    simp only [runN, step_leave_returned h] at hd
    simp [lone] at hd
  | d + 2, hd =>
    exfalso
    simp only [runN, step_leave_returned h] at hd
    have hfin : (stuckF P).finish v = stuckF P := rfl
    rw [hfin] at hd
    cases hs : step P (lone (stuckF P) [] w) with
    | next m => exact stuck_step P w m hs
    | ended o w2 => rw [hs] at hd; cases hd

theorem runN_two {P : Program} {m m1 m2 : Machine} {a b : Nat} (h1 : runN P a m = .next m1) (h2 : runN P b m = .next m2) : (∃ d, runN P d m1 = .next m2) ∨ ∃ d, runN P d m2 = .next m1 := by
  rcases Nat.le_total a b with h | h
  · obtain ⟨d, rfl⟩ := Nat.exists_eq_add_of_le h
    rw [runN_add, h1] at h2
    exact .inl ⟨d, h2⟩
  · obtain ⟨d, rfl⟩ := Nat.exists_eq_add_of_le h
    rw [runN_add, h2] at h1
    exact .inr ⟨d, h1⟩

theorem leaving_det {P : Program} {fr : Frame} {w : World} {v v' : Value} (h : fr.leaving P w (.returned v)) (h' : fr.leaving P w (.returned v')) : v = v' := by
  obtain ⟨_, _, _, fn, hf, hr⟩ := h
  obtain ⟨_, _, _, fn', hf', hr'⟩ := h'
  rw [hf] at hf'
  obtain rfl : fn = fn' := by simpa using hf'
  rw [hr] at hr'
  simpa using hr'

theorem Calls.det {P : Program} {f : FuncId} {args : Array Value} {w : World} {v v' : Value} {A B : World → Prop} (h : Calls P f args w fun e w' => e = .returned v ∧ A w') (h' : Calls P f args w fun e w' => e = .returned v' ∧ B w') : v = v' := by
  obtain ⟨e, w1, fr, ⟨rfl, _⟩, ⟨a, ha⟩, _, hl⟩ := h [stuckF P]
  obtain ⟨e', w2, fr', ⟨rfl, _⟩, ⟨b, hb⟩, _, hl'⟩ := h' [stuckF P]
  rcases runN_two ha hb with ⟨d, hd⟩ | ⟨d, hd⟩
  · obtain ⟨rfl, rfl⟩ := leave_only hl hd
    exact leaving_det hl hl'
  · obtain ⟨rfl, rfl⟩ := leave_only hl' hd
    exact leaving_det hl hl'

theorem quietAt_det {P : Program} {o : Oper} {a : Act} {C C' : World → Prop} {w : World} {v v' : Value} (h : o.quietAt P a C w v) (h' : o.quietAt P a C' w v') : v = v' := by
  unfold Oper.quietAt at h h'
  generalize (execOp a.eval o).run P w = r at h h'
  cases r with
  | halt x w' => simp only [Oper.quietUpon] at h
  | ok n w' =>
    cases n <;> simp only [Oper.quietUpon] at h h'
    case value u => exact h.2.symm.trans h'.2
    case skip => exact h.2.trans h'.2.symm
    case enter f args => exact Calls.det h.2 h'.2

theorem yieldsIn_det {P : Program} {ops : Array Oper} {C C' : World → Prop} {o : Oper} {a : Act} {w : World} {v v' : Value} (h : YieldsIn P ops C o v a) (h' : YieldsIn P ops C' o v' a) (hw : C w) (hw' : C' w) : v = v' := by
  rcases h with ⟨h1, h2⟩ | ⟨h1, h2⟩ <;> rcases h' with ⟨h3, h4⟩ | ⟨h3, h4⟩
  · exact quietAt_det (h2 w hw) (h4 w hw')
  · rw [h1] at h3; cases h3
  · rw [h1] at h3; cases h3
  · rw [h2, h4]

/-! ### The law -/
/-- A class of worlds in which nothing that lay in w0 has turned, and that new memory does not leave. -/
structure Sub (w0 : World) (X : World → Prop) : Prop where
  some : ∃ w, X w
  mod : ∀ w, X w → Mod noB w0 w
  stable : ∀ w w', X w → Mod noB w w' → X w'

section
variable {P : Program} {F : Fence} {n : Nat} {ops : Array Oper} {opsb : Nat → Array Oper} {ia is : Nat} {oa os : Oper} {w0 : World} {Q : Exit → Act → World → Prop} {ob : Obj}

/-- What the law asks of the region's texts: with the maker, and, in opsb, with a bare value in its place and the last operation struck. -/
structure Made (P : Program) (ops : Array Oper) (opsb : Nat → Array Oper) (ia is : Nat) (oa os : Oper) (ob : Obj) : Prop where
  ne : ia ≠ is
  a : ops[ia]? = some oa
  s : ops[is]? = some os
  ab : ∀ b, (opsb b)[ia]? = some { oa with op := .move (.const (.pointer (some ⟨b, 0, none⟩))) }
  sb : ∀ b, (opsb b)[is]? = some { os with op := .move (.const undef) }
  dst : os.dst = none
  other : ∀ b i, i ≠ ia → i ≠ is → (opsb b)[i]? = ops[i]?
  ga : oa.guard = none
  gs : os.guard = none
  last : ∀ j, j < ops.size → j ≠ is → ∃ e ∈ os.after, Region.binds .any e = true ∧ e.on = j
  low : ∀ i o, ops[i]? = some o → ∀ e ∈ o.after, Region.binds .any e = true → e.on < i
  nd : ∀ o ∈ ops, ∀ c, o.op ≠ .defer c
  alloc : ∀ (a : Act) (w : World), (execOp a.eval oa).run P w = .ok (.value (.pointer (some ⟨w.heap.size, 0, none⟩))) (w.alloc ob)

theorem Made.readyEq (M : Made P ops opsb ia is oa os ob) (b i : Nat) (listed : Array Bool) : i ∈ Region.ready .any (opsb b) listed ↔ i ∈ Region.ready .any ops listed := by
  rw [mem_ready, mem_ready]
  by_cases h1 : i = ia
  · subst h1; rw [M.a, M.ab]; simp
  · by_cases h2 : i = is
    · subst h2; rw [M.s, M.sb]; simp
    · rw [M.other b i h1 h2]
theorem Made.same (M : Made P ops opsb ia is oa os ob) (b : Nat) (tmps : Array Value) : Go.yielded (opsb b) tmps = Go.yielded ops tmps := by
  funext j
  unfold Go.yielded
  by_cases h1 : j = ia
  · subst h1; rw [M.a, M.ab]; rfl
  · by_cases h2 : j = is
    · subst h2; rw [M.s, M.sb]; rfl
    · rw [M.other b j h1 h2]

/-- One quiet operation, in the region itself. -/
theorem Made.step (M : Made P ops opsb ia is oa os ob) (hfn : ∀ f, F.fn f) (hd : F.depth = none) (hcall : ∀ f args W R, Calls P f args W R → CallsIn F (n - 1) P f args W R) {b i : Nat} {o : Oper} (hi : ops[i]? = some o) {X : World → Prop} {v : Value} {a : Act} {w : World} (hX : X w)
    (hy : YieldsIn P (opsb b) X o v a) {K : Act → World → Prop} (hK : ∀ w', X w' → K (a.put o.dst v) w') : wpOpIn F n P ops Q i K a w := by
  unfold wpOpIn
  simp only [hi]
  unfold YieldsIn at hy
  rw [M.same] at hy
  rcases hy with ⟨h1, h2⟩ | ⟨h1, rfl⟩
  · rw [if_pos h1]
    exact wpIn_of_quiet (C := X) (K := fun a' => a' = a.put o.dst v) hfn hd hcall (M.nd o (Array.mem_of_getElem? hi)) hX (fun a' w' hw' e => e ▸ hK w' hw') ⟨v, h2, rfl⟩
  · rw [if_neg (by rw [h1]; simp)]
    exact ⟨fun f _ => hfn f, hK w hX⟩

theorem ready_unlisted {md : Region.Mode} {i : Nat} {listed : Array Bool} (h : i ∈ Region.ready md ops listed) : listed.getD i true = false := (mem_ready.1 h).1

/-- What is not listed yet, there is one of it that may come up. -/
theorem Made.someReady (M : Made P ops opsb ia is oa os ob) {listed : Array Bool} (hsz : listed.size = ops.size) : ∀ j, listed.getD j true = false → ∃ i, i ∈ Region.ready .any ops listed := by
  intro j
  induction j using Nat.strongRecOn with
  | _ j ih =>
    intro hj
    by_cases h : ∃ k, k < j ∧ listed.getD k true = false
    · obtain ⟨k, hk, hu⟩ := h; exact ih k hk hu
    · have hlt : j < listed.size := by
        rcases Nat.lt_or_ge j listed.size with h' | h'
        · exact h'
        · rw [Array.getD_eq_getD_getElem?, Array.getElem?_eq_none h'] at hj; cases hj
      refine ⟨j, mem_ready.2 ⟨hj, ops[j]'(by omega), Array.getElem?_eq_getElem (by omega), fun e he hb => ?_⟩⟩
      have hl := M.low j _ (Array.getElem?_eq_getElem (by omega)) e he hb
      have hon : e.on < listed.size := by omega
      cases hv : listed.getD e.on true with
      | false => exact absurd ⟨e.on, hl, hv⟩ h
      | true =>
        rw [Array.getD_eq_getD_getElem?, Array.getElem?_eq_getElem hon] at hv ⊢
        simpa using hv

theorem getD_set {listed : Array Bool} {i j : Nat} (b d : Bool) : (listed.setIfInBounds i b).getD j d = if i = j ∧ j < listed.size then b else listed.getD j d := by
  rw [Array.getD_eq_getD_getElem?, Array.getD_eq_getD_getElem?, Array.getElem?_setIfInBounds]
  by_cases h : i = j
  · subst h
    by_cases h2 : i < listed.size
    · simp [h2]
    · simp [h2]
  · simp [h]

theorem Made.two (M : Made P ops opsb ia is oa os ob) (hfn : ∀ f, F.fn f) (hd : F.depth = none) (hcall : ∀ f args W R, Calls P f args W R → CallsIn F (n - 1) P f args W R) {b : Nat} {X : World → Prop}
    {Qb : Act → Prop} (hQb : ∀ a w, Qb a → X w → wpListIn F n P ops Q [os] a w) : ∀ (fuel : Nat) (listed : Array Bool) (a : Act) (w : World), listed.size = ops.size → listed.getD is true = false → X w → listed.getD ia true = true →
      wpAnyQ P .any (opsb b) X Qb fuel listed a → wpAnyIn F n P .any ops Q fuel listed a w := by
  intro fuel
  induction fuel with
  | zero =>
    intro listed a w hsz his hw hia h
    exfalso
    obtain ⟨i, hi⟩ := M.someReady hsz is his
    have h1 := h.1
    rw [← M.readyEq b i] at hi
    rw [h1] at hi; cases hi
  | succ fuel ih =>
    intro listed a w hsz his hw hia h
    refine ⟨fun e => ?_, fun i hi => ?_⟩
    · obtain ⟨i, hi⟩ := M.someReady hsz is his
      rw [e] at hi; cases hi
    · have hq := h.2 i ((M.readyEq b i listed).2 hi)
      obtain ⟨hun, o, ho, hall⟩ := mem_ready.1 hi
      by_cases h2 : i = is
      · subst h2
        have ho' : o = os := by rw [M.s] at ho; exact (Option.some.inj ho).symm
        subst ho'
        obtain ⟨v, hy, hK⟩ := yieldsIn_of_qOp (M.sb b) hq
        have e1 : a.put o.dst v = a := by rw [M.dst]; rfl
        simp only at hK
        rw [e1] at hK
        have hempty : Region.ready .any ops (listed.setIfInBounds i true) = [] := by
          rw [List.eq_nil_iff_forall_not_mem]
          intro j hj
          have hju := ready_unlisted hj
          rw [getD_set] at hju
          obtain ⟨_, oj, hoj, _⟩ := mem_ready.1 hj
          have hjs : j < ops.size := (Array.getElem?_eq_some_iff.1 hoj).1
          by_cases e : j = i
          · subst e
            rw [if_pos ⟨rfl, by omega⟩] at hju; cases hju
          · rw [if_neg (fun h => e h.1.symm)] at hju
            obtain ⟨e', he', hb', hon⟩ := M.last j hjs e
            have := hall e' he' hb'
            rw [hon, Array.getD_eq_getD_getElem?, Array.getElem?_eq_getElem (by omega)] at this
            rw [Array.getD_eq_getD_getElem?, Array.getElem?_eq_getElem (by omega)] at hju
            simp at this hju
            rw [this] at hju; cases hju
        have hempty' : Region.ready .any (opsb b) (listed.setIfInBounds i true) = [] := by
          rw [List.eq_nil_iff_forall_not_mem]
          intro j hj
          rw [M.readyEq b j, hempty] at hj; cases hj
        have hQa : Qb a := by
          cases fuel with
          | zero => exact hK.2
          | succ f => exact hK.1 hempty'
        have hl := hQb a w hQa hw
        unfold wpListIn at hl
        unfold wpOpIn
        simp only [ho]
        have hwant : Region.wanted o (yielded ops a.tmps) = true := by unfold Region.wanted; rw [M.gs]
        rw [if_pos hwant] at hl ⊢
        refine Oper.wpIn_mono (fun a' w' h' => ?_) hl
        cases fuel with
        | zero => exact ⟨hempty, h'⟩
        | succ f => exact ⟨fun _ => h', fun j hj => by rw [hempty] at hj; cases hj⟩
      · have h1 : i ≠ ia := fun e => by subst e; rw [hia] at hun; cases hun
        have hob : (opsb b)[i]? = some o := (M.other b i h1 h2).trans ho
        obtain ⟨v, hy, hK⟩ := yieldsIn_of_qOp hob hq
        refine M.step hfn hd hcall ho hw hy (fun w' hw' => ih _ _ w' (by rw [Array.size_setIfInBounds]; exact hsz) ?_ hw' ?_ hK)
        · rw [getD_set, if_neg (fun h => h2 h.1)]; exact his
        · rw [getD_set]
          split
          · rfl
          · exact hia

theorem Made.one (M : Made P ops opsb ia is oa os ob) (hfn : ∀ f, F.fn f) (hd : F.depth = none) (hcall : ∀ f args W R, Calls P f args W R → CallsIn F (n - 1) P f args W R)
    {Qb : Nat → Act → Prop} (hQb : ∀ b a w, Qb b a → Mod noB w0 w → w0.heap.size ≤ b → w.heap[b]? = some ob → wpListIn F n P ops Q [os] a w) : ∀ (fuel : Nat) (listed : Array Bool) (a : Act) (w : World), listed.size = ops.size → listed.getD is true = false → Mod noB w0 w → listed.getD ia true = false →
      (∀ b X, Sub w0 X → wpAnyQ P .any (opsb b) X (Qb b) fuel listed a) → wpAnyIn F n P .any ops Q fuel listed a w := by
  intro fuel
  induction fuel with
  | zero =>
    intro listed a w hsz his hw hia h
    exfalso
    obtain ⟨i, hi⟩ := M.someReady hsz is his
    have h1 := (h 0 (fun w' => Mod noB w0 w') ⟨⟨w, hw⟩, fun _ h => h, fun _ _ h k => h.trans k⟩).1
    rw [← M.readyEq 0 i] at hi
    rw [h1] at hi; cases hi
  | succ fuel ih =>
    intro listed a w hsz his hw hia h
    refine ⟨fun e => ?_, fun i hi => ?_⟩
    · obtain ⟨i, hi⟩ := M.someReady hsz is his
      rw [e] at hi; cases hi
    · obtain ⟨hun, o, ho, hall⟩ := mem_ready.1 hi
      have hne : i ≠ is := fun e => by
        subst e
        have ho' : o = os := by rw [M.s] at ho; exact (Option.some.inj ho).symm
        subst ho'
        have hs : ia < ops.size := (Array.getElem?_eq_some_iff.1 M.a).1
        obtain ⟨e', he', hb', hon⟩ := M.last ia hs M.ne
        have := hall e' he' hb'
        rw [hon, Array.getD_eq_getD_getElem?, Array.getElem?_eq_getElem (by omega)] at this
        rw [Array.getD_eq_getD_getElem?, Array.getElem?_eq_getElem (by omega)] at hia
        simp at this hia
        rw [this] at hia; cases hia
      by_cases h1 : i = ia
      · subst h1
        have ho' : o = oa := by rw [M.a] at ho; exact (Option.some.inj ho).symm
        subst ho'
        -- the maker itself
        have hw2 : Mod noB w0 (w.alloc ob) := hw.alloc ob
        have hsub : Sub w0 (fun w' => Mod noB (w.alloc ob) w') := ⟨⟨_, Mod.refl _ _⟩, fun w' h' => hw2.trans h', fun _ _ h k => h.trans k⟩
        have hq := (h w.heap.size _ hsub).2 i ((M.readyEq _ i listed).2 hi)
        obtain ⟨v, hy, hK⟩ := yieldsIn_of_qOp (M.ab w.heap.size) hq
        simp only at hK
        have hv : v = .pointer (some ⟨w.heap.size, 0, none⟩) := by
          rcases hy with ⟨_, h2⟩ | ⟨h2, _⟩
          · have := h2 _ (Mod.refl _ _)
            unfold Oper.quietAt at this
            simp only [execOp] at this
            simp [Oper.quietUpon, Act.eval, Sem.run_bind, Sem.run_pure, Result.andThen] at this
            exact this.symm
          · exfalso
            unfold Region.wanted at h2
            simp only [M.ga] at h2
            cases h2
        subst hv
        unfold wpOpIn
        simp only [ho]
        have hwant : Region.wanted o (yielded ops a.tmps) = true := by unfold Region.wanted; rw [M.ga]
        rw [if_pos hwant]
        unfold Oper.wpIn
        refine ⟨fun f _ => hfn f, ?_⟩
        rw [Oper.semAt_eq _ _ _ (M.nd o (Array.mem_of_getElem? ho)), M.alloc]
        simp only [Oper.uponIn]
        refine M.two (X := fun w' => Mod noB (w.alloc ob) w') hfn hd hcall (fun a' w' hq' hx => hQb w.heap.size a' w' hq' (hw2.trans hx) hw.size (hx.at (World.alloc_heap_new w ob) id)) fuel _ _ _ (by rw [Array.size_setIfInBounds]; exact hsz) ?_ (Mod.refl _ _) ?_ hK
        · rw [getD_set, if_neg (fun h => hne h.1)]; exact his
        · rw [getD_set, if_pos ⟨rfl, by have := (Array.getElem?_eq_some_iff.1 ho).1; omega⟩]
      · have hob : ∀ b, (opsb b)[i]? = some o := fun b => (M.other b i h1 hne).trans ho
        have hsub0 : Sub w0 (fun w' => Mod noB w0 w') := ⟨⟨w, hw⟩, fun _ h => h, fun _ _ h k => h.trans k⟩
        obtain ⟨v, hy, hK⟩ := yieldsIn_of_qOp (hob 0) ((h 0 _ hsub0).2 i ((M.readyEq 0 i listed).2 hi))
        refine M.step (b := 0) hfn hd hcall ho hw hy (fun w' hw' => ih _ _ w' (by rw [Array.size_setIfInBounds]; exact hsz) ?_ hw' ?_ ?_)
        · rw [getD_set, if_neg (fun h => hne h.1)]; exact his
        · rw [getD_set, if_neg (fun h => h1 h.1)]; exact hia
        · intro b X hX
          obtain ⟨v', hy', hK'⟩ := yieldsIn_of_qOp (hob b) ((h b X hX).2 i ((M.readyEq b i listed).2 hi))
          obtain ⟨w1, hw1⟩ := hX.some
          have hy'' : YieldsIn P (opsb 0) X o v' a := by
            unfold YieldsIn at hy' ⊢
            rw [M.same] at hy' ⊢
            exact hy'
          rw [yieldsIn_det hy hy'' (hX.mod _ hw1) hw1]
          exact hK'
end

theorem region_maker {P : Program} {F : Fence} {n : Nat} (hfn : ∀ f, F.fn f) (hd : F.depth = none) (hcall : ∀ f args W R, Calls P f args W R → CallsIn F (n - 1) P f args W R)
    {id : Nat} {Q : Exit → Act → World → Prop} {a : Act} {w : World} {l : List Oper} (hm : P.follows .mixedOrders = true) (lb : Nat → List Oper) (ia is : Nat) (oa os : Oper) (ob : Obj) (M : Made P l.toArray (fun b => (lb b).toArray) ia is oa os ob)
    (hB : ∀ b, Region.lexB .any (lb b).toArray = true) (hlen : ∀ b, (lb b).length = l.length)
    (h : ∀ b X, Sub w.drew X → wpQuiet P (lb b).toArray X (fun a' => ∀ w', Mod noB w.drew w' → w.heap.size ≤ b → w'.heap[b]? = some ob → wpListIn F n P l.toArray Q [os] a' w') (lb b) a) : (Code.region id l.toArray true).wpIn F n P Q a w := by
  refine wpIn_region_any hm ?_
  have hia : ia < l.length := by have := (Array.getElem?_eq_some_iff.1 M.a).1; simpa using this
  have his : is < l.length := by have := (Array.getElem?_eq_some_iff.1 M.s).1; simpa using this
  refine M.one (w0 := w.drew) hfn hd hcall (Qb := fun b a' => ∀ w', Mod noB w.drew w' → w.heap.size ≤ b → w'.heap[b]? = some ob → wpListIn F n P l.toArray Q [os] a' w') (fun b a' w' hq hM hb ho => hq w' hM hb ho) _ _ _ _ (by simp) ?_ (Mod.refl _ _) ?_ ?_
  · rw [Array.getD_eq_getD_getElem?, Array.getElem?_replicate]; simp [his]
  · rw [Array.getD_eq_getD_getElem?, Array.getElem?_replicate]; simp [hia]
  · intro b X hX
    have hb := hB b
    simp only [Region.lexB, Bool.and_eq_true] at hb
    have := wpAnyQ_lex (C := X) (md := .any) hb.1 (lb b) 0 (Array.replicate (lb b).toArray.size false) a (by simp) (by simpa using hb.2) (h b X hX)
    simpa [hlen b] using this

/-! ### The same over lists that are written out -/
def swapL (l : List Oper) (ia is : Nat) (oa os : Oper) (b : Nat) : List Oper := (l.set ia { oa with op := .move (.const (.pointer (some ⟨b, 0, none⟩))) }).set is { os with op := .move (.const undef) }
def lastB (l : List Oper) (is : Nat) (os : Oper) : Bool := (List.range l.length).all fun j => j == is || os.after.toList.any fun e => Region.binds .any e && e.on == j
def lowB (l : List Oper) : Bool := (List.range l.length).all fun i => match l[i]? with | some o => o.after.toList.all (fun e => !Region.binds .any e || decide (e.on < i)) | none => true

theorem made_of {P : Program} {l : List Oper} {ia is : Nat} {oa os : Oper} {ob : Obj} (ne : ia ≠ is) (a : l[ia]? = some oa) (s : l[is]? = some os) (hdst : os.dst = none) (ga : oa.guard = none) (gs : os.guard = none) (hlast : lastB l is os = true) (hlow : lowB l = true)
    (hnd : l.all (fun o => !Op.isDefer o.op) = true) (al : ∀ (a : Act) (w : World), (execOp a.eval oa).run P w = .ok (.value (.pointer (some ⟨w.heap.size, 0, none⟩))) (w.alloc ob)) :
    Made P l.toArray (fun b => (swapL l ia is oa os b).toArray) ia is oa os ob where
  ne := ne
  a := by simpa using a
  s := by simpa using s
  ab b := by
    have h := (List.getElem?_eq_some_iff.1 a).1
    simp [swapL, List.getElem?_set, Ne.symm ne, h]
  sb b := by
    have h := (List.getElem?_eq_some_iff.1 s).1
    simp [swapL, List.getElem?_set, h]
  dst := hdst
  other b i h1 h2 := by simp [swapL, List.getElem?_set, Ne.symm h1, Ne.symm h2]
  ga := ga
  gs := gs
  last j hj hne := by
    have := List.all_eq_true.1 hlast j (List.mem_range.2 (by simpa using hj))
    simp only [Bool.or_eq_true, beq_iff_eq, hne, false_or, List.any_eq_true, Bool.and_eq_true] at this
    obtain ⟨e, he, h1, h2⟩ := this
    exact ⟨e, by simpa using he, h1, h2⟩
  low i o ho e he hb := by
    have ho' : l[i]? = some o := by simpa using ho
    have := List.all_eq_true.1 hlow i (List.mem_range.2 (List.getElem?_eq_some_iff.1 ho').1)
    simp only [ho', List.all_eq_true, Bool.or_eq_true, Bool.not_eq_true', decide_eq_true_eq] at this
    rcases this e (by simpa using he) with h | h
    · rw [hb] at h; cases h
    · exact h
  nd o ho c e := by
    have := List.all_eq_true.1 hnd o (by simpa using ho)
    rw [e] at this
    simp [Op.isDefer] at this
  alloc := al

theorem swapL_len (l : List Oper) (ia is : Nat) (oa os : Oper) (b : Nat) : (swapL l ia is oa os b).length = l.length := by simp [swapL]
end Go.Proofs.Ytogalmkeipigeaa

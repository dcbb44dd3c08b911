/- Several texts in one (a claim holds at most 60 files): each has its own words ahead of it. -/
import Derived.Test.YtdncppempgpooaaDoorRxJ
import Derived.Test.YtdncppempgpooaaDoorRxK
import Derived.Test.YtdncppempgpooaaDoorRuY
import Derived.Deep.DeepCutAuto
import Derived.Deep.CutRange
set_option linter.unusedSimpArgs false
set_option linter.unusedVariables false

/- RuleTrue: raw numbers that came in; a number of a span (pick); what follows of a plan. -/
namespace Go.Proofs.YtdncppempgpooaaDoor
open Go Go.ChangeShapes Go.WideShapes Go.ChangeAt Go.RowKit Go.Joins Go.Shelf

/-- Raw numbers of two bytes. -/
def RawsAt (w : World) (bo : Option Addr) (n : Nat) : Prop := ∃ bb boff, bo = some ⟨bb, boff, none⟩ ∧ bb < w.heap.size ∧ ∀ j, j < n → ∃ u : Nat, u ≤ 65535 ∧ w.cell? ⟨bb, boff + j, none⟩ = some (.int .u16 u)
theorem RawsAt.mod {w w' : World} {bo : Option Addr} {n : Nat} (h : RawsAt w bo n) (hm : Mod noB w w') : RawsAt w' bo n := by
  obtain ⟨bb, boff, h1, h2, h3⟩ := h
  exact ⟨bb, boff, h1, Nat.lt_of_lt_of_le h2 hm.size, fun j hj => by obtain ⟨u, hu, hc⟩ := h3 j hj; exact ⟨u, hu, (cell_same (hm.block bb h2 id) _).trans hc⟩⟩
theorem cellsOf55 : Tryd.prog.cellsOf 55 = 1 := by kernel_rfl
section
variable {H : Type} {enc : TypeId × Value → H} {W : World} {base : Nat} {sp : Nat → Bool} {held : Bool}
set_option maxRecDepth 100000 in
theorem raws_opened {r : Reach} {v : Value} {d : DataW H} {p : List MemPlace} (hv : Value.okWide Tryd.prog W r base 46 v) {b0 : Nat} (h : DataW.Trod enc Tryd.prog W b0 sp held 46 v d p) :
    ∃ (bo : Option Addr) (n cap : Nat), v = .slice bo n cap ∧ n ≤ 9223372036854775807 ∧ (0 < n → RawsAt W bo n) := by
  obtain ⟨fuel, hf⟩ := h
  have hone : ∃ c, v.cells.toList = [c] := by
    cases v with
    | agg cs => simp only [Value.okWide, Tryd.underlying46, Cell.okWide, Cell.ok] at hv
    | _ => exact ⟨_, rfl⟩
  obtain ⟨c, hc⟩ := hone
  rw [hc] at hf
  obtain ⟨ao, n, cap, rfl, hn, es, hes, hat⟩ := slice_opened (by omega : 0 < 1) (fun u : { u : Nat // u ≤ 65535 } => #[Value.int .u16 (u.1 : Nat)]) (fun _ => rfl) Tryd.underlying46 cellsOf55 (fun _ l _ h => by
    obtain ⟨a, ea, _, hw⟩ := DataW.trod_int Tryd.underlying55 h
    obtain ⟨a0, a1⟩ := wf_u16 hw
    refine ⟨⟨a.toNat, by omega⟩, ?_⟩
    rw [ea]
    show [Value.int .u16 a] = [Value.int .u16 (a.toNat : Nat)]
    rw [Int.toNat_of_nonneg a0]) hf
  refine ⟨ao, n, cap, slice_value Tryd.underlying46 hv hc, hn, fun h0 => ?_⟩
  obtain ⟨b, off, h1, h2, h3⟩ := hat (fun e => by rw [e] at hes; simp at hes; omega)
  refine ⟨b, off, h1, h2, fun j hj => ?_⟩
  obtain ⟨u, hu⟩ : ∃ u, es[j]? = some u := ⟨_, List.getElem?_eq_getElem (by omega)⟩
  refine ⟨u.1, u.2, ?_⟩
  have := h3 j u hu 0 (by omega)
  rw [Nat.mul_one, Nat.add_zero] at this
  exact this
end

/-- A number of a span, by a remainder. -/
def pickR (s : Int × Int) (u : Nat) : Int := s.1 + ((u % (s.2 - s.1 + 1).toNat : Nat) : Int)
theorem pickR_in {s : Int × Int} (h : s.1 ≤ s.2) (u : Nat) : s.1 ≤ pickR s u ∧ pickR s u ≤ s.2 := by
  have := Nat.mod_lt u (show 0 < (s.2 - s.1 + 1).toNat by omega)
  unfold pickR
  omega
set_option maxRecDepth 100000 in
set_option maxHeartbeats 2000000 in
theorem pick_any (s : Int × Int) (u : Nat) (w : World) (h0 : 0 ≤ s.1) (h1 : s.1 ≤ s.2) (h2 : s.2 ≤ 10000) (hu : u ≤ 65535) : Calls Tryd.prog 32 #[spV s, .int .u16 u] w fun e w' => e = .returned (.int .i64 (pickR s u)) ∧ Mod noB w w' := by
  obtain ⟨m, hm⟩ : ∃ m : Nat, s.2 - s.1 + 1 = m := ⟨(s.2 - s.1 + 1).toNat, by omega⟩
  have hp : pickR s u = s.1 + ((u % m : Nat) : Int) := by unfold pickR; rw [hm]; rfl
  rw [hp]
  obtain ⟨a, b⟩ := s
  simp only at h0 h1 h2 hm ⊢
  have hml := Nat.mod_lt u (show 0 < m by omega)
  have hrem : Int.tmod (u : Int) (m : Int) = ((u % m : Nat) : Int) := rfl
  generalize u % m = t at *
  have hne : ((m : Int) == 0) = false := beq_eq_false_iff_ne.2 (by omega)
  have hne2 : ¬ (m = 0) := by omega
  have hw1 : IntKind.i64.wrap (u : Int) = (u : Int) := IntWalk.i64_in _ (by omega)
  have hw2 : IntKind.i64.wrap (b - a) = b - a := IntWalk.i64_in _ (by omega)
  have hw3 : IntKind.i64.wrap (m : Int) = (m : Int) := IntWalk.i64_in _ (by omega)
  have hw4 : IntKind.i64.wrap (t : Int) = (t : Int) := IntWalk.i64_in _ (by omega)
  have hw5 : IntKind.i64.wrap (a + (t : Int)) = a + (t : Int) := IntWalk.i64_in _ (by omega)
  have hb := World.alloc_heap_new w (.cells #[.int .i64 a, .int .i64 b] 28)
  have FIN : Hold (∀ W', Mod noB (w.alloc (.cells #[.int .i64 a, .int .i64 b] 28)) W' → W'.cell? ⟨w.heap.size, 0, none⟩ = some (.int .i64 a) ∧ W'.cell? ⟨w.heap.size, 1, none⟩ = some (.int .i64 b)) := ⟨fun W' h => ⟨cellsAt (h.at hb id) 0, cellsAt (h.at hb id) 1⟩⟩
  have HM := Hold.mk ((Mod.refl noB w).alloc (.cells #[.int .i64 a, .int .i64 b] 28))
  clear hb
  go_enter Tryd.func32, Tryd.ntmps32
  go_wp2
  generalize w.alloc (.cells #[.int .i64 a, .int .i64 b] 28) = w0 at *
  refine region_quietP (by kernel_rfl) (by kernel_rfl) (fun W' => Mod noB w0 W') ((Mod.refl _ _).drew) ?_
  repeat
    (first
      | go_big_quiet_skip
      | (go_big_quiet_want
         go_simp
         first
           | go_big_quiet_on
           | (apply Exists.intro
              refine ⟨fun W' hC => ?_, ?_⟩
              · obtain ⟨c0, c1⟩ := FIN.out W' hC
                first
                  | with_reducible rfl
                  | (go_simp; first | rfl | exact ⟨rfl, rfl⟩)
              go_big_quiet_on)
           | (refine ⟨⟨_, fun _ _ => rfl⟩, ?_⟩; go_big_quiet_on)))
  refine wpQuiet_nil ?_
  intro Wq hq
  have HMq := Hold.mk (HM.out.trans hq)
  clear hq
  go_wp2
  go_ret
  exact ⟨rfl, HMq.out⟩

/-- What comes of following a list. -/
theorem follow_cases {d : Dye} {l : List (Int × Int)} (hd : dieB d = true) (hs : stintsB l = true) (q : List Int) : (followE d l q = (0, 0, 0, 2)) ∨
    (∃ j b : Nat, followE d l q = (0, (j : Int), (b : Int), 11) ∧ planB d l q = true ∧ badR d 0 zeroR l (0 :: natsOf q) = some (j, b) ∧ j < l.length ∧ b < d.bl.length) ∨
    (followE d l q = (costR d q, (l.length : Int), 0, 0) ∧ planB d l q = true ∧ badR d 0 zeroR l (0 :: natsOf q) = none) := by
  cases hpb : planB d l q with
  | false => exact .inl (by simp [followE, hd, hs, hpb])
  | true =>
    have hE : followE d l q = goR d 0 zeroR 0 l (0 :: natsOf q) := by simp [followE, hd, hs, hpb]
    have hl : q.length = max 0 (l.length - 1) := by simp [planB] at hpb; omega
    rw [follow_is d l q hl] at hE
    cases hb : badR d 0 zeroR l (0 :: natsOf q) with
    | some x =>
      obtain ⟨j, b⟩ := x
      rw [hb] at hE
      have := bad_bd l 0 zeroR _ j b hb
      exact .inr (.inl ⟨j, b, hE, rfl, rfl, by omega, this.2.2⟩)
    | none =>
      rw [hb] at hE
      exact .inr (.inr ⟨hE, rfl, rfl⟩)
/-- The best plan, if there is one, is good. -/
theorem plan_follow {d : Dye} {l : List (Int × Int)} {P : List Int} {pc pe : Int} (hd : dieB d = true) (hs : stintsB l = true) (h : planE d l = (P, pc, pe)) : pe = 4 ∨
    (pe = 0 ∧ followE d l P = (costR d P, (l.length : Int), 0, 0) ∧ planB d l P = true ∧ badR d 0 zeroR l (0 :: natsOf P) = none) := by
  by_cases hb : ∀ s ∈ l, failing d zeroR s = none
  · obtain ⟨i, h1, h2, _⟩ := best_in hd hs hb
    have hp := plan_ok hd hs hb
    rw [hp] at h
    simp only [Prod.mk.injEq] at h
    obtain ⟨rfl, _, rfl⟩ := h
    obtain ⟨a1, a2⟩ := allP_is h1
    refine .inr ⟨rfl, ?_, plan_is a1 a2, h2⟩
    rcases follow_cases hd hs ((bestP d l).map Int.ofNat) with h3 | ⟨j, b, _, _, h3, _⟩ | ⟨h3, _⟩
    · have hpb := plan_is a1 a2
      have hE : followE d l ((bestP d l).map Int.ofNat) = goR d 0 zeroR 0 l (0 :: natsOf ((bestP d l).map Int.ofNat)) := by simp [followE, hd, hs, hpb]
      have hl : ((bestP d l).map Int.ofNat).length = max 0 (l.length - 1) := by omega
      rw [follow_is d l _ hl, h2] at hE
      exact hE
    · rw [h2] at h3; cases h3
    · exact h3
  · have hbb : bearsB d l = false := by
      cases h : bearsB d l with
      | false => rfl
      | true =>
        refine absurd (fun s hs => ?_) hb
        unfold bearsB at h
        have := List.all_eq_true.1 h s hs
        simpa using this
    simp [planE, hd, hs, hbb] at h
    exact .inl h.2.2.symm
theorem bad_none {d : Dye} {p : List Int} {i : Nat} {r : Nat → Int} {l : List (Int × Int)} {s : Int × Int} (h : badR d i r (l.drop i) ((0 :: natsOf p).drop i) = none) (hs : l[i]? = some s) :
    failing d (bentR r (setAt p i)) s = none ∧ badR d (i + 1) (runR d (bentR r (setAt p i)) s) (l.drop (i + 1)) ((0 :: natsOf p).drop (i + 1)) = none := by
  rw [badR_step d p i r l s hs] at h
  cases hf : failing d (bentR r (setAt p i)) s with
  | some b => rw [hf] at h; cases h
  | none => rw [hf] at h; exact ⟨rfl, h⟩
/-- How far a blade is off, which wears so much each time. -/
theorem off_in {f1 f2 w1 w2 fr wr n top : Int} (hf : f1 ≤ fr ∧ fr ≤ f2) (hw0 : 0 ≤ w1) (hw : w1 ≤ wr ∧ wr ≤ w2) (hn : 0 ≤ n) (ht : n ≤ top) : f1 + n * w1 ≤ fr + wr * n ∧ fr + wr * n ≤ f2 + n * w2 ∧ fr + wr * n ≤ f2 + top * w2 := by
  have h1 : n * w1 ≤ n * wr := Int.mul_le_mul_of_nonneg_left hw.1 hn
  have h2 : n * wr ≤ n * w2 := Int.mul_le_mul_of_nonneg_left hw.2 hn
  have h3 : n * w2 ≤ top * w2 := Int.mul_le_mul_of_nonneg_right ht (by omega)
  rw [Int.mul_comm wr n]
  omega
theorem off_bd {wr n : Int} (h0 : 0 ≤ wr) (h1 : wr ≤ 10000) (h2 : 0 ≤ n) (h3 : n ≤ 7000) : 0 ≤ wr * n ∧ wr * n ≤ 70000000 := by
  refine ⟨Int.mul_nonneg h0 h2, ?_⟩
  have h4 : wr * n ≤ wr * 7000 := Int.mul_le_mul_of_nonneg_left h3 h0
  omega
end Go.Proofs.YtdncppempgpooaaDoor

/- RuleTrue: its five drawn regions (the operations, and a step for each: written by wip/tools). -/
namespace Go.Proofs.YtdncppempgpooaaDoor
open Go Go.RowKit Go.Shelf

def guardsC (l : List Oper) (C : Nat → Value) : Bool :=
  l.all fun o => match o.guard with
    | none => true
    | some (j, want) => waitsB o j && (match l[j]? with | some oj => oj.dst.isSome | none => false) && (match C j with | .bool c => c == want | _ => false)
/-- A drawn region, each of whose operations yields a known value. -/
theorem region_known {rid n : Nat} {Q : Exit → Act → World → Prop} {a0 : Act} {w : World} {l : List Oper} (hlow : lowB l = true) (ds : List (Nat × Nat)) (hsz : a0.tmps.size = n) (hok : slotsB l ds n = true) (C : Nat → Value) (hY : guardsC l C = true)
    (hs : ∀ i o (ρ : Act) w', i < l.length → l[i]? = some o → Mod noB w w' → (∀ j s, waitsB o j = true → (j, s) ∈ ds → ρ.eval (.tmp s) = C j) → (∀ s, s ∉ ds.map Prod.snd → ρ.eval (.tmp s) = a0.eval (.tmp s)) →
      wpList Tryd.prog l.toArray (only fun a' w2 => a' = ρ.put o.dst (C i) ∧ Mod noB w' w2) [{ o with guard := none }] ρ w')
    (hend : ∀ w', Mod noB w w' → Q .normal (ds.foldl (fun a x => a.put (some x.2) (C x.1)) a0) w') : (Code.region rid l.toArray true).wp Tryd.prog Q a0 w := by
  simp only [slotsB, Bool.and_eq_true, decide_eq_true_eq, List.all_eq_true, List.mem_range] at hok
  obtain ⟨⟨⟨n1, n2⟩, n3⟩, n4⟩ := hok
  have hin : ∀ i o s, l[i]? = some o → o.dst = some s → (i, s) ∈ ds := fun i o s ho hd => by
    have := n4 i (List.getElem?_eq_some_iff.1 ho).1
    simpa [ho, hd] using this
  refine region_predW hlow ds (fun j v w => v = C j) (fun _ w' => Mod noB w w') (fun w1 w2 => Mod noB w1 w2) (fun j v w1 w2 h hm => h) n1 n2 (fun x hx => by rw [hsz]; exact (n3 x hx).1) hin (fun i o ho hd => ?_) (fun x hx => (n3 x hx).2) (Mod.refl noB w).drew ?_ ?_
  · have := n4 i (List.getElem?_eq_some_iff.1 ho).1
    simpa [ho, hd] using this
  · intro D i o ρ w' hcl ho hD hdep hP hA hM
    have kn : ∀ j s, waitsB o j = true → (j, s) ∈ ds → ρ.eval (.tmp s) = C j := fun j s hw hm => by
      obtain ⟨e, he, hb, hj⟩ : ∃ e ∈ o.after, Region.binds .any e = true ∧ e.on = j := by
        obtain ⟨k, hk, hh⟩ := Array.any_eq_true.1 hw
        simp only [Bool.and_eq_true, beq_iff_eq] at hh
        exact ⟨_, Array.getElem_mem hk, hh.1, hh.2⟩
      exact hP j s hm (hj ▸ hdep e he hb)
    have hst := hs i o ρ w' (List.getElem?_eq_some_iff.1 ho).1 ho hM kn (fun s hns => hA s fun x hx e => absurd (e ▸ List.mem_map.2 ⟨x, hx, rfl⟩ : s ∈ ds.map Prod.snd) hns)
    have hwant : Region.wanted o (yielded l.toArray ρ.tmps) = true := by
      have hg := List.all_eq_true.1 hY o (List.mem_of_getElem? ho)
      unfold Region.wanted
      cases hgu : o.guard with
      | none => rfl
      | some jw =>
        obtain ⟨j, want⟩ := jw
        simp only [hgu, Bool.and_eq_true] at hg
        obtain ⟨⟨g1, g2⟩, g3⟩ := hg
        cases hoj : l[j]? with
        | none => simp [hoj] at g2
        | some oj =>
          simp only [hoj] at g2
          obtain ⟨s, hds⟩ := Option.isSome_iff_exists.1 g2
          have hv := kn j s g1 (hin j oj s hoj hds)
          split at g3
          · rename_i c heq
            rw [heq] at hv
            have hc : c = want := by simpa using g3
            subst hc
            have := eval_bool_at hv
            simp only [yielded, List.getElem?_toArray, hoj, Option.bind_some, hds, this]
            simp
          · cases g3
    refine wpList_strike hwant (wpList_mono1W ?_ hst)
    rintro a' w2 ⟨rfl, hm⟩
    exact ⟨⟨C i, rfl, fun _ => rfl⟩, hm, hM.trans hm⟩
  · intro vs D w' hall hP hM
    have e : ∀ (ds' : List (Nat × Nat)) (a : Act), (∀ x ∈ ds', x ∈ ds) → ds'.foldl (fun a x => a.put (some x.2) (vs x.1)) a = ds'.foldl (fun a x => a.put (some x.2) (C x.1)) a := by
      intro ds'
      induction ds' with
      | nil => intro a _; rfl
      | cons x ds' ih =>
        intro a hx
        simp only [List.foldl_cons]
        rw [hP x (hx x (by simp))]
        exact ih _ fun y hy => hx y (by simp [hy])
    rw [e ds a0 fun x hx => hx]
    exact hend w' hM

section
variable {o : Oper} {a : Act} {w : World} {x y z : Operand}
theorem run_remN (hop : o.op = .binOp .rem 3 x y 3) {A : Int} {m t : Nat} (hx : a.eval x = .int .i64 A) (hy : a.eval y = .int .i64 (m : Int)) (h0 : ¬ m = 0) (hC : Int.tmod A (m : Int) = (t : Int)) (ht : t ≤ 9000000000000000000) : (execOp a.eval o).run Tryd.prog w = .ok (.value (.int .i64 (t : Int))) w := by
  have hw : IntKind.i64.wrap (t : Int) = (t : Int) := IntWalk.i64_in _ (by omega)
  simp only [execOp, hop, hx, hy]
  go_simp
  done
theorem run_idx46 (hop : o.op = .indexAddr 46 x y) {b f n c i : Nat} (hx : a.eval x = .slice (some ⟨b, f, none⟩) n c) (hy : a.eval y = .int .i64 (i : Int)) (hi : i < n) : (execOp a.eval o).run Tryd.prog w = .ok (.value (.pointer (some ⟨b, f + i, none⟩))) w := by
  have h1 : (i : Int) < (n : Int) := by omega
  simp only [execOp, hop, hx, hy]
  go_simp
  done
theorem run_idx33 (hop : o.op = .indexAddr 33 x y) {b f n c i : Nat} (hx : a.eval x = .slice (some ⟨b, f, none⟩) n c) (hy : a.eval y = .int .i64 (i : Int)) (hi : i < n) : (execOp a.eval o).run Tryd.prog w = .ok (.value (.pointer (some ⟨b, f + i * 2, none⟩))) w := by
  have h1 : (i : Int) < (n : Int) := by omega
  simp only [execOp, hop, hx, hy]
  go_simp
  done
theorem run_conv55 (hop : o.op = .convert 55 3 x) {u : Nat} (hx : a.eval x = .int .u16 (u : Int)) (hu : u ≤ 65535) : (execOp a.eval o).run Tryd.prog w = .ok (.value (.int .i64 (u : Int))) w := by
  have hw : IntKind.i64.wrap (u : Int) = (u : Int) := IntWalk.i64_in _ (by omega)
  simp only [execOp, hop, hx]
  go_simp
  done
theorem run_neq29F (hop : o.op = .binOp .neq 29 x y 29) {A : Int} (hx : a.eval x = .int .i64 A) (hy : a.eval y = .int .i64 A) : (execOp a.eval o).run Tryd.prog w = .ok (.value (.bool false)) w := by
  simp only [execOp, hop, hx, hy]
  go_simp
  done
theorem run_lssF (hop : o.op = .binOp .lss 3 x y 3) {A B : Int} (hx : a.eval x = .int .i64 A) (hy : a.eval y = .int .i64 B) (h : ¬ A < B) : (execOp a.eval o).run Tryd.prog w = .ok (.value (.bool false)) w := by
  have h2 := decide_eq_false h
  simp only [execOp, hop, hx, hy]
  go_simp
  first | done | omega
theorem run_gtrF (hop : o.op = .binOp .gtr 3 x y 3) {A B : Int} (hx : a.eval x = .int .i64 A) (hy : a.eval y = .int .i64 B) (h : ¬ B < A) : (execOp a.eval o).run Tryd.prog w = .ok (.value (.bool false)) w := by
  have h2 := decide_eq_false h
  simp only [execOp, hop, hx, hy]
  go_simp
  first | done | omega
theorem run_pickF (hop : o.op = .pick x y z) {v : Value} (hx : a.eval x = .bool false) (hz : a.eval z = v) : (execOp a.eval o).run Tryd.prog w = .ok (.value v) w := by
  simp only [execOp, hop, hx, hz]
  rfl
end
theorem enter32 : ∀ args w, (callFunc 32 args).run Tryd.prog w = .ok (.enter 32 args) w := enters_of Tryd.func32 (by kernel_rfl) rfl

@[reducible] def ta0 : Oper := { dst := some 161, op := Op.fieldAddr 53 (Operand.tmp 22) 1, type := 0, pos := "outright.go:41", after := #[], guard := none }
@[reducible] def ta1 : Oper := { dst := some 162, op := Op.load 28 (Operand.tmp 161), type := 28, pos := "outright.go:41", after := #[{ on := 0, ground := Ground.data }], guard := none }
@[reducible] def ta2 : Oper := { dst := some 163, op := Op.move (Operand.tmp 3), type := 46, pos := "outright.go:41", after := #[], guard := none }
@[reducible] def ta3 : Oper := { dst := some 164, op := Op.move (Operand.tmp 21), type := 3, pos := "outright.go:41", after := #[], guard := none }
@[reducible] def ta4 : Oper := { dst := some 165, op := Op.move (Operand.tmp 3), type := 46, pos := "outright.go:41", after := #[], guard := none }
@[reducible] def ta5 : Oper := { dst := some 166, op := Op.call { callee := Callee.builtin Builtin.len, args := #[Operand.tmp 165], argTypes := #[46] }, type := 3, pos := "outright.go:41", after := #[{ on := 4, ground := Ground.data }], guard := none }
@[reducible] def ta6 : Oper := { dst := some 167, op := Op.binOp BinOp.rem 3 (Operand.tmp 164) (Operand.tmp 166) 3, type := 3, pos := "outright.go:41", after := #[{ on := 3, ground := Ground.data }, { on := 5, ground := Ground.data }], guard := none }
@[reducible] def ta7 : Oper := { dst := some 168, op := Op.indexAddr 46 (Operand.tmp 163) (Operand.tmp 167), type := 0, pos := "outright.go:41", after := #[{ on := 2, ground := Ground.data }, { on := 6, ground := Ground.data }], guard := none }
@[reducible] def ta8 : Oper := { dst := some 169, op := Op.load 55 (Operand.tmp 168), type := 55, pos := "outright.go:41", after := #[{ on := 7, ground := Ground.data }], guard := none }
@[reducible] def ta9 : Oper := { dst := some 170, op := Op.call { callee := Callee.value (Operand.func 32), args := #[Operand.tmp 162, Operand.tmp 169], argTypes := #[28, 55] }, type := 3, pos := "outright.go:41", after := #[{ on := 1, ground := Ground.data }, { on := 8, ground := Ground.data }], guard := none }
@[reducible] def ta10 : Oper := { dst := some 23, op := Op.assign (Operand.tmp 170), type := 3, pos := "outright.go:41", after := #[{ on := 9, ground := Ground.data }, { on := 9, ground := Ground.chain }, { on := 0, ground := Ground.phase }, { on := 1, ground := Ground.phase }, { on := 2, ground := Ground.phase }, { on := 3, ground := Ground.phase }, { on := 4, ground := Ground.phase }, { on := 5, ground := Ground.phase }, { on := 6, ground := Ground.phase }, { on := 7, ground := Ground.phase }, { on := 8, ground := Ground.phase }, { on := 9, ground := Ground.phase }], guard := none }
@[reducible] def taOps : List Oper := [ta0, ta1, ta2, ta3, ta4, ta5, ta6, ta7, ta8, ta9, ta10]
@[reducible] def taDs : List (Nat × Nat) := [(0, 161), (1, 162), (2, 163), (3, 164), (4, 165), (5, 166), (6, 167), (7, 168), (8, 169), (9, 170), (10, 23)]
theorem taB : lowB taOps = true := by kernel_rfl
theorem taOk : slotsB taOps taDs 278 = true := by decide +kernel
@[reducible] def taC (xb bb boff bn bcap j u b : Nat) (p q wr : Int) : Nat → Value := fun idx => ([Value.pointer (some ⟨xb, 2, none⟩), Value.agg #[.int .i64 p, .int .i64 q], Value.slice (some ⟨bb, boff, none⟩) bn bcap, Value.int .i64 (b), Value.slice (some ⟨bb, boff, none⟩) bn bcap, Value.int .i64 (bn), Value.int .i64 (j), Value.pointer (some ⟨bb, boff + j, none⟩), Value.int .u16 u, Value.int .i64 (wr), Value.int .i64 (wr)] : List Value).getD idx undef
theorem taG (xb bb boff bn bcap j u b : Nat) (p q wr : Int) : guardsC taOps (taC xb bb boff bn bcap j u b p q wr) = true := by kernel_rfl
set_option maxRecDepth 100000 in
set_option maxHeartbeats 4000000 in
theorem region_ta {rid : Nat} {Q : Exit → Act → World → Prop} {a0 : Act} {w : World} {xb bb boff bn bcap j u b : Nat} {p q wr : Int} (hsz : a0.tmps.size = 278) (x3 : a0.eval (.tmp 3) = Value.slice (some ⟨bb, boff, none⟩) bn bcap) (x21 : a0.eval (.tmp 21) = Value.int .i64 (b)) (x22 : a0.eval (.tmp 22) = Value.pointer (some ⟨xb, 0, none⟩))
    (F0 : ∀ W', Mod noB w W' → W'.cell? ⟨xb, 2, none⟩ = some (.int .i64 p)) (F1 : ∀ W', Mod noB w W' → W'.cell? ⟨xb, 3, none⟩ = some (.int .i64 q)) (FR : ∀ W', Mod noB w W' → W'.cell? ⟨bb, boff + j, none⟩ = some (.int .u16 u)) (HC : ∀ W, Calls Tryd.prog 32 #[spV (p, q), .int .u16 u] W fun e w' => e = .returned (.int .i64 wr) ∧ Mod noB W w') (hne : ¬ bn = 0) (hj : j < bn) (hj9 : j ≤ 100) (hrm : Int.tmod (b : Int) (bn : Int) = (j : Int)) (hb : b ≤ 10)
    (hend : ∀ w', Mod noB w w' → Q .normal (taDs.foldl (fun a x => a.put (some x.2) (taC xb bb boff bn bcap j u b p q wr x.1)) a0) w') : (Code.region rid taOps.toArray true).wp Tryd.prog Q a0 w := by
  refine region_known taB taDs hsz taOk (taC xb bb boff bn bcap j u b p q wr) (taG xb bb boff bn bcap j u b p q wr) ?_ hend
  intro i o ρ w' hi ho hM kn far
  have hlt : i < 11 := hi
  rcases (by omega : i = 0 ∨ i = 1 ∨ i = 2 ∨ i = 3 ∨ i = 4 ∨ i = 5 ∨ i = 6 ∨ i = 7 ∨ i = 8 ∨ i = 9 ∨ i = 10) with rfl | rfl | rfl | rfl | rfl | rfl | rfl | rfl | rfl | rfl | rfl
  all_goals (obtain rfl := Option.some.inj ho)
  · have e22 : ρ.eval (.tmp 22) = Value.pointer (some ⟨xb, 0, none⟩) := (far 22 (by decide +kernel)).trans x22
    refine step_run rfl (Value.pointer (some ⟨xb, 2, none⟩)) _ ?_ ⟨rfl, Mod.refl _ _⟩
    simp only [execOp, e22]
    go_simp
  · have e161 : ρ.eval (.tmp 161) = Value.pointer (some ⟨xb, 2, none⟩) := kn 0 161 (by decide +kernel) (by decide +kernel)
    have c0 := F0 _ hM
    have c1 := F1 _ hM
    refine step_run rfl (Value.agg #[.int .i64 p, .int .i64 q]) _ ?_ ⟨rfl, Mod.refl _ _⟩
    simp only [execOp, e161]
    go_simp
  · have e3 : ρ.eval (.tmp 3) = Value.slice (some ⟨bb, boff, none⟩) bn bcap := (far 3 (by decide +kernel)).trans x3
    exact step_run rfl _ _ (run_move rfl e3) ⟨rfl, Mod.refl _ _⟩
  · have e21 : ρ.eval (.tmp 21) = Value.int .i64 (b) := (far 21 (by decide +kernel)).trans x21
    exact step_run rfl _ _ (run_move rfl e21) ⟨rfl, Mod.refl _ _⟩
  · have e3 : ρ.eval (.tmp 3) = Value.slice (some ⟨bb, boff, none⟩) bn bcap := (far 3 (by decide +kernel)).trans x3
    exact step_run rfl _ _ (run_move rfl e3) ⟨rfl, Mod.refl _ _⟩
  · have e165 : ρ.eval (.tmp 165) = Value.slice (some ⟨bb, boff, none⟩) bn bcap := kn 4 165 (by decide +kernel) (by decide +kernel)
    have q : ρ.tmps[165]?.getD undef = Value.slice (some ⟨bb, boff, none⟩) bn bcap := by simpa [Act.eval] using e165
    refine step_run rfl (Value.int .i64 (bn)) _ ?_ ⟨rfl, Mod.refl _ _⟩
    simp only [execOp]
    go_simp
  · have e164 : ρ.eval (.tmp 164) = Value.int .i64 (b) := kn 3 164 (by decide +kernel) (by decide +kernel)
    have e166 : ρ.eval (.tmp 166) = Value.int .i64 (bn) := kn 5 166 (by decide +kernel) (by decide +kernel)
    exact step_run rfl _ _ (run_remN rfl e164 e166 hne hrm (by omega)) ⟨rfl, Mod.refl _ _⟩
  · have e163 : ρ.eval (.tmp 163) = Value.slice (some ⟨bb, boff, none⟩) bn bcap := kn 2 163 (by decide +kernel) (by decide +kernel)
    have e167 : ρ.eval (.tmp 167) = Value.int .i64 (j) := kn 6 167 (by decide +kernel) (by decide +kernel)
    exact step_run rfl _ _ (run_idx46 rfl e163 e167 hj) ⟨rfl, Mod.refl _ _⟩
  · have e168 : ρ.eval (.tmp 168) = Value.pointer (some ⟨bb, boff + j, none⟩) := kn 7 168 (by decide +kernel) (by decide +kernel)
    have c := FR _ hM
    refine step_run rfl (Value.int .u16 u) _ ?_ ⟨rfl, Mod.refl _ _⟩
    simp only [execOp, e168]
    go_simp
  · have e162 : ρ.eval (.tmp 162) = Value.agg #[.int .i64 p, .int .i64 q] := kn 1 162 (by decide +kernel) (by decide +kernel)
    have e169 : ρ.eval (.tmp 169) = Value.int .u16 u := kn 8 169 (by decide +kernel) (by decide +kernel)
    refine step_call rfl 32 _ _ rfl enter32 ?_
    simp only [List.map_toArray, List.map_cons, List.map_nil, e162, e169]
    refine (HC w').mono ?_
    rintro e w2 ⟨h1, h2⟩
    exact ⟨_, h1, rfl, h2⟩
  · have e170 : ρ.eval (.tmp 170) = Value.int .i64 (wr) := kn 9 170 (by decide +kernel) (by decide +kernel)
    exact step_run rfl _ _ (run_assign rfl e170) ⟨rfl, Mod.refl _ _⟩

@[reducible] def tb0 : Oper := { dst := some 171, op := Op.fieldAddr 53 (Operand.tmp 22) 0, type := 0, pos := "outright.go:42", after := #[], guard := none }
@[reducible] def tb1 : Oper := { dst := some 172, op := Op.load 28 (Operand.tmp 171), type := 28, pos := "outright.go:42", after := #[{ on := 0, ground := Ground.data }], guard := none }
@[reducible] def tb2 : Oper := { dst := some 173, op := Op.move (Operand.tmp 3), type := 46, pos := "outright.go:42", after := #[], guard := none }
@[reducible] def tb3 : Oper := { dst := some 174, op := Op.move (Operand.tmp 21), type := 3, pos := "outright.go:42", after := #[], guard := none }
@[reducible] def tb4 : Oper := { dst := some 175, op := Op.binOp BinOp.add 3 (Operand.tmp 174) (Operand.const (Value.int IntKind.i64 1)) 3, type := 3, pos := "outright.go:42", after := #[{ on := 3, ground := Ground.data }], guard := none }
@[reducible] def tb5 : Oper := { dst := some 176, op := Op.move (Operand.tmp 3), type := 46, pos := "outright.go:42", after := #[], guard := none }
@[reducible] def tb6 : Oper := { dst := some 177, op := Op.call { callee := Callee.builtin Builtin.len, args := #[Operand.tmp 176], argTypes := #[46] }, type := 3, pos := "outright.go:42", after := #[{ on := 5, ground := Ground.data }], guard := none }
@[reducible] def tb7 : Oper := { dst := some 178, op := Op.binOp BinOp.rem 3 (Operand.tmp 175) (Operand.tmp 177) 3, type := 3, pos := "outright.go:42", after := #[{ on := 4, ground := Ground.data }, { on := 6, ground := Ground.data }], guard := none }
@[reducible] def tb8 : Oper := { dst := some 179, op := Op.indexAddr 46 (Operand.tmp 173) (Operand.tmp 178), type := 0, pos := "outright.go:42", after := #[{ on := 2, ground := Ground.data }, { on := 7, ground := Ground.data }], guard := none }
@[reducible] def tb9 : Oper := { dst := some 180, op := Op.load 55 (Operand.tmp 179), type := 55, pos := "outright.go:42", after := #[{ on := 8, ground := Ground.data }], guard := none }
@[reducible] def tb10 : Oper := { dst := some 181, op := Op.call { callee := Callee.value (Operand.func 32), args := #[Operand.tmp 172, Operand.tmp 180], argTypes := #[28, 55] }, type := 3, pos := "outright.go:42", after := #[{ on := 1, ground := Ground.data }, { on := 9, ground := Ground.data }], guard := none }
@[reducible] def tb11 : Oper := { dst := some 24, op := Op.assign (Operand.tmp 181), type := 3, pos := "outright.go:42", after := #[{ on := 10, ground := Ground.data }, { on := 10, ground := Ground.chain }, { on := 0, ground := Ground.phase }, { on := 1, ground := Ground.phase }, { on := 2, ground := Ground.phase }, { on := 3, ground := Ground.phase }, { on := 4, ground := Ground.phase }, { on := 5, ground := Ground.phase }, { on := 6, ground := Ground.phase }, { on := 7, ground := Ground.phase }, { on := 8, ground := Ground.phase }, { on := 9, ground := Ground.phase }, { on := 10, ground := Ground.phase }], guard := none }
@[reducible] def tb12 : Oper := { dst := some 25, op := Op.assign (Operand.const (Value.int IntKind.i64 0)), type := 3, pos := "outright.go:42", after := #[{ on := 11, ground := Ground.chain }, { on := 0, ground := Ground.phase }, { on := 1, ground := Ground.phase }, { on := 2, ground := Ground.phase }, { on := 3, ground := Ground.phase }, { on := 4, ground := Ground.phase }, { on := 5, ground := Ground.phase }, { on := 6, ground := Ground.phase }, { on := 7, ground := Ground.phase }, { on := 8, ground := Ground.phase }, { on := 9, ground := Ground.phase }, { on := 10, ground := Ground.phase }, { on := 11, ground := Ground.phase }], guard := none }
@[reducible] def tbOps : List Oper := [tb0, tb1, tb2, tb3, tb4, tb5, tb6, tb7, tb8, tb9, tb10, tb11, tb12]
@[reducible] def tbDs : List (Nat × Nat) := [(0, 171), (1, 172), (2, 173), (3, 174), (4, 175), (5, 176), (6, 177), (7, 178), (8, 179), (9, 180), (10, 181), (11, 24), (12, 25)]
theorem tbB : lowB tbOps = true := by kernel_rfl
theorem tbOk : slotsB tbOps tbDs 278 = true := by decide +kernel
@[reducible] def tbC (xb bb boff bn bcap j u b : Nat) (p q wr : Int) : Nat → Value := fun idx => ([Value.pointer (some ⟨xb, 0, none⟩), Value.agg #[.int .i64 p, .int .i64 q], Value.slice (some ⟨bb, boff, none⟩) bn bcap, Value.int .i64 (b), Value.int .i64 ((b : Int) + 1), Value.slice (some ⟨bb, boff, none⟩) bn bcap, Value.int .i64 (bn), Value.int .i64 (j), Value.pointer (some ⟨bb, boff + j, none⟩), Value.int .u16 u, Value.int .i64 (wr), Value.int .i64 (wr), Value.int .i64 (0)] : List Value).getD idx undef
theorem tbG (xb bb boff bn bcap j u b : Nat) (p q wr : Int) : guardsC tbOps (tbC xb bb boff bn bcap j u b p q wr) = true := by kernel_rfl
set_option maxRecDepth 100000 in
set_option maxHeartbeats 4000000 in
theorem region_tb {rid : Nat} {Q : Exit → Act → World → Prop} {a0 : Act} {w : World} {xb bb boff bn bcap j u b : Nat} {p q wr : Int} (hsz : a0.tmps.size = 278) (x3 : a0.eval (.tmp 3) = Value.slice (some ⟨bb, boff, none⟩) bn bcap) (x21 : a0.eval (.tmp 21) = Value.int .i64 (b)) (x22 : a0.eval (.tmp 22) = Value.pointer (some ⟨xb, 0, none⟩))
    (F0 : ∀ W', Mod noB w W' → W'.cell? ⟨xb, 0, none⟩ = some (.int .i64 p)) (F1 : ∀ W', Mod noB w W' → W'.cell? ⟨xb, 1, none⟩ = some (.int .i64 q)) (FR : ∀ W', Mod noB w W' → W'.cell? ⟨bb, boff + j, none⟩ = some (.int .u16 u)) (HC : ∀ W, Calls Tryd.prog 32 #[spV (p, q), .int .u16 u] W fun e w' => e = .returned (.int .i64 wr) ∧ Mod noB W w') (hne : ¬ bn = 0) (hj : j < bn) (hj9 : j ≤ 100) (hrm : Int.tmod ((b : Int) + 1) (bn : Int) = (j : Int)) (hb : b ≤ 10)
    (hend : ∀ w', Mod noB w w' → Q .normal (tbDs.foldl (fun a x => a.put (some x.2) (tbC xb bb boff bn bcap j u b p q wr x.1)) a0) w') : (Code.region rid tbOps.toArray true).wp Tryd.prog Q a0 w := by
  refine region_known tbB tbDs hsz tbOk (tbC xb bb boff bn bcap j u b p q wr) (tbG xb bb boff bn bcap j u b p q wr) ?_ hend
  intro i o ρ w' hi ho hM kn far
  have hlt : i < 13 := hi
  rcases (by omega : i = 0 ∨ i = 1 ∨ i = 2 ∨ i = 3 ∨ i = 4 ∨ i = 5 ∨ i = 6 ∨ i = 7 ∨ i = 8 ∨ i = 9 ∨ i = 10 ∨ i = 11 ∨ i = 12) with rfl | rfl | rfl | rfl | rfl | rfl | rfl | rfl | rfl | rfl | rfl | rfl | rfl
  all_goals (obtain rfl := Option.some.inj ho)
  · have e22 : ρ.eval (.tmp 22) = Value.pointer (some ⟨xb, 0, none⟩) := (far 22 (by decide +kernel)).trans x22
    refine step_run rfl (Value.pointer (some ⟨xb, 0, none⟩)) _ ?_ ⟨rfl, Mod.refl _ _⟩
    simp only [execOp, e22]
    go_simp
  · have e171 : ρ.eval (.tmp 171) = Value.pointer (some ⟨xb, 0, none⟩) := kn 0 171 (by decide +kernel) (by decide +kernel)
    have c0 := F0 _ hM
    have c1 := F1 _ hM
    refine step_run rfl (Value.agg #[.int .i64 p, .int .i64 q]) _ ?_ ⟨rfl, Mod.refl _ _⟩
    simp only [execOp, e171]
    go_simp
  · have e3 : ρ.eval (.tmp 3) = Value.slice (some ⟨bb, boff, none⟩) bn bcap := (far 3 (by decide +kernel)).trans x3
    exact step_run rfl _ _ (run_move rfl e3) ⟨rfl, Mod.refl _ _⟩
  · have e21 : ρ.eval (.tmp 21) = Value.int .i64 (b) := (far 21 (by decide +kernel)).trans x21
    exact step_run rfl _ _ (run_move rfl e21) ⟨rfl, Mod.refl _ _⟩
  · have e174 : ρ.eval (.tmp 174) = Value.int .i64 (b) := kn 3 174 (by decide +kernel) (by decide +kernel)
    exact step_run rfl _ _ (run_add rfl e174 rfl rfl (by omega) (by omega)) ⟨rfl, Mod.refl _ _⟩
  · have e3 : ρ.eval (.tmp 3) = Value.slice (some ⟨bb, boff, none⟩) bn bcap := (far 3 (by decide +kernel)).trans x3
    exact step_run rfl _ _ (run_move rfl e3) ⟨rfl, Mod.refl _ _⟩
  · have e176 : ρ.eval (.tmp 176) = Value.slice (some ⟨bb, boff, none⟩) bn bcap := kn 5 176 (by decide +kernel) (by decide +kernel)
    have q : ρ.tmps[176]?.getD undef = Value.slice (some ⟨bb, boff, none⟩) bn bcap := by simpa [Act.eval] using e176
    refine step_run rfl (Value.int .i64 (bn)) _ ?_ ⟨rfl, Mod.refl _ _⟩
    simp only [execOp]
    go_simp
  · have e175 : ρ.eval (.tmp 175) = Value.int .i64 ((b : Int) + 1) := kn 4 175 (by decide +kernel) (by decide +kernel)
    have e177 : ρ.eval (.tmp 177) = Value.int .i64 (bn) := kn 6 177 (by decide +kernel) (by decide +kernel)
    exact step_run rfl _ _ (run_remN rfl e175 e177 hne hrm (by omega)) ⟨rfl, Mod.refl _ _⟩
  · have e173 : ρ.eval (.tmp 173) = Value.slice (some ⟨bb, boff, none⟩) bn bcap := kn 2 173 (by decide +kernel) (by decide +kernel)
    have e178 : ρ.eval (.tmp 178) = Value.int .i64 (j) := kn 7 178 (by decide +kernel) (by decide +kernel)
    exact step_run rfl _ _ (run_idx46 rfl e173 e178 hj) ⟨rfl, Mod.refl _ _⟩
  · have e179 : ρ.eval (.tmp 179) = Value.pointer (some ⟨bb, boff + j, none⟩) := kn 8 179 (by decide +kernel) (by decide +kernel)
    have c := FR _ hM
    refine step_run rfl (Value.int .u16 u) _ ?_ ⟨rfl, Mod.refl _ _⟩
    simp only [execOp, e179]
    go_simp
  · have e172 : ρ.eval (.tmp 172) = Value.agg #[.int .i64 p, .int .i64 q] := kn 1 172 (by decide +kernel) (by decide +kernel)
    have e180 : ρ.eval (.tmp 180) = Value.int .u16 u := kn 9 180 (by decide +kernel) (by decide +kernel)
    refine step_call rfl 32 _ _ rfl enter32 ?_
    simp only [List.map_toArray, List.map_cons, List.map_nil, e172, e180]
    refine (HC w').mono ?_
    rintro e w2 ⟨h1, h2⟩
    exact ⟨_, h1, rfl, h2⟩
  · have e181 : ρ.eval (.tmp 181) = Value.int .i64 (wr) := kn 10 181 (by decide +kernel) (by decide +kernel)
    exact step_run rfl _ _ (run_assign rfl e181) ⟨rfl, Mod.refl _ _⟩
  · exact step_run rfl _ _ (run_assign rfl rfl) ⟨rfl, Mod.refl _ _⟩

@[reducible] def tc0 : Oper := { dst := some 199, op := Op.fieldAddr 53 (Operand.tmp 22) 0, type := 0, pos := "outright.go:45", after := #[], guard := none }
@[reducible] def tc1 : Oper := { dst := some 200, op := Op.load 28 (Operand.tmp 199), type := 28, pos := "outright.go:45", after := #[{ on := 0, ground := Ground.data }], guard := none }
@[reducible] def tc2 : Oper := { dst := some 201, op := Op.move (Operand.tmp 3), type := 46, pos := "outright.go:45", after := #[], guard := none }
@[reducible] def tc3 : Oper := { dst := some 202, op := Op.move (Operand.tmp 21), type := 3, pos := "outright.go:45", after := #[], guard := none }
@[reducible] def tc4 : Oper := { dst := some 203, op := Op.move (Operand.tmp 26), type := 3, pos := "outright.go:45", after := #[], guard := none }
@[reducible] def tc5 : Oper := { dst := some 204, op := Op.binOp BinOp.add 3 (Operand.tmp 202) (Operand.tmp 203) 3, type := 3, pos := "outright.go:45", after := #[{ on := 3, ground := Ground.data }, { on := 4, ground := Ground.data }], guard := none }
@[reducible] def tc6 : Oper := { dst := some 205, op := Op.binOp BinOp.add 3 (Operand.tmp 204) (Operand.const (Value.int IntKind.i64 2)) 3, type := 3, pos := "outright.go:45", after := #[{ on := 5, ground := Ground.data }], guard := none }
@[reducible] def tc7 : Oper := { dst := some 206, op := Op.move (Operand.tmp 3), type := 46, pos := "outright.go:45", after := #[], guard := none }
@[reducible] def tc8 : Oper := { dst := some 207, op := Op.call { callee := Callee.builtin Builtin.len, args := #[Operand.tmp 206], argTypes := #[46] }, type := 3, pos := "outright.go:45", after := #[{ on := 7, ground := Ground.data }], guard := none }
@[reducible] def tc9 : Oper := { dst := some 208, op := Op.binOp BinOp.rem 3 (Operand.tmp 205) (Operand.tmp 207) 3, type := 3, pos := "outright.go:45", after := #[{ on := 6, ground := Ground.data }, { on := 8, ground := Ground.data }], guard := none }
@[reducible] def tc10 : Oper := { dst := some 209, op := Op.indexAddr 46 (Operand.tmp 201) (Operand.tmp 208), type := 0, pos := "outright.go:45", after := #[{ on := 2, ground := Ground.data }, { on := 9, ground := Ground.data }], guard := none }
@[reducible] def tc11 : Oper := { dst := some 210, op := Op.load 55 (Operand.tmp 209), type := 55, pos := "outright.go:45", after := #[{ on := 10, ground := Ground.data }], guard := none }
@[reducible] def tc12 : Oper := { dst := some 211, op := Op.call { callee := Callee.value (Operand.func 32), args := #[Operand.tmp 200, Operand.tmp 210], argTypes := #[28, 55] }, type := 3, pos := "outright.go:45", after := #[{ on := 1, ground := Ground.data }, { on := 11, ground := Ground.data }], guard := none }
@[reducible] def tc13 : Oper := { dst := some 24, op := Op.assign (Operand.tmp 211), type := 3, pos := "outright.go:45", after := #[{ on := 12, ground := Ground.data }, { on := 12, ground := Ground.chain }, { on := 0, ground := Ground.phase }, { on := 1, ground := Ground.phase }, { on := 2, ground := Ground.phase }, { on := 3, ground := Ground.phase }, { on := 4, ground := Ground.phase }, { on := 5, ground := Ground.phase }, { on := 6, ground := Ground.phase }, { on := 7, ground := Ground.phase }, { on := 8, ground := Ground.phase }, { on := 9, ground := Ground.phase }, { on := 10, ground := Ground.phase }, { on := 11, ground := Ground.phase }, { on := 12, ground := Ground.phase }], guard := none }
@[reducible] def tc14 : Oper := { dst := some 25, op := Op.assign (Operand.const (Value.int IntKind.i64 0)), type := 3, pos := "outright.go:45", after := #[{ on := 13, ground := Ground.chain }, { on := 0, ground := Ground.phase }, { on := 1, ground := Ground.phase }, { on := 2, ground := Ground.phase }, { on := 3, ground := Ground.phase }, { on := 4, ground := Ground.phase }, { on := 5, ground := Ground.phase }, { on := 6, ground := Ground.phase }, { on := 7, ground := Ground.phase }, { on := 8, ground := Ground.phase }, { on := 9, ground := Ground.phase }, { on := 10, ground := Ground.phase }, { on := 11, ground := Ground.phase }, { on := 12, ground := Ground.phase }, { on := 13, ground := Ground.phase }], guard := none }
@[reducible] def tcOps : List Oper := [tc0, tc1, tc2, tc3, tc4, tc5, tc6, tc7, tc8, tc9, tc10, tc11, tc12, tc13, tc14]
@[reducible] def tcDs : List (Nat × Nat) := [(0, 199), (1, 200), (2, 201), (3, 202), (4, 203), (5, 204), (6, 205), (7, 206), (8, 207), (9, 208), (10, 209), (11, 210), (12, 211), (13, 24), (14, 25)]
theorem tcB : lowB tcOps = true := by kernel_rfl
theorem tcOk : slotsB tcOps tcDs 278 = true := by decide +kernel
@[reducible] def tcC (xb bb boff bn bcap j u b s : Nat) (p q wr : Int) : Nat → Value := fun idx => ([Value.pointer (some ⟨xb, 0, none⟩), Value.agg #[.int .i64 p, .int .i64 q], Value.slice (some ⟨bb, boff, none⟩) bn bcap, Value.int .i64 (b), Value.int .i64 (s), Value.int .i64 ((b : Int) + s), Value.int .i64 ((b : Int) + s + 2), Value.slice (some ⟨bb, boff, none⟩) bn bcap, Value.int .i64 (bn), Value.int .i64 (j), Value.pointer (some ⟨bb, boff + j, none⟩), Value.int .u16 u, Value.int .i64 (wr), Value.int .i64 (wr), Value.int .i64 (0)] : List Value).getD idx undef
theorem tcG (xb bb boff bn bcap j u b s : Nat) (p q wr : Int) : guardsC tcOps (tcC xb bb boff bn bcap j u b s p q wr) = true := by kernel_rfl
set_option maxRecDepth 100000 in
set_option maxHeartbeats 4000000 in
theorem region_tc {rid : Nat} {Q : Exit → Act → World → Prop} {a0 : Act} {w : World} {xb bb boff bn bcap j u b s : Nat} {p q wr : Int} (hsz : a0.tmps.size = 278) (x3 : a0.eval (.tmp 3) = Value.slice (some ⟨bb, boff, none⟩) bn bcap) (x21 : a0.eval (.tmp 21) = Value.int .i64 (b)) (x22 : a0.eval (.tmp 22) = Value.pointer (some ⟨xb, 0, none⟩)) (x26 : a0.eval (.tmp 26) = Value.int .i64 (s))
    (F0 : ∀ W', Mod noB w W' → W'.cell? ⟨xb, 0, none⟩ = some (.int .i64 p)) (F1 : ∀ W', Mod noB w W' → W'.cell? ⟨xb, 1, none⟩ = some (.int .i64 q)) (FR : ∀ W', Mod noB w W' → W'.cell? ⟨bb, boff + j, none⟩ = some (.int .u16 u)) (HC : ∀ W, Calls Tryd.prog 32 #[spV (p, q), .int .u16 u] W fun e w' => e = .returned (.int .i64 wr) ∧ Mod noB W w') (hne : ¬ bn = 0) (hj : j < bn) (hj9 : j ≤ 100) (hrm : Int.tmod ((b : Int) + (s : Int) + 2) (bn : Int) = (j : Int)) (hb : b ≤ 10) (hs : s ≤ 10)
    (hend : ∀ w', Mod noB w w' → Q .normal (tcDs.foldl (fun a x => a.put (some x.2) (tcC xb bb boff bn bcap j u b s p q wr x.1)) a0) w') : (Code.region rid tcOps.toArray true).wp Tryd.prog Q a0 w := by
  refine region_known tcB tcDs hsz tcOk (tcC xb bb boff bn bcap j u b s p q wr) (tcG xb bb boff bn bcap j u b s p q wr) ?_ hend
  intro i o ρ w' hi ho hM kn far
  have hlt : i < 15 := hi
  rcases (by omega : i = 0 ∨ i = 1 ∨ i = 2 ∨ i = 3 ∨ i = 4 ∨ i = 5 ∨ i = 6 ∨ i = 7 ∨ i = 8 ∨ i = 9 ∨ i = 10 ∨ i = 11 ∨ i = 12 ∨ i = 13 ∨ i = 14) with rfl | rfl | rfl | rfl | rfl | rfl | rfl | rfl | rfl | rfl | rfl | rfl | rfl | rfl | rfl
  all_goals (obtain rfl := Option.some.inj ho)
  · have e22 : ρ.eval (.tmp 22) = Value.pointer (some ⟨xb, 0, none⟩) := (far 22 (by decide +kernel)).trans x22
    refine step_run rfl (Value.pointer (some ⟨xb, 0, none⟩)) _ ?_ ⟨rfl, Mod.refl _ _⟩
    simp only [execOp, e22]
    go_simp
  · have e199 : ρ.eval (.tmp 199) = Value.pointer (some ⟨xb, 0, none⟩) := kn 0 199 (by decide +kernel) (by decide +kernel)
    have c0 := F0 _ hM
    have c1 := F1 _ hM
    refine step_run rfl (Value.agg #[.int .i64 p, .int .i64 q]) _ ?_ ⟨rfl, Mod.refl _ _⟩
    simp only [execOp, e199]
    go_simp
  · have e3 : ρ.eval (.tmp 3) = Value.slice (some ⟨bb, boff, none⟩) bn bcap := (far 3 (by decide +kernel)).trans x3
    exact step_run rfl _ _ (run_move rfl e3) ⟨rfl, Mod.refl _ _⟩
  · have e21 : ρ.eval (.tmp 21) = Value.int .i64 (b) := (far 21 (by decide +kernel)).trans x21
    exact step_run rfl _ _ (run_move rfl e21) ⟨rfl, Mod.refl _ _⟩
  · have e26 : ρ.eval (.tmp 26) = Value.int .i64 (s) := (far 26 (by decide +kernel)).trans x26
    exact step_run rfl _ _ (run_move rfl e26) ⟨rfl, Mod.refl _ _⟩
  · have e202 : ρ.eval (.tmp 202) = Value.int .i64 (b) := kn 3 202 (by decide +kernel) (by decide +kernel)
    have e203 : ρ.eval (.tmp 203) = Value.int .i64 (s) := kn 4 203 (by decide +kernel) (by decide +kernel)
    exact step_run rfl _ _ (run_add rfl e202 e203 rfl (by omega) (by omega)) ⟨rfl, Mod.refl _ _⟩
  · have e204 : ρ.eval (.tmp 204) = Value.int .i64 ((b : Int) + s) := kn 5 204 (by decide +kernel) (by decide +kernel)
    exact step_run rfl _ _ (run_add rfl e204 rfl rfl (by omega) (by omega)) ⟨rfl, Mod.refl _ _⟩
  · have e3 : ρ.eval (.tmp 3) = Value.slice (some ⟨bb, boff, none⟩) bn bcap := (far 3 (by decide +kernel)).trans x3
    exact step_run rfl _ _ (run_move rfl e3) ⟨rfl, Mod.refl _ _⟩
  · have e206 : ρ.eval (.tmp 206) = Value.slice (some ⟨bb, boff, none⟩) bn bcap := kn 7 206 (by decide +kernel) (by decide +kernel)
    have q : ρ.tmps[206]?.getD undef = Value.slice (some ⟨bb, boff, none⟩) bn bcap := by simpa [Act.eval] using e206
    refine step_run rfl (Value.int .i64 (bn)) _ ?_ ⟨rfl, Mod.refl _ _⟩
    simp only [execOp]
    go_simp
  · have e205 : ρ.eval (.tmp 205) = Value.int .i64 ((b : Int) + s + 2) := kn 6 205 (by decide +kernel) (by decide +kernel)
    have e207 : ρ.eval (.tmp 207) = Value.int .i64 (bn) := kn 8 207 (by decide +kernel) (by decide +kernel)
    exact step_run rfl _ _ (run_remN rfl e205 e207 hne hrm (by omega)) ⟨rfl, Mod.refl _ _⟩
  · have e201 : ρ.eval (.tmp 201) = Value.slice (some ⟨bb, boff, none⟩) bn bcap := kn 2 201 (by decide +kernel) (by decide +kernel)
    have e208 : ρ.eval (.tmp 208) = Value.int .i64 (j) := kn 9 208 (by decide +kernel) (by decide +kernel)
    exact step_run rfl _ _ (run_idx46 rfl e201 e208 hj) ⟨rfl, Mod.refl _ _⟩
  · have e209 : ρ.eval (.tmp 209) = Value.pointer (some ⟨bb, boff + j, none⟩) := kn 10 209 (by decide +kernel) (by decide +kernel)
    have c := FR _ hM
    refine step_run rfl (Value.int .u16 u) _ ?_ ⟨rfl, Mod.refl _ _⟩
    simp only [execOp, e209]
    go_simp
  · have e200 : ρ.eval (.tmp 200) = Value.agg #[.int .i64 p, .int .i64 q] := kn 1 200 (by decide +kernel) (by decide +kernel)
    have e210 : ρ.eval (.tmp 210) = Value.int .u16 u := kn 11 210 (by decide +kernel) (by decide +kernel)
    refine step_call rfl 32 _ _ rfl enter32 ?_
    simp only [List.map_toArray, List.map_cons, List.map_nil, e200, e210]
    refine (HC w').mono ?_
    rintro e w2 ⟨h1, h2⟩
    exact ⟨_, h1, rfl, h2⟩
  · have e211 : ρ.eval (.tmp 211) = Value.int .i64 (wr) := kn 12 211 (by decide +kernel) (by decide +kernel)
    exact step_run rfl _ _ (run_assign rfl e211) ⟨rfl, Mod.refl _ _⟩
  · exact step_run rfl _ _ (run_assign rfl rfl) ⟨rfl, Mod.refl _ _⟩

@[reducible] def td0 : Oper := { dst := some 212, op := Op.move (Operand.tmp 25), type := 3, pos := "outright.go:47", after := #[], guard := none }
@[reducible] def td1 : Oper := { dst := some 213, op := Op.move (Operand.tmp 3), type := 46, pos := "outright.go:47", after := #[], guard := none }
@[reducible] def td2 : Oper := { dst := some 214, op := Op.move (Operand.tmp 21), type := 3, pos := "outright.go:47", after := #[], guard := none }
@[reducible] def td3 : Oper := { dst := some 215, op := Op.binOp BinOp.mul 3 (Operand.const (Value.int IntKind.i64 3)) (Operand.tmp 214) 3, type := 3, pos := "outright.go:47", after := #[{ on := 2, ground := Ground.data }], guard := none }
@[reducible] def td4 : Oper := { dst := some 216, op := Op.move (Operand.tmp 26), type := 3, pos := "outright.go:47", after := #[], guard := none }
@[reducible] def td5 : Oper := { dst := some 217, op := Op.binOp BinOp.add 3 (Operand.tmp 215) (Operand.tmp 216) 3, type := 3, pos := "outright.go:47", after := #[{ on := 3, ground := Ground.data }, { on := 4, ground := Ground.data }], guard := none }
@[reducible] def td6 : Oper := { dst := some 218, op := Op.move (Operand.tmp 3), type := 46, pos := "outright.go:47", after := #[], guard := none }
@[reducible] def td7 : Oper := { dst := some 219, op := Op.call { callee := Callee.builtin Builtin.len, args := #[Operand.tmp 218], argTypes := #[46] }, type := 3, pos := "outright.go:47", after := #[{ on := 6, ground := Ground.data }], guard := none }
@[reducible] def td8 : Oper := { dst := some 220, op := Op.binOp BinOp.rem 3 (Operand.tmp 217) (Operand.tmp 219) 3, type := 3, pos := "outright.go:47", after := #[{ on := 5, ground := Ground.data }, { on := 7, ground := Ground.data }], guard := none }
@[reducible] def td9 : Oper := { dst := some 221, op := Op.indexAddr 46 (Operand.tmp 213) (Operand.tmp 220), type := 0, pos := "outright.go:47", after := #[{ on := 1, ground := Ground.data }, { on := 8, ground := Ground.data }], guard := none }
@[reducible] def td10 : Oper := { dst := some 222, op := Op.load 55 (Operand.tmp 221), type := 55, pos := "outright.go:47", after := #[{ on := 9, ground := Ground.data }], guard := none }
@[reducible] def td11 : Oper := { dst := some 223, op := Op.convert 55 3 (Operand.tmp 222), type := 3, pos := "outright.go:47", after := #[{ on := 10, ground := Ground.data }], guard := none }
@[reducible] def td12 : Oper := { dst := some 224, op := Op.move (Operand.tmp 1), type := 33, pos := "outright.go:47", after := #[], guard := none }
@[reducible] def td13 : Oper := { dst := some 225, op := Op.move (Operand.tmp 26), type := 3, pos := "outright.go:47", after := #[], guard := none }
@[reducible] def td14 : Oper := { dst := some 226, op := Op.indexAddr 33 (Operand.tmp 224) (Operand.tmp 225), type := 0, pos := "outright.go:47", after := #[{ on := 12, ground := Ground.data }, { on := 13, ground := Ground.data }], guard := none }
@[reducible] def td15 : Oper := { dst := some 227, op := Op.fieldAddr 58 (Operand.tmp 226) 0, type := 0, pos := "outright.go:47", after := #[{ on := 14, ground := Ground.data }], guard := none }
@[reducible] def td16 : Oper := { dst := some 228, op := Op.load 3 (Operand.tmp 227), type := 3, pos := "outright.go:47", after := #[{ on := 15, ground := Ground.data }], guard := none }
@[reducible] def td17 : Oper := { dst := some 229, op := Op.binOp BinOp.add 3 (Operand.tmp 228) (Operand.const (Value.int IntKind.i64 1)) 3, type := 3, pos := "outright.go:47", after := #[{ on := 16, ground := Ground.data }], guard := none }
@[reducible] def td18 : Oper := { dst := some 230, op := Op.binOp BinOp.rem 3 (Operand.tmp 223) (Operand.tmp 229) 3, type := 3, pos := "outright.go:47", after := #[{ on := 11, ground := Ground.data }, { on := 17, ground := Ground.data }], guard := none }
@[reducible] def td19 : Oper := { dst := some 231, op := Op.binOp BinOp.add 3 (Operand.tmp 212) (Operand.tmp 230) 3, type := 3, pos := "outright.go:47", after := #[{ on := 0, ground := Ground.data }, { on := 18, ground := Ground.data }], guard := none }
@[reducible] def td20 : Oper := { dst := some 27, op := Op.assign (Operand.tmp 231), type := 3, pos := "outright.go:47", after := #[{ on := 19, ground := Ground.data }, { on := 0, ground := Ground.phase }, { on := 1, ground := Ground.phase }, { on := 2, ground := Ground.phase }, { on := 3, ground := Ground.phase }, { on := 4, ground := Ground.phase }, { on := 5, ground := Ground.phase }, { on := 6, ground := Ground.phase }, { on := 7, ground := Ground.phase }, { on := 8, ground := Ground.phase }, { on := 9, ground := Ground.phase }, { on := 10, ground := Ground.phase }, { on := 11, ground := Ground.phase }, { on := 12, ground := Ground.phase }, { on := 13, ground := Ground.phase }, { on := 14, ground := Ground.phase }, { on := 15, ground := Ground.phase }, { on := 16, ground := Ground.phase }, { on := 17, ground := Ground.phase }, { on := 18, ground := Ground.phase }, { on := 19, ground := Ground.phase }], guard := none }
@[reducible] def tdOps : List Oper := [td0, td1, td2, td3, td4, td5, td6, td7, td8, td9, td10, td11, td12, td13, td14, td15, td16, td17, td18, td19, td20]
@[reducible] def tdDs : List (Nat × Nat) := [(0, 212), (1, 213), (2, 214), (3, 215), (4, 216), (5, 217), (6, 218), (7, 219), (8, 220), (9, 221), (10, 222), (11, 223), (12, 224), (13, 225), (14, 226), (15, 227), (16, 228), (17, 229), (18, 230), (19, 231), (20, 27)]
theorem tdB : lowB tdOps = true := by kernel_rfl
theorem tdOk : slotsB tdOps tdDs 278 = true := by decide +kernel
@[reducible] def tdC (bb boff bn bcap sb soff ln lcap j u b s m t4 : Nat) (rn st : Int) : Nat → Value := fun idx => ([Value.int .i64 (rn), Value.slice (some ⟨bb, boff, none⟩) bn bcap, Value.int .i64 (b), Value.int .i64 (3 * (b : Int)), Value.int .i64 (s), Value.int .i64 (3 * (b : Int) + s), Value.slice (some ⟨bb, boff, none⟩) bn bcap, Value.int .i64 (bn), Value.int .i64 (j), Value.pointer (some ⟨bb, boff + j, none⟩), Value.int .u16 u, Value.int .i64 (u), Value.slice (some ⟨sb, soff, none⟩) ln lcap, Value.int .i64 (s), Value.pointer (some ⟨sb, soff + s * 2, none⟩), Value.pointer (some ⟨sb, soff + s * 2, none⟩), Value.int .i64 (st), Value.int .i64 (m), Value.int .i64 (t4), Value.int .i64 (rn + (t4 : Int)), Value.int .i64 (rn + (t4 : Int))] : List Value).getD idx undef
theorem tdG (bb boff bn bcap sb soff ln lcap j u b s m t4 : Nat) (rn st : Int) : guardsC tdOps (tdC bb boff bn bcap sb soff ln lcap j u b s m t4 rn st) = true := by kernel_rfl
set_option maxRecDepth 100000 in
set_option maxHeartbeats 4000000 in
theorem region_td {rid : Nat} {Q : Exit → Act → World → Prop} {a0 : Act} {w : World} {bb boff bn bcap sb soff ln lcap j u b s m t4 : Nat} {rn st : Int} (hsz : a0.tmps.size = 278) (x1 : a0.eval (.tmp 1) = Value.slice (some ⟨sb, soff, none⟩) ln lcap) (x3 : a0.eval (.tmp 3) = Value.slice (some ⟨bb, boff, none⟩) bn bcap) (x21 : a0.eval (.tmp 21) = Value.int .i64 (b)) (x25 : a0.eval (.tmp 25) = Value.int .i64 (rn)) (x26 : a0.eval (.tmp 26) = Value.int .i64 (s))
    (FR : ∀ W', Mod noB w W' → W'.cell? ⟨bb, boff + j, none⟩ = some (.int .u16 u)) (FS : ∀ W', Mod noB w W' → W'.cell? ⟨sb, soff + s * 2, none⟩ = some (.int .i64 st)) (hne : ¬ bn = 0) (hj : j < bn) (hj9 : j ≤ 100) (hrm : Int.tmod (3 * (b : Int) + (s : Int)) (bn : Int) = (j : Int)) (hb : b ≤ 10) (hs : s ≤ 10) (hsl : s < ln) (hm : st + 1 = (m : Int)) (hm0 : ¬ m = 0) (hr2 : Int.tmod (u : Int) (m : Int) = (t4 : Int)) (hu : u ≤ 65535) (hst : 0 ≤ st ∧ st ≤ 1000) (hrn : 0 ≤ rn ∧ rn ≤ 6000) (ht : t4 < m)
    (hend : ∀ w', Mod noB w w' → Q .normal (tdDs.foldl (fun a x => a.put (some x.2) (tdC bb boff bn bcap sb soff ln lcap j u b s m t4 rn st x.1)) a0) w') : (Code.region rid tdOps.toArray true).wp Tryd.prog Q a0 w := by
  refine region_known tdB tdDs hsz tdOk (tdC bb boff bn bcap sb soff ln lcap j u b s m t4 rn st) (tdG bb boff bn bcap sb soff ln lcap j u b s m t4 rn st) ?_ hend
  intro i o ρ w' hi ho hM kn far
  have hlt : i < 21 := hi
  rcases (by omega : i = 0 ∨ i = 1 ∨ i = 2 ∨ i = 3 ∨ i = 4 ∨ i = 5 ∨ i = 6 ∨ i = 7 ∨ i = 8 ∨ i = 9 ∨ i = 10 ∨ i = 11 ∨ i = 12 ∨ i = 13 ∨ i = 14 ∨ i = 15 ∨ i = 16 ∨ i = 17 ∨ i = 18 ∨ i = 19 ∨ i = 20) with rfl | rfl | rfl | rfl | rfl | rfl | rfl | rfl | rfl | rfl | rfl | rfl | rfl | rfl | rfl | rfl | rfl | rfl | rfl | rfl | rfl
  all_goals (obtain rfl := Option.some.inj ho)
  · have e25 : ρ.eval (.tmp 25) = Value.int .i64 (rn) := (far 25 (by decide +kernel)).trans x25
    exact step_run rfl _ _ (run_move rfl e25) ⟨rfl, Mod.refl _ _⟩
  · have e3 : ρ.eval (.tmp 3) = Value.slice (some ⟨bb, boff, none⟩) bn bcap := (far 3 (by decide +kernel)).trans x3
    exact step_run rfl _ _ (run_move rfl e3) ⟨rfl, Mod.refl _ _⟩
  · have e21 : ρ.eval (.tmp 21) = Value.int .i64 (b) := (far 21 (by decide +kernel)).trans x21
    exact step_run rfl _ _ (run_move rfl e21) ⟨rfl, Mod.refl _ _⟩
  · have e214 : ρ.eval (.tmp 214) = Value.int .i64 (b) := kn 2 214 (by decide +kernel) (by decide +kernel)
    exact step_run rfl _ _ (run_mul rfl rfl e214 rfl (by omega) (by omega)) ⟨rfl, Mod.refl _ _⟩
  · have e26 : ρ.eval (.tmp 26) = Value.int .i64 (s) := (far 26 (by decide +kernel)).trans x26
    exact step_run rfl _ _ (run_move rfl e26) ⟨rfl, Mod.refl _ _⟩
  · have e215 : ρ.eval (.tmp 215) = Value.int .i64 (3 * (b : Int)) := kn 3 215 (by decide +kernel) (by decide +kernel)
    have e216 : ρ.eval (.tmp 216) = Value.int .i64 (s) := kn 4 216 (by decide +kernel) (by decide +kernel)
    exact step_run rfl _ _ (run_add rfl e215 e216 rfl (by omega) (by omega)) ⟨rfl, Mod.refl _ _⟩
  · have e3 : ρ.eval (.tmp 3) = Value.slice (some ⟨bb, boff, none⟩) bn bcap := (far 3 (by decide +kernel)).trans x3
    exact step_run rfl _ _ (run_move rfl e3) ⟨rfl, Mod.refl _ _⟩
  · have e218 : ρ.eval (.tmp 218) = Value.slice (some ⟨bb, boff, none⟩) bn bcap := kn 6 218 (by decide +kernel) (by decide +kernel)
    have q : ρ.tmps[218]?.getD undef = Value.slice (some ⟨bb, boff, none⟩) bn bcap := by simpa [Act.eval] using e218
    refine step_run rfl (Value.int .i64 (bn)) _ ?_ ⟨rfl, Mod.refl _ _⟩
    simp only [execOp]
    go_simp
  · have e217 : ρ.eval (.tmp 217) = Value.int .i64 (3 * (b : Int) + s) := kn 5 217 (by decide +kernel) (by decide +kernel)
    have e219 : ρ.eval (.tmp 219) = Value.int .i64 (bn) := kn 7 219 (by decide +kernel) (by decide +kernel)
    exact step_run rfl _ _ (run_remN rfl e217 e219 hne hrm (by omega)) ⟨rfl, Mod.refl _ _⟩
  · have e213 : ρ.eval (.tmp 213) = Value.slice (some ⟨bb, boff, none⟩) bn bcap := kn 1 213 (by decide +kernel) (by decide +kernel)
    have e220 : ρ.eval (.tmp 220) = Value.int .i64 (j) := kn 8 220 (by decide +kernel) (by decide +kernel)
    exact step_run rfl _ _ (run_idx46 rfl e213 e220 hj) ⟨rfl, Mod.refl _ _⟩
  · have e221 : ρ.eval (.tmp 221) = Value.pointer (some ⟨bb, boff + j, none⟩) := kn 9 221 (by decide +kernel) (by decide +kernel)
    have c := FR _ hM
    refine step_run rfl (Value.int .u16 u) _ ?_ ⟨rfl, Mod.refl _ _⟩
    simp only [execOp, e221]
    go_simp
  · have e222 : ρ.eval (.tmp 222) = Value.int .u16 u := kn 10 222 (by decide +kernel) (by decide +kernel)
    exact step_run rfl _ _ (run_conv55 rfl e222 hu) ⟨rfl, Mod.refl _ _⟩
  · have e1 : ρ.eval (.tmp 1) = Value.slice (some ⟨sb, soff, none⟩) ln lcap := (far 1 (by decide +kernel)).trans x1
    exact step_run rfl _ _ (run_move rfl e1) ⟨rfl, Mod.refl _ _⟩
  · have e26 : ρ.eval (.tmp 26) = Value.int .i64 (s) := (far 26 (by decide +kernel)).trans x26
    exact step_run rfl _ _ (run_move rfl e26) ⟨rfl, Mod.refl _ _⟩
  · have e224 : ρ.eval (.tmp 224) = Value.slice (some ⟨sb, soff, none⟩) ln lcap := kn 12 224 (by decide +kernel) (by decide +kernel)
    have e225 : ρ.eval (.tmp 225) = Value.int .i64 (s) := kn 13 225 (by decide +kernel) (by decide +kernel)
    exact step_run rfl _ _ (run_idx33 rfl e224 e225 hsl) ⟨rfl, Mod.refl _ _⟩
  · have e226 : ρ.eval (.tmp 226) = Value.pointer (some ⟨sb, soff + s * 2, none⟩) := kn 14 226 (by decide +kernel) (by decide +kernel)
    refine step_run rfl (Value.pointer (some ⟨sb, soff + s * 2, none⟩)) _ ?_ ⟨rfl, Mod.refl _ _⟩
    simp only [execOp, e226]
    go_simp
  · have e227 : ρ.eval (.tmp 227) = Value.pointer (some ⟨sb, soff + s * 2, none⟩) := kn 15 227 (by decide +kernel) (by decide +kernel)
    have c := FS _ hM
    refine step_run rfl (Value.int .i64 (st)) _ ?_ ⟨rfl, Mod.refl _ _⟩
    simp only [execOp, e227]
    go_simp
  · have e228 : ρ.eval (.tmp 228) = Value.int .i64 (st) := kn 16 228 (by decide +kernel) (by decide +kernel)
    exact step_run rfl _ _ (run_add rfl e228 rfl hm (by omega) (by omega)) ⟨rfl, Mod.refl _ _⟩
  · have e223 : ρ.eval (.tmp 223) = Value.int .i64 (u) := kn 11 223 (by decide +kernel) (by decide +kernel)
    have e229 : ρ.eval (.tmp 229) = Value.int .i64 (m) := kn 17 229 (by decide +kernel) (by decide +kernel)
    exact step_run rfl _ _ (run_remN rfl e223 e229 hm0 hr2 (by omega)) ⟨rfl, Mod.refl _ _⟩
  · have e212 : ρ.eval (.tmp 212) = Value.int .i64 (rn) := kn 0 212 (by decide +kernel) (by decide +kernel)
    have e230 : ρ.eval (.tmp 230) = Value.int .i64 (t4) := kn 18 230 (by decide +kernel) (by decide +kernel)
    exact step_run rfl _ _ (run_add rfl e212 e230 rfl (by omega) (by omega)) ⟨rfl, Mod.refl _ _⟩
  · have e231 : ρ.eval (.tmp 231) = Value.int .i64 (rn + (t4 : Int)) := kn 19 231 (by decide +kernel) (by decide +kernel)
    exact step_run rfl _ _ (run_assign rfl e231) ⟨rfl, Mod.refl _ _⟩

@[reducible] def te0 : Oper := { dst := some 244, op := Op.move (Operand.tmp 29), type := 29, pos := "outright.go:50", after := #[], guard := none }
@[reducible] def te1 : Oper := { dst := some 245, op := Op.binOp BinOp.neq 29 (Operand.tmp 244) (Operand.const (Value.int IntKind.i64 0)) 29, type := 4, pos := "outright.go:50", after := #[{ on := 0, ground := Ground.data }], guard := none }
@[reducible] def te2 : Oper := { dst := some 246, op := Op.move (Operand.tmp 245), type := 4, pos := "outright.go:50", after := #[{ on := 1, ground := Ground.data }], guard := none }
@[reducible] def te3 : Oper := { dst := some 247, op := Op.move (Operand.tmp 30), type := 3, pos := "outright.go:50", after := #[{ on := 2, ground := Ground.guard }], guard := some (2, false) }
@[reducible] def te4 : Oper := { dst := some 248, op := Op.fieldAddr 28 (Operand.tmp 28) 0, type := 0, pos := "outright.go:50", after := #[{ on := 2, ground := Ground.guard }], guard := some (2, false) }
@[reducible] def te5 : Oper := { dst := some 249, op := Op.load 3 (Operand.tmp 248), type := 3, pos := "outright.go:50", after := #[{ on := 4, ground := Ground.data }, { on := 2, ground := Ground.guard }], guard := some (2, false) }
@[reducible] def te6 : Oper := { dst := some 250, op := Op.binOp BinOp.lss 3 (Operand.tmp 247) (Operand.tmp 249) 3, type := 4, pos := "outright.go:50", after := #[{ on := 3, ground := Ground.data }, { on := 5, ground := Ground.data }, { on := 2, ground := Ground.guard }], guard := some (2, false) }
@[reducible] def te7 : Oper := { dst := some 251, op := Op.pick (Operand.tmp 246) (Operand.const (Value.bool true)) (Operand.tmp 250), type := 4, pos := "outright.go:50", after := #[{ on := 2, ground := Ground.data }, { on := 6, ground := Ground.data }], guard := none }
@[reducible] def te8 : Oper := { dst := some 252, op := Op.move (Operand.tmp 251), type := 4, pos := "outright.go:50", after := #[{ on := 7, ground := Ground.data }, { on := 2, ground := Ground.chain }], guard := none }
@[reducible] def te9 : Oper := { dst := some 253, op := Op.move (Operand.tmp 30), type := 3, pos := "outright.go:50", after := #[{ on := 8, ground := Ground.guard }], guard := some (8, false) }
@[reducible] def te10 : Oper := { dst := some 254, op := Op.fieldAddr 28 (Operand.tmp 28) 1, type := 0, pos := "outright.go:50", after := #[{ on := 8, ground := Ground.guard }], guard := some (8, false) }
@[reducible] def te11 : Oper := { dst := some 255, op := Op.load 3 (Operand.tmp 254), type := 3, pos := "outright.go:50", after := #[{ on := 10, ground := Ground.data }, { on := 8, ground := Ground.guard }], guard := some (8, false) }
@[reducible] def te12 : Oper := { dst := some 256, op := Op.binOp BinOp.gtr 3 (Operand.tmp 253) (Operand.tmp 255) 3, type := 4, pos := "outright.go:50", after := #[{ on := 9, ground := Ground.data }, { on := 11, ground := Ground.data }, { on := 8, ground := Ground.guard }], guard := some (8, false) }
@[reducible] def te13 : Oper := { dst := some 257, op := Op.pick (Operand.tmp 252) (Operand.const (Value.bool true)) (Operand.tmp 256), type := 4, pos := "outright.go:50", after := #[{ on := 8, ground := Ground.data }, { on := 12, ground := Ground.data }], guard := none }
@[reducible] def te14 : Oper := { dst := some 258, op := Op.move (Operand.tmp 257), type := 4, pos := "outright.go:50", after := #[{ on := 13, ground := Ground.data }, { on := 8, ground := Ground.chain }], guard := none }
@[reducible] def te15 : Oper := { dst := some 259, op := Op.move (Operand.tmp 30), type := 3, pos := "outright.go:50", after := #[{ on := 14, ground := Ground.guard }], guard := some (14, false) }
@[reducible] def te16 : Oper := { dst := some 260, op := Op.fieldAddr 24 (Operand.tmp 4) 1, type := 0, pos := "outright.go:50", after := #[{ on := 14, ground := Ground.guard }], guard := some (14, false) }
@[reducible] def te17 : Oper := { dst := some 261, op := Op.load 3 (Operand.tmp 260), type := 3, pos := "outright.go:50", after := #[{ on := 16, ground := Ground.data }, { on := 14, ground := Ground.guard }], guard := some (14, false) }
@[reducible] def te18 : Oper := { dst := some 262, op := Op.move (Operand.tmp 1), type := 33, pos := "outright.go:50", after := #[{ on := 14, ground := Ground.guard }], guard := some (14, false) }
@[reducible] def te19 : Oper := { dst := some 263, op := Op.move (Operand.tmp 26), type := 3, pos := "outright.go:50", after := #[{ on := 14, ground := Ground.guard }], guard := some (14, false) }
@[reducible] def te20 : Oper := { dst := some 264, op := Op.indexAddr 33 (Operand.tmp 262) (Operand.tmp 263), type := 0, pos := "outright.go:50", after := #[{ on := 18, ground := Ground.data }, { on := 19, ground := Ground.data }, { on := 14, ground := Ground.guard }], guard := some (14, false) }
@[reducible] def te21 : Oper := { dst := some 265, op := Op.fieldAddr 58 (Operand.tmp 264) 1, type := 0, pos := "outright.go:50", after := #[{ on := 20, ground := Ground.data }, { on := 14, ground := Ground.guard }], guard := some (14, false) }
@[reducible] def te22 : Oper := { dst := some 266, op := Op.load 3 (Operand.tmp 265), type := 3, pos := "outright.go:50", after := #[{ on := 21, ground := Ground.data }, { on := 14, ground := Ground.guard }], guard := some (14, false) }
@[reducible] def te23 : Oper := { dst := some 267, op := Op.binOp BinOp.add 3 (Operand.tmp 261) (Operand.tmp 266) 3, type := 3, pos := "outright.go:50", after := #[{ on := 17, ground := Ground.data }, { on := 22, ground := Ground.data }, { on := 14, ground := Ground.guard }], guard := some (14, false) }
@[reducible] def te24 : Oper := { dst := some 268, op := Op.binOp BinOp.gtr 3 (Operand.tmp 259) (Operand.tmp 267) 3, type := 4, pos := "outright.go:50", after := #[{ on := 15, ground := Ground.data }, { on := 23, ground := Ground.data }, { on := 14, ground := Ground.guard }], guard := some (14, false) }
@[reducible] def te25 : Oper := { dst := some 269, op := Op.pick (Operand.tmp 258) (Operand.const (Value.bool true)) (Operand.tmp 268), type := 4, pos := "outright.go:50", after := #[{ on := 14, ground := Ground.data }, { on := 24, ground := Ground.data }], guard := none }
@[reducible] def teOps : List Oper := [te0, te1, te2, te3, te4, te5, te6, te7, te8, te9, te10, te11, te12, te13, te14, te15, te16, te17, te18, te19, te20, te21, te22, te23, te24, te25]
@[reducible] def teDs : List (Nat × Nat) := [(0, 244), (1, 245), (2, 246), (3, 247), (4, 248), (5, 249), (6, 250), (7, 251), (8, 252), (9, 253), (10, 254), (11, 255), (12, 256), (13, 257), (14, 258), (15, 259), (16, 260), (17, 261), (18, 262), (19, 263), (20, 264), (21, 265), (22, 266), (23, 267), (24, 268), (25, 269)]
theorem teB : lowB teOps = true := by kernel_rfl
theorem teOk : slotsB teOps teDs 278 = true := by decide +kernel
@[reducible] def teC (ob db sb soff ln lcap s : Nat) (ofs o1 o2 bd mo : Int) : Nat → Value := fun idx => ([Value.int .i64 (0), Value.bool false, Value.bool false, Value.int .i64 (ofs), Value.pointer (some ⟨ob, 0, none⟩), Value.int .i64 (o1), Value.bool false, Value.bool false, Value.bool false, Value.int .i64 (ofs), Value.pointer (some ⟨ob, 1, none⟩), Value.int .i64 (o2), Value.bool false, Value.bool false, Value.bool false, Value.int .i64 (ofs), Value.pointer (some ⟨db, 1, none⟩), Value.int .i64 (bd), Value.slice (some ⟨sb, soff, none⟩) ln lcap, Value.int .i64 (s), Value.pointer (some ⟨sb, soff + s * 2, none⟩), Value.pointer (some ⟨sb, soff + s * 2 + 1, none⟩), Value.int .i64 (mo), Value.int .i64 (bd + mo), Value.bool false, Value.bool false] : List Value).getD idx undef
theorem teG (ob db sb soff ln lcap s : Nat) (ofs o1 o2 bd mo : Int) : guardsC teOps (teC ob db sb soff ln lcap s ofs o1 o2 bd mo) = true := by kernel_rfl
set_option maxRecDepth 100000 in
set_option maxHeartbeats 4000000 in
theorem region_te {rid : Nat} {Q : Exit → Act → World → Prop} {a0 : Act} {w : World} {ob db sb soff ln lcap s : Nat} {ofs o1 o2 bd mo : Int} (hsz : a0.tmps.size = 278) (x1 : a0.eval (.tmp 1) = Value.slice (some ⟨sb, soff, none⟩) ln lcap) (x4 : a0.eval (.tmp 4) = Value.pointer (some ⟨db, 0, none⟩)) (x26 : a0.eval (.tmp 26) = Value.int .i64 (s)) (x28 : a0.eval (.tmp 28) = Value.pointer (some ⟨ob, 0, none⟩)) (x29 : a0.eval (.tmp 29) = Value.int .i64 (0)) (x30 : a0.eval (.tmp 30) = Value.int .i64 (ofs))
    (F0 : ∀ W', Mod noB w W' → W'.cell? ⟨ob, 0, none⟩ = some (.int .i64 o1)) (F1 : ∀ W', Mod noB w W' → W'.cell? ⟨ob, 1, none⟩ = some (.int .i64 o2)) (FD : ∀ W', Mod noB w W' → W'.cell? ⟨db, 1, none⟩ = some (.int .i64 bd)) (FS : ∀ W', Mod noB w W' → W'.cell? ⟨sb, soff + s * 2 + 1, none⟩ = some (.int .i64 mo)) (hsl : s < ln) (h1 : ¬ ofs < o1) (h2 : ¬ o2 < ofs) (h3 : ¬ bd + mo < ofs) (hbd : 0 ≤ bd ∧ bd ≤ 100000) (hmo : 0 ≤ mo ∧ mo ≤ 100000)
    (hend : ∀ w', Mod noB w w' → Q .normal (teDs.foldl (fun a x => a.put (some x.2) (teC ob db sb soff ln lcap s ofs o1 o2 bd mo x.1)) a0) w') : (Code.region rid teOps.toArray true).wp Tryd.prog Q a0 w := by
  refine region_known teB teDs hsz teOk (teC ob db sb soff ln lcap s ofs o1 o2 bd mo) (teG ob db sb soff ln lcap s ofs o1 o2 bd mo) ?_ hend
  intro i o ρ w' hi ho hM kn far
  have hlt : i < 26 := hi
  rcases (by omega : i = 0 ∨ i = 1 ∨ i = 2 ∨ i = 3 ∨ i = 4 ∨ i = 5 ∨ i = 6 ∨ i = 7 ∨ i = 8 ∨ i = 9 ∨ i = 10 ∨ i = 11 ∨ i = 12 ∨ i = 13 ∨ i = 14 ∨ i = 15 ∨ i = 16 ∨ i = 17 ∨ i = 18 ∨ i = 19 ∨ i = 20 ∨ i = 21 ∨ i = 22 ∨ i = 23 ∨ i = 24 ∨ i = 25) with rfl | rfl | rfl | rfl | rfl | rfl | rfl | rfl | rfl | rfl | rfl | rfl | rfl | rfl | rfl | rfl | rfl | rfl | rfl | rfl | rfl | rfl | rfl | rfl | rfl | rfl
  all_goals (obtain rfl := Option.some.inj ho)
  · have e29 : ρ.eval (.tmp 29) = Value.int .i64 (0) := (far 29 (by decide +kernel)).trans x29
    exact step_run rfl _ _ (run_move rfl e29) ⟨rfl, Mod.refl _ _⟩
  · have e244 : ρ.eval (.tmp 244) = Value.int .i64 (0) := kn 0 244 (by decide +kernel) (by decide +kernel)
    exact step_run rfl (.bool false) _ (run_neq29F rfl e244 rfl) ⟨rfl, Mod.refl _ _⟩
  · have e245 : ρ.eval (.tmp 245) = Value.bool false := kn 1 245 (by decide +kernel) (by decide +kernel)
    exact step_run rfl _ _ (run_move rfl e245) ⟨rfl, Mod.refl _ _⟩
  · have e30 : ρ.eval (.tmp 30) = Value.int .i64 (ofs) := (far 30 (by decide +kernel)).trans x30
    exact step_run rfl _ _ (run_move rfl e30) ⟨rfl, Mod.refl _ _⟩
  · have e28 : ρ.eval (.tmp 28) = Value.pointer (some ⟨ob, 0, none⟩) := (far 28 (by decide +kernel)).trans x28
    refine step_run rfl (Value.pointer (some ⟨ob, 0, none⟩)) _ ?_ ⟨rfl, Mod.refl _ _⟩
    simp only [execOp, e28]
    go_simp
  · have e248 : ρ.eval (.tmp 248) = Value.pointer (some ⟨ob, 0, none⟩) := kn 4 248 (by decide +kernel) (by decide +kernel)
    have c := F0 _ hM
    refine step_run rfl (Value.int .i64 (o1)) _ ?_ ⟨rfl, Mod.refl _ _⟩
    simp only [execOp, e248]
    go_simp
  · have e247 : ρ.eval (.tmp 247) = Value.int .i64 (ofs) := kn 3 247 (by decide +kernel) (by decide +kernel)
    have e249 : ρ.eval (.tmp 249) = Value.int .i64 (o1) := kn 5 249 (by decide +kernel) (by decide +kernel)
    exact step_run rfl (.bool false) _ (run_lssF rfl e247 e249 h1) ⟨rfl, Mod.refl _ _⟩
  · have e246 : ρ.eval (.tmp 246) = Value.bool false := kn 2 246 (by decide +kernel) (by decide +kernel)
    have e250 : ρ.eval (.tmp 250) = Value.bool false := kn 6 250 (by decide +kernel) (by decide +kernel)
    exact step_run rfl _ _ (run_pickF rfl e246 e250) ⟨rfl, Mod.refl _ _⟩
  · have e251 : ρ.eval (.tmp 251) = Value.bool false := kn 7 251 (by decide +kernel) (by decide +kernel)
    exact step_run rfl _ _ (run_move rfl e251) ⟨rfl, Mod.refl _ _⟩
  · have e30 : ρ.eval (.tmp 30) = Value.int .i64 (ofs) := (far 30 (by decide +kernel)).trans x30
    exact step_run rfl _ _ (run_move rfl e30) ⟨rfl, Mod.refl _ _⟩
  · have e28 : ρ.eval (.tmp 28) = Value.pointer (some ⟨ob, 0, none⟩) := (far 28 (by decide +kernel)).trans x28
    refine step_run rfl (Value.pointer (some ⟨ob, 1, none⟩)) _ ?_ ⟨rfl, Mod.refl _ _⟩
    simp only [execOp, e28]
    go_simp
  · have e254 : ρ.eval (.tmp 254) = Value.pointer (some ⟨ob, 1, none⟩) := kn 10 254 (by decide +kernel) (by decide +kernel)
    have c := F1 _ hM
    refine step_run rfl (Value.int .i64 (o2)) _ ?_ ⟨rfl, Mod.refl _ _⟩
    simp only [execOp, e254]
    go_simp
  · have e253 : ρ.eval (.tmp 253) = Value.int .i64 (ofs) := kn 9 253 (by decide +kernel) (by decide +kernel)
    have e255 : ρ.eval (.tmp 255) = Value.int .i64 (o2) := kn 11 255 (by decide +kernel) (by decide +kernel)
    exact step_run rfl (.bool false) _ (run_gtrF rfl e253 e255 h2) ⟨rfl, Mod.refl _ _⟩
  · have e252 : ρ.eval (.tmp 252) = Value.bool false := kn 8 252 (by decide +kernel) (by decide +kernel)
    have e256 : ρ.eval (.tmp 256) = Value.bool false := kn 12 256 (by decide +kernel) (by decide +kernel)
    exact step_run rfl _ _ (run_pickF rfl e252 e256) ⟨rfl, Mod.refl _ _⟩
  · have e257 : ρ.eval (.tmp 257) = Value.bool false := kn 13 257 (by decide +kernel) (by decide +kernel)
    exact step_run rfl _ _ (run_move rfl e257) ⟨rfl, Mod.refl _ _⟩
  · have e30 : ρ.eval (.tmp 30) = Value.int .i64 (ofs) := (far 30 (by decide +kernel)).trans x30
    exact step_run rfl _ _ (run_move rfl e30) ⟨rfl, Mod.refl _ _⟩
  · have e4 : ρ.eval (.tmp 4) = Value.pointer (some ⟨db, 0, none⟩) := (far 4 (by decide +kernel)).trans x4
    refine step_run rfl (Value.pointer (some ⟨db, 1, none⟩)) _ ?_ ⟨rfl, Mod.refl _ _⟩
    simp only [execOp, e4]
    go_simp
  · have e260 : ρ.eval (.tmp 260) = Value.pointer (some ⟨db, 1, none⟩) := kn 16 260 (by decide +kernel) (by decide +kernel)
    have c := FD _ hM
    refine step_run rfl (Value.int .i64 (bd)) _ ?_ ⟨rfl, Mod.refl _ _⟩
    simp only [execOp, e260]
    go_simp
  · have e1 : ρ.eval (.tmp 1) = Value.slice (some ⟨sb, soff, none⟩) ln lcap := (far 1 (by decide +kernel)).trans x1
    exact step_run rfl _ _ (run_move rfl e1) ⟨rfl, Mod.refl _ _⟩
  · have e26 : ρ.eval (.tmp 26) = Value.int .i64 (s) := (far 26 (by decide +kernel)).trans x26
    exact step_run rfl _ _ (run_move rfl e26) ⟨rfl, Mod.refl _ _⟩
  · have e262 : ρ.eval (.tmp 262) = Value.slice (some ⟨sb, soff, none⟩) ln lcap := kn 18 262 (by decide +kernel) (by decide +kernel)
    have e263 : ρ.eval (.tmp 263) = Value.int .i64 (s) := kn 19 263 (by decide +kernel) (by decide +kernel)
    exact step_run rfl _ _ (run_idx33 rfl e262 e263 hsl) ⟨rfl, Mod.refl _ _⟩
  · have e264 : ρ.eval (.tmp 264) = Value.pointer (some ⟨sb, soff + s * 2, none⟩) := kn 20 264 (by decide +kernel) (by decide +kernel)
    refine step_run rfl (Value.pointer (some ⟨sb, soff + s * 2 + 1, none⟩)) _ ?_ ⟨rfl, Mod.refl _ _⟩
    simp only [execOp, e264]
    go_simp
  · have e265 : ρ.eval (.tmp 265) = Value.pointer (some ⟨sb, soff + s * 2 + 1, none⟩) := kn 21 265 (by decide +kernel) (by decide +kernel)
    have c := FS _ hM
    refine step_run rfl (Value.int .i64 (mo)) _ ?_ ⟨rfl, Mod.refl _ _⟩
    simp only [execOp, e265]
    go_simp
  · have e261 : ρ.eval (.tmp 261) = Value.int .i64 (bd) := kn 17 261 (by decide +kernel) (by decide +kernel)
    have e266 : ρ.eval (.tmp 266) = Value.int .i64 (mo) := kn 22 266 (by decide +kernel) (by decide +kernel)
    exact step_run rfl _ _ (run_add rfl e261 e266 rfl (by omega) (by omega)) ⟨rfl, Mod.refl _ _⟩
  · have e259 : ρ.eval (.tmp 259) = Value.int .i64 (ofs) := kn 15 259 (by decide +kernel) (by decide +kernel)
    have e267 : ρ.eval (.tmp 267) = Value.int .i64 (bd + mo) := kn 23 267 (by decide +kernel) (by decide +kernel)
    exact step_run rfl (.bool false) _ (run_gtrF rfl e259 e267 h3) ⟨rfl, Mod.refl _ _⟩
  · have e258 : ρ.eval (.tmp 258) = Value.bool false := kn 14 258 (by decide +kernel) (by decide +kernel)
    have e268 : ρ.eval (.tmp 268) = Value.bool false := kn 24 268 (by decide +kernel) (by decide +kernel)
    exact step_run rfl _ _ (run_pickF rfl e258 e268) ⟨rfl, Mod.refl _ _⟩
end Go.Proofs.YtdncppempgpooaaDoor

/- RuleTrue: the law's walk: what is asked of each blade, stint by stint. (Its code and frame: written by wip/tools.) -/
namespace Go.Proofs.YtdncppempgpooaaDoor
open Go Go.RowKit Go.Shelf

/-- What the law holds on to. -/
def Lawt (w : World) (B : Nat) (ao : Option Addr) (cap : Nat) (d : Dye) (lo : Option Addr) (l : List (Int × Int)) (po : Option Addr) (pl : List Int) (W : World) : Prop := Lawd w B ao cap d lo l W ∧ IntsAt W po pl
def tmpOf (a : Act) (i : Nat) : Value := a.tmps.getD i undef
theorem end_frame (F : (Nat → Value) → Act) (a : Act) (P : Prop) (h : a = F (tmpOf a)) (hp : P) : ∃ v, a = F v ∧ P := ⟨tmpOf a, h, hp⟩

@[reducible] def bodyL : Code := (((Code.region 21 #[{ dst := some 149, op := Op.move (Operand.tmp 21), type := 3, pos := "outright.go:39", after := #[], guard := none }, { dst := some 150, op := Op.fieldAddr 24 (Operand.tmp 4) 0, type := 0, pos := "outright.go:39", after := #[], guard := none }, { dst := some 151, op := Op.load 22 (Operand.tmp 150), type := 22, pos := "outright.go:39", after := #[{ on := 1, ground := Ground.data }], guard := none }, { dst := some 152, op := Op.call { callee := Callee.builtin Builtin.len, args := #[Operand.tmp 151], argTypes := #[22] }, type := 3, pos := "outright.go:39", after := #[{ on := 2, ground := Ground.data }], guard := none }, { dst := some 153, op := Op.binOp BinOp.lss 3 (Operand.tmp 149) (Operand.tmp 152) 3, type := 4, pos := "outright.go:39", after := #[{ on := 0, ground := Ground.data }, { on := 3, ground := Ground.data }], guard := none }] false).seq (Code.cond (Operand.tmp 153) Code.skip (Code.exit 2))).seq ((Code.block 3 ((Code.region 23 #[{ dst := some 156, op := Op.fieldAddr 24 (Operand.tmp 4) 0, type := 0, pos := "outright.go:40", after := #[], guard := none }, { dst := some 157, op := Op.load 22 (Operand.tmp 156), type := 22, pos := "outright.go:40", after := #[{ on := 0, ground := Ground.data }], guard := none }, { dst := some 158, op := Op.move (Operand.tmp 21), type := 3, pos := "outright.go:40", after := #[], guard := none }, { dst := some 159, op := Op.indexAddr 22 (Operand.tmp 157) (Operand.tmp 158), type := 0, pos := "outright.go:40", after := #[{ on := 1, ground := Ground.data }, { on := 2, ground := Ground.data }], guard := none }, { dst := some 160, op := Op.load 53 (Operand.tmp 159), type := 53, pos := "outright.go:40", after := #[{ on := 3, ground := Ground.data }], guard := none }, { dst := some 22, op := Op.alloc 53, type := 0, pos := "outright.go:40", after := #[], guard := none }, { dst := none, op := Op.store 53 (Operand.tmp 22) (Operand.tmp 160), type := 0, pos := "outright.go:40", after := #[{ on := 5, ground := Ground.data }, { on := 4, ground := Ground.data }, { on := 0, ground := Ground.phase }, { on := 1, ground := Ground.phase }, { on := 2, ground := Ground.phase }, { on := 3, ground := Ground.phase }, { on := 4, ground := Ground.phase }, { on := 5, ground := Ground.phase }], guard := none }] false).seq ((Code.region 24 #[{ dst := some 161, op := Op.fieldAddr 53 (Operand.tmp 22) 1, type := 0, pos := "outright.go:41", after := #[], guard := none }, { dst := some 162, op := Op.load 28 (Operand.tmp 161), type := 28, pos := "outright.go:41", after := #[{ on := 0, ground := Ground.data }], guard := none }, { dst := some 163, op := Op.move (Operand.tmp 3), type := 46, pos := "outright.go:41", after := #[], guard := none }, { dst := some 164, op := Op.move (Operand.tmp 21), type := 3, pos := "outright.go:41", after := #[], guard := none }, { dst := some 165, op := Op.move (Operand.tmp 3), type := 46, pos := "outright.go:41", after := #[], guard := none }, { dst := some 166, op := Op.call { callee := Callee.builtin Builtin.len, args := #[Operand.tmp 165], argTypes := #[46] }, type := 3, pos := "outright.go:41", after := #[{ on := 4, ground := Ground.data }], guard := none }, { dst := some 167, op := Op.binOp BinOp.rem 3 (Operand.tmp 164) (Operand.tmp 166) 3, type := 3, pos := "outright.go:41", after := #[{ on := 3, ground := Ground.data }, { on := 5, ground := Ground.data }], guard := none }, { dst := some 168, op := Op.indexAddr 46 (Operand.tmp 163) (Operand.tmp 167), type := 0, pos := "outright.go:41", after := #[{ on := 2, ground := Ground.data }, { on := 6, ground := Ground.data }], guard := none }, { dst := some 169, op := Op.load 55 (Operand.tmp 168), type := 55, pos := "outright.go:41", after := #[{ on := 7, ground := Ground.data }], guard := none }, { dst := some 170, op := Op.call { callee := Callee.value (Operand.func 32), args := #[Operand.tmp 162, Operand.tmp 169], argTypes := #[28, 55] }, type := 3, pos := "outright.go:41", after := #[{ on := 1, ground := Ground.data }, { on := 8, ground := Ground.data }], guard := none }, { dst := some 23, op := Op.assign (Operand.tmp 170), type := 3, pos := "outright.go:41", after := #[{ on := 9, ground := Ground.data }, { on := 9, ground := Ground.chain }, { on := 0, ground := Ground.phase }, { on := 1, ground := Ground.phase }, { on := 2, ground := Ground.phase }, { on := 3, ground := Ground.phase }, { on := 4, ground := Ground.phase }, { on := 5, ground := Ground.phase }, { on := 6, ground := Ground.phase }, { on := 7, ground := Ground.phase }, { on := 8, ground := Ground.phase }, { on := 9, ground := Ground.phase }], guard := none }] true).seq ((Code.region 25 #[{ dst := some 171, op := Op.fieldAddr 53 (Operand.tmp 22) 0, type := 0, pos := "outright.go:42", after := #[], guard := none }, { dst := some 172, op := Op.load 28 (Operand.tmp 171), type := 28, pos := "outright.go:42", after := #[{ on := 0, ground := Ground.data }], guard := none }, { dst := some 173, op := Op.move (Operand.tmp 3), type := 46, pos := "outright.go:42", after := #[], guard := none }, { dst := some 174, op := Op.move (Operand.tmp 21), type := 3, pos := "outright.go:42", after := #[], guard := none }, { dst := some 175, op := Op.binOp BinOp.add 3 (Operand.tmp 174) (Operand.const (Value.int IntKind.i64 1)) 3, type := 3, pos := "outright.go:42", after := #[{ on := 3, ground := Ground.data }], guard := none }, { dst := some 176, op := Op.move (Operand.tmp 3), type := 46, pos := "outright.go:42", after := #[], guard := none }, { dst := some 177, op := Op.call { callee := Callee.builtin Builtin.len, args := #[Operand.tmp 176], argTypes := #[46] }, type := 3, pos := "outright.go:42", after := #[{ on := 5, ground := Ground.data }], guard := none }, { dst := some 178, op := Op.binOp BinOp.rem 3 (Operand.tmp 175) (Operand.tmp 177) 3, type := 3, pos := "outright.go:42", after := #[{ on := 4, ground := Ground.data }, { on := 6, ground := Ground.data }], guard := none }, { dst := some 179, op := Op.indexAddr 46 (Operand.tmp 173) (Operand.tmp 178), type := 0, pos := "outright.go:42", after := #[{ on := 2, ground := Ground.data }, { on := 7, ground := Ground.data }], guard := none }, { dst := some 180, op := Op.load 55 (Operand.tmp 179), type := 55, pos := "outright.go:42", after := #[{ on := 8, ground := Ground.data }], guard := none }, { dst := some 181, op := Op.call { callee := Callee.value (Operand.func 32), args := #[Operand.tmp 172, Operand.tmp 180], argTypes := #[28, 55] }, type := 3, pos := "outright.go:42", after := #[{ on := 1, ground := Ground.data }, { on := 9, ground := Ground.data }], guard := none }, { dst := some 24, op := Op.assign (Operand.tmp 181), type := 3, pos := "outright.go:42", after := #[{ on := 10, ground := Ground.data }, { on := 10, ground := Ground.chain }, { on := 0, ground := Ground.phase }, { on := 1, ground := Ground.phase }, { on := 2, ground := Ground.phase }, { on := 3, ground := Ground.phase }, { on := 4, ground := Ground.phase }, { on := 5, ground := Ground.phase }, { on := 6, ground := Ground.phase }, { on := 7, ground := Ground.phase }, { on := 8, ground := Ground.phase }, { on := 9, ground := Ground.phase }, { on := 10, ground := Ground.phase }], guard := none }, { dst := some 25, op := Op.assign (Operand.const (Value.int IntKind.i64 0)), type := 3, pos := "outright.go:42", after := #[{ on := 11, ground := Ground.chain }, { on := 0, ground := Ground.phase }, { on := 1, ground := Ground.phase }, { on := 2, ground := Ground.phase }, { on := 3, ground := Ground.phase }, { on := 4, ground := Ground.phase }, { on := 5, ground := Ground.phase }, { on := 6, ground := Ground.phase }, { on := 7, ground := Ground.phase }, { on := 8, ground := Ground.phase }, { on := 9, ground := Ground.phase }, { on := 10, ground := Ground.phase }, { on := 11, ground := Ground.phase }], guard := none }] true).seq ((Code.region 26 #[{ dst := some 26, op := Op.assign (Operand.const (Value.int IntKind.i64 0)), type := 3, pos := "outright.go:43", after := #[], guard := none }] false).seq (Code.block 4 (((Code.region 27 #[{ dst := some 182, op := Op.move (Operand.tmp 26), type := 3, pos := "outright.go:43", after := #[], guard := none }, { dst := some 183, op := Op.move (Operand.tmp 1), type := 33, pos := "outright.go:43", after := #[], guard := none }, { dst := some 184, op := Op.call { callee := Callee.builtin Builtin.len, args := #[Operand.tmp 183], argTypes := #[33] }, type := 3, pos := "outright.go:43", after := #[{ on := 1, ground := Ground.data }], guard := none }, { dst := some 185, op := Op.binOp BinOp.lss 3 (Operand.tmp 182) (Operand.tmp 184) 3, type := 4, pos := "outright.go:43", after := #[{ on := 0, ground := Ground.data }, { on := 2, ground := Ground.data }], guard := none }] false).seq (Code.cond (Operand.tmp 185) Code.skip (Code.exit 4))).seq ((Code.block 5 (((Code.region 29 #[{ dst := some 188, op := Op.move (Operand.tmp 26), type := 3, pos := "outright.go:44", after := #[], guard := none }, { dst := some 189, op := Op.binOp BinOp.gtr 3 (Operand.tmp 188) (Operand.const (Value.int IntKind.i64 0)) 3, type := 4, pos := "outright.go:44", after := #[{ on := 0, ground := Ground.data }], guard := none }, { dst := some 190, op := Op.move (Operand.tmp 189), type := 4, pos := "outright.go:44", after := #[{ on := 1, ground := Ground.data }], guard := none }, { dst := some 191, op := Op.move (Operand.tmp 13), type := 34, pos := "outright.go:44", after := #[{ on := 2, ground := Ground.guard }], guard := some (2, true) }, { dst := some 192, op := Op.move (Operand.tmp 26), type := 3, pos := "outright.go:44", after := #[{ on := 2, ground := Ground.guard }], guard := some (2, true) }, { dst := some 193, op := Op.binOp BinOp.sub 3 (Operand.tmp 192) (Operand.const (Value.int IntKind.i64 1)) 3, type := 3, pos := "outright.go:44", after := #[{ on := 4, ground := Ground.data }, { on := 2, ground := Ground.guard }], guard := some (2, true) }, { dst := some 194, op := Op.indexAddr 34 (Operand.tmp 191) (Operand.tmp 193), type := 0, pos := "outright.go:44", after := #[{ on := 3, ground := Ground.data }, { on := 5, ground := Ground.data }, { on := 2, ground := Ground.guard }], guard := some (2, true) }, { dst := some 195, op := Op.load 3 (Operand.tmp 194), type := 3, pos := "outright.go:44", after := #[{ on := 6, ground := Ground.data }, { on := 2, ground := Ground.guard }], guard := some (2, true) }, { dst := some 196, op := Op.move (Operand.tmp 21), type := 3, pos := "outright.go:44", after := #[{ on := 2, ground := Ground.guard }], guard := some (2, true) }, { dst := some 197, op := Op.call { callee := Callee.value (Operand.func 33), args := #[Operand.tmp 195, Operand.tmp 196], argTypes := #[3, 3] }, type := 4, pos := "outright.go:44", after := #[{ on := 7, ground := Ground.data }, { on := 8, ground := Ground.data }, { on := 2, ground := Ground.chain }, { on := 2, ground := Ground.guard }], guard := some (2, true) }, { dst := some 198, op := Op.pick (Operand.tmp 190) (Operand.tmp 197) (Operand.const (Value.bool false)), type := 4, pos := "outright.go:44", after := #[{ on := 2, ground := Ground.data }, { on := 9, ground := Ground.data }], guard := none }] false).seq (Code.cond (Operand.tmp 198) (Code.region 30 #[{ dst := some 199, op := Op.fieldAddr 53 (Operand.tmp 22) 0, type := 0, pos := "outright.go:45", after := #[], guard := none }, { dst := some 200, op := Op.load 28 (Operand.tmp 199), type := 28, pos := "outright.go:45", after := #[{ on := 0, ground := Ground.data }], guard := none }, { dst := some 201, op := Op.move (Operand.tmp 3), type := 46, pos := "outright.go:45", after := #[], guard := none }, { dst := some 202, op := Op.move (Operand.tmp 21), type := 3, pos := "outright.go:45", after := #[], guard := none }, { dst := some 203, op := Op.move (Operand.tmp 26), type := 3, pos := "outright.go:45", after := #[], guard := none }, { dst := some 204, op := Op.binOp BinOp.add 3 (Operand.tmp 202) (Operand.tmp 203) 3, type := 3, pos := "outright.go:45", after := #[{ on := 3, ground := Ground.data }, { on := 4, ground := Ground.data }], guard := none }, { dst := some 205, op := Op.binOp BinOp.add 3 (Operand.tmp 204) (Operand.const (Value.int IntKind.i64 2)) 3, type := 3, pos := "outright.go:45", after := #[{ on := 5, ground := Ground.data }], guard := none }, { dst := some 206, op := Op.move (Operand.tmp 3), type := 46, pos := "outright.go:45", after := #[], guard := none }, { dst := some 207, op := Op.call { callee := Callee.builtin Builtin.len, args := #[Operand.tmp 206], argTypes := #[46] }, type := 3, pos := "outright.go:45", after := #[{ on := 7, ground := Ground.data }], guard := none }, { dst := some 208, op := Op.binOp BinOp.rem 3 (Operand.tmp 205) (Operand.tmp 207) 3, type := 3, pos := "outright.go:45", after := #[{ on := 6, ground := Ground.data }, { on := 8, ground := Ground.data }], guard := none }, { dst := some 209, op := Op.indexAddr 46 (Operand.tmp 201) (Operand.tmp 208), type := 0, pos := "outright.go:45", after := #[{ on := 2, ground := Ground.data }, { on := 9, ground := Ground.data }], guard := none }, { dst := some 210, op := Op.load 55 (Operand.tmp 209), type := 55, pos := "outright.go:45", after := #[{ on := 10, ground := Ground.data }], guard := none }, { dst := some 211, op := Op.call { callee := Callee.value (Operand.func 32), args := #[Operand.tmp 200, Operand.tmp 210], argTypes := #[28, 55] }, type := 3, pos := "outright.go:45", after := #[{ on := 1, ground := Ground.data }, { on := 11, ground := Ground.data }], guard := none }, { dst := some 24, op := Op.assign (Operand.tmp 211), type := 3, pos := "outright.go:45", after := #[{ on := 12, ground := Ground.data }, { on := 12, ground := Ground.chain }, { on := 0, ground := Ground.phase }, { on := 1, ground := Ground.phase }, { on := 2, ground := Ground.phase }, { on := 3, ground := Ground.phase }, { on := 4, ground := Ground.phase }, { on := 5, ground := Ground.phase }, { on := 6, ground := Ground.phase }, { on := 7, ground := Ground.phase }, { on := 8, ground := Ground.phase }, { on := 9, ground := Ground.phase }, { on := 10, ground := Ground.phase }, { on := 11, ground := Ground.phase }, { on := 12, ground := Ground.phase }], guard := none }, { dst := some 25, op := Op.assign (Operand.const (Value.int IntKind.i64 0)), type := 3, pos := "outright.go:45", after := #[{ on := 13, ground := Ground.chain }, { on := 0, ground := Ground.phase }, { on := 1, ground := Ground.phase }, { on := 2, ground := Ground.phase }, { on := 3, ground := Ground.phase }, { on := 4, ground := Ground.phase }, { on := 5, ground := Ground.phase }, { on := 6, ground := Ground.phase }, { on := 7, ground := Ground.phase }, { on := 8, ground := Ground.phase }, { on := 9, ground := Ground.phase }, { on := 10, ground := Ground.phase }, { on := 11, ground := Ground.phase }, { on := 12, ground := Ground.phase }, { on := 13, ground := Ground.phase }], guard := none }] true) Code.skip)).seq ((Code.region 31 #[{ dst := some 212, op := Op.move (Operand.tmp 25), type := 3, pos := "outright.go:47", after := #[], guard := none }, { dst := some 213, op := Op.move (Operand.tmp 3), type := 46, pos := "outright.go:47", after := #[], guard := none }, { dst := some 214, op := Op.move (Operand.tmp 21), type := 3, pos := "outright.go:47", after := #[], guard := none }, { dst := some 215, op := Op.binOp BinOp.mul 3 (Operand.const (Value.int IntKind.i64 3)) (Operand.tmp 214) 3, type := 3, pos := "outright.go:47", after := #[{ on := 2, ground := Ground.data }], guard := none }, { dst := some 216, op := Op.move (Operand.tmp 26), type := 3, pos := "outright.go:47", after := #[], guard := none }, { dst := some 217, op := Op.binOp BinOp.add 3 (Operand.tmp 215) (Operand.tmp 216) 3, type := 3, pos := "outright.go:47", after := #[{ on := 3, ground := Ground.data }, { on := 4, ground := Ground.data }], guard := none }, { dst := some 218, op := Op.move (Operand.tmp 3), type := 46, pos := "outright.go:47", after := #[], guard := none }, { dst := some 219, op := Op.call { callee := Callee.builtin Builtin.len, args := #[Operand.tmp 218], argTypes := #[46] }, type := 3, pos := "outright.go:47", after := #[{ on := 6, ground := Ground.data }], guard := none }, { dst := some 220, op := Op.binOp BinOp.rem 3 (Operand.tmp 217) (Operand.tmp 219) 3, type := 3, pos := "outright.go:47", after := #[{ on := 5, ground := Ground.data }, { on := 7, ground := Ground.data }], guard := none }, { dst := some 221, op := Op.indexAddr 46 (Operand.tmp 213) (Operand.tmp 220), type := 0, pos := "outright.go:47", after := #[{ on := 1, ground := Ground.data }, { on := 8, ground := Ground.data }], guard := none }, { dst := some 222, op := Op.load 55 (Operand.tmp 221), type := 55, pos := "outright.go:47", after := #[{ on := 9, ground := Ground.data }], guard := none }, { dst := some 223, op := Op.convert 55 3 (Operand.tmp 222), type := 3, pos := "outright.go:47", after := #[{ on := 10, ground := Ground.data }], guard := none }, { dst := some 224, op := Op.move (Operand.tmp 1), type := 33, pos := "outright.go:47", after := #[], guard := none }, { dst := some 225, op := Op.move (Operand.tmp 26), type := 3, pos := "outright.go:47", after := #[], guard := none }, { dst := some 226, op := Op.indexAddr 33 (Operand.tmp 224) (Operand.tmp 225), type := 0, pos := "outright.go:47", after := #[{ on := 12, ground := Ground.data }, { on := 13, ground := Ground.data }], guard := none }, { dst := some 227, op := Op.fieldAddr 58 (Operand.tmp 226) 0, type := 0, pos := "outright.go:47", after := #[{ on := 14, ground := Ground.data }], guard := none }, { dst := some 228, op := Op.load 3 (Operand.tmp 227), type := 3, pos := "outright.go:47", after := #[{ on := 15, ground := Ground.data }], guard := none }, { dst := some 229, op := Op.binOp BinOp.add 3 (Operand.tmp 228) (Operand.const (Value.int IntKind.i64 1)) 3, type := 3, pos := "outright.go:47", after := #[{ on := 16, ground := Ground.data }], guard := none }, { dst := some 230, op := Op.binOp BinOp.rem 3 (Operand.tmp 223) (Operand.tmp 229) 3, type := 3, pos := "outright.go:47", after := #[{ on := 11, ground := Ground.data }, { on := 17, ground := Ground.data }], guard := none }, { dst := some 231, op := Op.binOp BinOp.add 3 (Operand.tmp 212) (Operand.tmp 230) 3, type := 3, pos := "outright.go:47", after := #[{ on := 0, ground := Ground.data }, { on := 18, ground := Ground.data }], guard := none }, { dst := some 27, op := Op.assign (Operand.tmp 231), type := 3, pos := "outright.go:47", after := #[{ on := 19, ground := Ground.data }, { on := 0, ground := Ground.phase }, { on := 1, ground := Ground.phase }, { on := 2, ground := Ground.phase }, { on := 3, ground := Ground.phase }, { on := 4, ground := Ground.phase }, { on := 5, ground := Ground.phase }, { on := 6, ground := Ground.phase }, { on := 7, ground := Ground.phase }, { on := 8, ground := Ground.phase }, { on := 9, ground := Ground.phase }, { on := 10, ground := Ground.phase }, { on := 11, ground := Ground.phase }, { on := 12, ground := Ground.phase }, { on := 13, ground := Ground.phase }, { on := 14, ground := Ground.phase }, { on := 15, ground := Ground.phase }, { on := 16, ground := Ground.phase }, { on := 17, ground := Ground.phase }, { on := 18, ground := Ground.phase }, { on := 19, ground := Ground.phase }], guard := none }] true).seq ((Code.region 32 #[{ dst := some 233, op := Op.load 24 (Operand.tmp 4), type := 24, pos := "outright.go:48", after := #[], guard := none }, { dst := some 234, op := Op.move (Operand.tmp 21), type := 3, pos := "outright.go:48", after := #[], guard := none }, { dst := some 235, op := Op.move (Operand.tmp 27), type := 3, pos := "outright.go:48", after := #[], guard := none }, { dst := some 236, op := Op.call { callee := Callee.value (Operand.func 14), args := #[Operand.tmp 233, Operand.tmp 234, Operand.tmp 235], argTypes := #[24, 3, 3] }, type := 30, pos := "outright.go:48", after := #[{ on := 0, ground := Ground.data }, { on := 1, ground := Ground.data }, { on := 2, ground := Ground.data }], guard := none }, { dst := some 232, op := Op.move (Operand.tmp 236), type := 30, pos := "outright.go:48", after := #[{ on := 3, ground := Ground.data }], guard := none }, { dst := some 237, op := Op.extract (Operand.tmp 232) 0, type := 28, pos := "outright.go:48", after := #[{ on := 4, ground := Ground.data }], guard := none }, { dst := some 238, op := Op.extract (Operand.tmp 232) 1, type := 29, pos := "outright.go:48", after := #[{ on := 4, ground := Ground.data }, { on := 8, ground := Ground.gcOnly Departure.lateStores }], guard := none }, { dst := some 28, op := Op.alloc 28, type := 0, pos := "outright.go:48", after := #[], guard := none }, { dst := none, op := Op.store 28 (Operand.tmp 28) (Operand.tmp 237), type := 0, pos := "outright.go:48", after := #[{ on := 7, ground := Ground.data }, { on := 5, ground := Ground.data }, { on := 3, ground := Ground.chain }, { on := 0, ground := Ground.phase }, { on := 1, ground := Ground.phase }, { on := 2, ground := Ground.phase }, { on := 3, ground := Ground.phase }, { on := 4, ground := Ground.phase }, { on := 5, ground := Ground.phase }, { on := 6, ground := Ground.textOnly Departure.lateStores }, { on := 7, ground := Ground.phase }], guard := none }, { dst := some 29, op := Op.assign (Operand.tmp 238), type := 29, pos := "outright.go:48", after := #[{ on := 6, ground := Ground.data }, { on := 8, ground := Ground.chain }, { on := 0, ground := Ground.phase }, { on := 1, ground := Ground.phase }, { on := 2, ground := Ground.phase }, { on := 3, ground := Ground.phase }, { on := 4, ground := Ground.phase }, { on := 5, ground := Ground.phase }, { on := 6, ground := Ground.phase }, { on := 7, ground := Ground.phase }, { on := 8, ground := Ground.phase }], guard := none }] false).seq ((Code.region 33 #[{ dst := some 239, op := Op.move (Operand.tmp 24), type := 3, pos := "outright.go:49", after := #[], guard := none }, { dst := some 240, op := Op.move (Operand.tmp 23), type := 3, pos := "outright.go:49", after := #[], guard := none }, { dst := some 241, op := Op.move (Operand.tmp 27), type := 3, pos := "outright.go:49", after := #[], guard := none }, { dst := some 242, op := Op.binOp BinOp.mul 3 (Operand.tmp 240) (Operand.tmp 241) 3, type := 3, pos := "outright.go:49", after := #[{ on := 1, ground := Ground.data }, { on := 2, ground := Ground.data }], guard := none }, { dst := some 243, op := Op.binOp BinOp.add 3 (Operand.tmp 239) (Operand.tmp 242) 3, type := 3, pos := "outright.go:49", after := #[{ on := 0, ground := Ground.data }, { on := 3, ground := Ground.data }], guard := none }, { dst := some 30, op := Op.assign (Operand.tmp 243), type := 3, pos := "outright.go:49", after := #[{ on := 4, ground := Ground.data }, { on := 0, ground := Ground.phase }, { on := 1, ground := Ground.phase }, { on := 2, ground := Ground.phase }, { on := 3, ground := Ground.phase }, { on := 4, ground := Ground.phase }], guard := none }] false).seq (((Code.region 34 #[{ dst := some 244, op := Op.move (Operand.tmp 29), type := 29, pos := "outright.go:50", after := #[], guard := none }, { dst := some 245, op := Op.binOp BinOp.neq 29 (Operand.tmp 244) (Operand.const (Value.int IntKind.i64 0)) 29, type := 4, pos := "outright.go:50", after := #[{ on := 0, ground := Ground.data }], guard := none }, { dst := some 246, op := Op.move (Operand.tmp 245), type := 4, pos := "outright.go:50", after := #[{ on := 1, ground := Ground.data }], guard := none }, { dst := some 247, op := Op.move (Operand.tmp 30), type := 3, pos := "outright.go:50", after := #[{ on := 2, ground := Ground.guard }], guard := some (2, false) }, { dst := some 248, op := Op.fieldAddr 28 (Operand.tmp 28) 0, type := 0, pos := "outright.go:50", after := #[{ on := 2, ground := Ground.guard }], guard := some (2, false) }, { dst := some 249, op := Op.load 3 (Operand.tmp 248), type := 3, pos := "outright.go:50", after := #[{ on := 4, ground := Ground.data }, { on := 2, ground := Ground.guard }], guard := some (2, false) }, { dst := some 250, op := Op.binOp BinOp.lss 3 (Operand.tmp 247) (Operand.tmp 249) 3, type := 4, pos := "outright.go:50", after := #[{ on := 3, ground := Ground.data }, { on := 5, ground := Ground.data }, { on := 2, ground := Ground.guard }], guard := some (2, false) }, { dst := some 251, op := Op.pick (Operand.tmp 246) (Operand.const (Value.bool true)) (Operand.tmp 250), type := 4, pos := "outright.go:50", after := #[{ on := 2, ground := Ground.data }, { on := 6, ground := Ground.data }], guard := none }, { dst := some 252, op := Op.move (Operand.tmp 251), type := 4, pos := "outright.go:50", after := #[{ on := 7, ground := Ground.data }, { on := 2, ground := Ground.chain }], guard := none }, { dst := some 253, op := Op.move (Operand.tmp 30), type := 3, pos := "outright.go:50", after := #[{ on := 8, ground := Ground.guard }], guard := some (8, false) }, { dst := some 254, op := Op.fieldAddr 28 (Operand.tmp 28) 1, type := 0, pos := "outright.go:50", after := #[{ on := 8, ground := Ground.guard }], guard := some (8, false) }, { dst := some 255, op := Op.load 3 (Operand.tmp 254), type := 3, pos := "outright.go:50", after := #[{ on := 10, ground := Ground.data }, { on := 8, ground := Ground.guard }], guard := some (8, false) }, { dst := some 256, op := Op.binOp BinOp.gtr 3 (Operand.tmp 253) (Operand.tmp 255) 3, type := 4, pos := "outright.go:50", after := #[{ on := 9, ground := Ground.data }, { on := 11, ground := Ground.data }, { on := 8, ground := Ground.guard }], guard := some (8, false) }, { dst := some 257, op := Op.pick (Operand.tmp 252) (Operand.const (Value.bool true)) (Operand.tmp 256), type := 4, pos := "outright.go:50", after := #[{ on := 8, ground := Ground.data }, { on := 12, ground := Ground.data }], guard := none }, { dst := some 258, op := Op.move (Operand.tmp 257), type := 4, pos := "outright.go:50", after := #[{ on := 13, ground := Ground.data }, { on := 8, ground := Ground.chain }], guard := none }, { dst := some 259, op := Op.move (Operand.tmp 30), type := 3, pos := "outright.go:50", after := #[{ on := 14, ground := Ground.guard }], guard := some (14, false) }, { dst := some 260, op := Op.fieldAddr 24 (Operand.tmp 4) 1, type := 0, pos := "outright.go:50", after := #[{ on := 14, ground := Ground.guard }], guard := some (14, false) }, { dst := some 261, op := Op.load 3 (Operand.tmp 260), type := 3, pos := "outright.go:50", after := #[{ on := 16, ground := Ground.data }, { on := 14, ground := Ground.guard }], guard := some (14, false) }, { dst := some 262, op := Op.move (Operand.tmp 1), type := 33, pos := "outright.go:50", after := #[{ on := 14, ground := Ground.guard }], guard := some (14, false) }, { dst := some 263, op := Op.move (Operand.tmp 26), type := 3, pos := "outright.go:50", after := #[{ on := 14, ground := Ground.guard }], guard := some (14, false) }, { dst := some 264, op := Op.indexAddr 33 (Operand.tmp 262) (Operand.tmp 263), type := 0, pos := "outright.go:50", after := #[{ on := 18, ground := Ground.data }, { on := 19, ground := Ground.data }, { on := 14, ground := Ground.guard }], guard := some (14, false) }, { dst := some 265, op := Op.fieldAddr 58 (Operand.tmp 264) 1, type := 0, pos := "outright.go:50", after := #[{ on := 20, ground := Ground.data }, { on := 14, ground := Ground.guard }], guard := some (14, false) }, { dst := some 266, op := Op.load 3 (Operand.tmp 265), type := 3, pos := "outright.go:50", after := #[{ on := 21, ground := Ground.data }, { on := 14, ground := Ground.guard }], guard := some (14, false) }, { dst := some 267, op := Op.binOp BinOp.add 3 (Operand.tmp 261) (Operand.tmp 266) 3, type := 3, pos := "outright.go:50", after := #[{ on := 17, ground := Ground.data }, { on := 22, ground := Ground.data }, { on := 14, ground := Ground.guard }], guard := some (14, false) }, { dst := some 268, op := Op.binOp BinOp.gtr 3 (Operand.tmp 259) (Operand.tmp 267) 3, type := 4, pos := "outright.go:50", after := #[{ on := 15, ground := Ground.data }, { on := 23, ground := Ground.data }, { on := 14, ground := Ground.guard }], guard := some (14, false) }, { dst := some 269, op := Op.pick (Operand.tmp 258) (Operand.const (Value.bool true)) (Operand.tmp 268), type := 4, pos := "outright.go:50", after := #[{ on := 14, ground := Ground.data }, { on := 24, ground := Ground.data }], guard := none }] true).seq (Code.cond (Operand.tmp 269) ((Code.region 35 #[{ dst := some 8, op := Op.assign (Operand.const (Value.bool false)), type := 4, pos := "outright.go:51", after := #[], guard := none }] false).seq Code.ret) Code.skip)).seq (Code.region 36 #[{ dst := some 270, op := Op.move (Operand.tmp 25), type := 3, pos := "outright.go:53", after := #[], guard := none }, { dst := some 271, op := Op.move (Operand.tmp 1), type := 33, pos := "outright.go:53", after := #[], guard := none }, { dst := some 272, op := Op.move (Operand.tmp 26), type := 3, pos := "outright.go:53", after := #[], guard := none }, { dst := some 273, op := Op.indexAddr 33 (Operand.tmp 271) (Operand.tmp 272), type := 0, pos := "outright.go:53", after := #[{ on := 1, ground := Ground.data }, { on := 2, ground := Ground.data }], guard := none }, { dst := some 274, op := Op.fieldAddr 58 (Operand.tmp 273) 0, type := 0, pos := "outright.go:53", after := #[{ on := 3, ground := Ground.data }], guard := none }, { dst := some 275, op := Op.load 3 (Operand.tmp 274), type := 3, pos := "outright.go:53", after := #[{ on := 4, ground := Ground.data }], guard := none }, { dst := some 276, op := Op.binOp BinOp.add 3 (Operand.tmp 270) (Operand.tmp 275) 3, type := 3, pos := "outright.go:53", after := #[{ on := 0, ground := Ground.data }, { on := 5, ground := Ground.data }], guard := none }, { dst := some 25, op := Op.assign (Operand.tmp 276), type := 3, pos := "outright.go:53", after := #[{ on := 6, ground := Ground.data }, { on := 0, ground := Ground.phase }, { on := 1, ground := Ground.phase }, { on := 2, ground := Ground.phase }, { on := 3, ground := Ground.phase }, { on := 4, ground := Ground.phase }, { on := 5, ground := Ground.phase }, { on := 6, ground := Ground.phase }], guard := none }] false))))))).seq (Code.region 28 #[{ dst := some 186, op := Op.move (Operand.tmp 26), type := 3, pos := "outright.go:43", after := #[], guard := none }, { dst := some 187, op := Op.binOp BinOp.add 3 (Operand.tmp 186) (Operand.const (Value.int IntKind.i64 1)) 3, type := 3, pos := "outright.go:43", after := #[{ on := 0, ground := Ground.data }], guard := none }, { dst := some 26, op := Op.assign (Operand.tmp 187), type := 3, pos := "outright.go:43", after := #[{ on := 1, ground := Ground.data }, { on := 0, ground := Ground.phase }, { on := 1, ground := Ground.phase }], guard := none }] false))).loop)))))).seq (Code.region 22 #[{ dst := some 154, op := Op.move (Operand.tmp 21), type := 3, pos := "outright.go:39", after := #[], guard := none }, { dst := some 155, op := Op.binOp BinOp.add 3 (Operand.tmp 154) (Operand.const (Value.int IntKind.i64 1)) 3, type := 3, pos := "outright.go:39", after := #[{ on := 0, ground := Ground.data }], guard := none }, { dst := some 21, op := Op.assign (Operand.tmp 155), type := 3, pos := "outright.go:39", after := #[{ on := 1, ground := Ground.data }, { on := 0, ground := Ground.phase }, { on := 1, ground := Ground.phase }], guard := none }] false))).loop

set_option maxRecDepth 100000 in
set_option maxHeartbeats 32000000 in
theorem law6_inner {x0 x2 x5 x6 x7 x8 x9 x10 x11 x12 x14 x15 x16 x17 x18 x19 x20 x22 x23 x24 x25 x26 x27 x28 x29 x30 x31 x32 x33 x34 x35 x36 x37 x38 x39 x40 x41 x42 x43 x44 x45 x46 x47 x48 x49 x50 x51 x52 x53 x54 x55 x56 x57 x58 x59 x60 x61 x62 x63 x64 x65 x66 x67 x68 x69 x70 x71 x72 x73 x74 x75 x76 x77 x78 x79 x80 x81 x82 x83 x84 x85 x86 x87 x88 x89 x90 x91 x92 x93 x94 x95 x96 x97 x98 x99 x100 x101 x102 x103 x104 x105 x106 x107 x108 x109 x110 x111 x112 x113 x114 x115 x116 x117 x118 x119 x120 x121 x122 x123 x124 x125 x126 x127 x128 x129 x130 x131 x132 x133 x134 x135 x136 x137 x138 x139 x140 x141 x142 x143 x144 x145 x146 x147 x148 x149 x150 x151 x152 x153 x154 x155 x156 x157 x158 x159 x160 x161 x162 x163 x164 x165 x166 x167 x168 x169 x170 x171 x172 x173 x174 x175 x176 x177 x178 x179 x180 x181 x182 x183 x184 x185 x186 x187 x188 x189 x190 x191 x192 x193 x194 x195 x196 x197 x198 x199 x200 x201 x202 x203 x204 x205 x206 x207 x208 x209 x210 x211 x212 x213 x214 x215 x216 x217 x218 x219 x220 x221 x222 x223 x224 x225 x226 x227 x228 x229 x230 x231 x232 x233 x234 x235 x236 x237 x238 x239 x240 x241 x242 x243 x244 x245 x246 x247 x248 x249 x250 x251 x252 x253 x254 x255 x256 x257 x258 x259 x260 x261 x262 x263 x264 x265 x266 x267 x268 x269 x270 x271 x272 x273 x274 x275 x276 x277 : Value} (B : Nat) (ab af : Nat) (cap : Nat) (d : Dye) (lo : Option Addr) (lcap : Nat) (l : List (Int × Int)) (qa : Option Addr) (qc : Nat) (q : List Int) (bb boff bn bcap : Nat) (w w9 : World) (h0 : 0 < bn) (hbn2 : bn ≤ 9223372036854775807) (hl7 : l.length ≤ 7) (l1 : 1 ≤ d.bl.length) (l5 : d.bl.length ≤ 5) (db1 : 0 ≤ d.bound) (db2 : d.bound ≤ 100000)
    (HFr : Hold (Kept w9 (Lawt w B (some ⟨ab, af, none⟩) cap d lo l qa q)))
    (HBY : Hold (∀ W, Mod noB w W → ∀ j, j < bn → ∃ u : Nat, u ≤ 65535 ∧ w.cell? ⟨bb, boff + j, none⟩ = some (.int .u16 u) ∧ W.cell? ⟨bb, boff + j, none⟩ = some (.int .u16 u)))
    (HPX : Hold (∀ q : List Int, planB d l q = true → q.length ≤ 6 ∧ ∀ x ∈ q, 0 ≤ x ∧ x ≤ 31)) (HDS : Hold (dieB d = true ∧ stintsB l = true))
    (HBS : Hold ((∀ b ∈ d.bl, (0 ≤ b.f.1 ∧ b.f.1 ≤ b.f.2 ∧ b.f.2 ≤ 10000) ∧ 0 ≤ b.w.1 ∧ b.w.1 ≤ b.w.2 ∧ b.w.2 ≤ 10000) ∧ ∀ s ∈ l, stintB s = true)) (HGD : Hold (planB d l q = true ∧ badR d 0 zeroR l (0 :: natsOf q) = none)) :
    Code.wp Tryd.prog bodyL (Exit.inBlock 2 (only fun a' w' => ∃ v : Nat → Value, a' = { tmps := List.toArray (x0 :: Value.slice lo l.length lcap :: x2 :: Value.slice (some ⟨bb, boff, none⟩) bn bcap :: Value.pointer (some ⟨w.heap.size, 0, none⟩) :: x5 :: x6 :: x7 :: v 8 :: x9 :: x10 :: x11 :: x12 :: Value.slice qa q.length qc :: x14 :: x15 :: x16 :: x17 :: x18 :: x19 :: x20 :: v 21 :: v 22 :: v 23 :: v 24 :: v 25 :: v 26 :: v 27 :: v 28 :: v 29 :: v 30 :: x31 :: x32 :: x33 :: x34 :: x35 :: x36 :: x37 :: x38 :: x39 :: x40 :: x41 :: x42 :: x43 :: x44 :: x45 :: x46 :: x47 :: x48 :: x49 :: x50 :: x51 :: x52 :: x53 :: x54 :: x55 :: x56 :: x57 :: x58 :: x59 :: x60 :: x61 :: x62 :: x63 :: x64 :: x65 :: x66 :: x67 :: x68 :: x69 :: x70 :: x71 :: x72 :: x73 :: x74 :: x75 :: x76 :: x77 :: x78 :: x79 :: x80 :: x81 :: x82 :: x83 :: x84 :: x85 :: x86 :: x87 :: x88 :: x89 :: x90 :: x91 :: x92 :: x93 :: x94 :: x95 :: x96 :: x97 :: x98 :: x99 :: x100 :: x101 :: x102 :: x103 :: x104 :: x105 :: x106 :: x107 :: x108 :: x109 :: x110 :: x111 :: x112 :: x113 :: x114 :: x115 :: x116 :: x117 :: x118 :: x119 :: x120 :: x121 :: x122 :: x123 :: x124 :: x125 :: x126 :: x127 :: x128 :: x129 :: x130 :: x131 :: x132 :: x133 :: x134 :: x135 :: x136 :: x137 :: x138 :: x139 :: x140 :: x141 :: x142 :: x143 :: x144 :: x145 :: x146 :: x147 :: x148 :: v 149 :: v 150 :: v 151 :: v 152 :: v 153 :: v 154 :: v 155 :: v 156 :: v 157 :: v 158 :: v 159 :: v 160 :: v 161 :: v 162 :: v 163 :: v 164 :: v 165 :: v 166 :: v 167 :: v 168 :: v 169 :: v 170 :: v 171 :: v 172 :: v 173 :: v 174 :: v 175 :: v 176 :: v 177 :: v 178 :: v 179 :: v 180 :: v 181 :: v 182 :: v 183 :: v 184 :: v 185 :: v 186 :: v 187 :: v 188 :: v 189 :: v 190 :: v 191 :: v 192 :: v 193 :: v 194 :: v 195 :: v 196 :: v 197 :: v 198 :: v 199 :: v 200 :: v 201 :: v 202 :: v 203 :: v 204 :: v 205 :: v 206 :: v 207 :: v 208 :: v 209 :: v 210 :: v 211 :: v 212 :: v 213 :: v 214 :: v 215 :: v 216 :: v 217 :: v 218 :: v 219 :: v 220 :: v 221 :: v 222 :: v 223 :: v 224 :: v 225 :: v 226 :: v 227 :: v 228 :: v 229 :: v 230 :: v 231 :: v 232 :: v 233 :: v 234 :: v 235 :: v 236 :: v 237 :: v 238 :: v 239 :: v 240 :: v 241 :: v 242 :: v 243 :: v 244 :: v 245 :: v 246 :: v 247 :: v 248 :: v 249 :: v 250 :: v 251 :: v 252 :: v 253 :: v 254 :: v 255 :: v 256 :: v 257 :: v 258 :: v 259 :: v 260 :: v 261 :: v 262 :: v 263 :: v 264 :: v 265 :: v 266 :: v 267 :: v 268 :: v 269 :: v 270 :: v 271 :: v 272 :: v 273 :: v 274 :: v 275 :: v 276 :: x277 :: []), defers := [] } ∧ Mod noB w9 w'))
      { tmps := List.toArray (x0 :: Value.slice lo l.length lcap :: x2 :: Value.slice (some ⟨bb, boff, none⟩) bn bcap :: Value.pointer (some ⟨w.heap.size, 0, none⟩) :: x5 :: x6 :: x7 :: x8 :: x9 :: x10 :: x11 :: x12 :: Value.slice qa q.length qc :: x14 :: x15 :: x16 :: x17 :: x18 :: x19 :: x20 :: Value.int .i64 0 :: x22 :: x23 :: x24 :: x25 :: x26 :: x27 :: x28 :: x29 :: x30 :: x31 :: x32 :: x33 :: x34 :: x35 :: x36 :: x37 :: x38 :: x39 :: x40 :: x41 :: x42 :: x43 :: x44 :: x45 :: x46 :: x47 :: x48 :: x49 :: x50 :: x51 :: x52 :: x53 :: x54 :: x55 :: x56 :: x57 :: x58 :: x59 :: x60 :: x61 :: x62 :: x63 :: x64 :: x65 :: x66 :: x67 :: x68 :: x69 :: x70 :: x71 :: x72 :: x73 :: x74 :: x75 :: x76 :: x77 :: x78 :: x79 :: x80 :: x81 :: x82 :: x83 :: x84 :: x85 :: x86 :: x87 :: x88 :: x89 :: x90 :: x91 :: x92 :: x93 :: x94 :: x95 :: x96 :: x97 :: x98 :: x99 :: x100 :: x101 :: x102 :: x103 :: x104 :: x105 :: x106 :: x107 :: x108 :: x109 :: x110 :: x111 :: x112 :: x113 :: x114 :: x115 :: x116 :: x117 :: x118 :: x119 :: x120 :: x121 :: x122 :: x123 :: x124 :: x125 :: x126 :: x127 :: x128 :: x129 :: x130 :: x131 :: x132 :: x133 :: x134 :: x135 :: x136 :: x137 :: x138 :: x139 :: x140 :: x141 :: x142 :: x143 :: x144 :: x145 :: x146 :: x147 :: x148 :: x149 :: x150 :: x151 :: x152 :: x153 :: x154 :: x155 :: x156 :: x157 :: x158 :: x159 :: x160 :: x161 :: x162 :: x163 :: x164 :: x165 :: x166 :: x167 :: x168 :: x169 :: x170 :: x171 :: x172 :: x173 :: x174 :: x175 :: x176 :: x177 :: x178 :: x179 :: x180 :: x181 :: x182 :: x183 :: x184 :: x185 :: x186 :: x187 :: x188 :: x189 :: x190 :: x191 :: x192 :: x193 :: x194 :: x195 :: x196 :: x197 :: x198 :: x199 :: x200 :: x201 :: x202 :: x203 :: x204 :: x205 :: x206 :: x207 :: x208 :: x209 :: x210 :: x211 :: x212 :: x213 :: x214 :: x215 :: x216 :: x217 :: x218 :: x219 :: x220 :: x221 :: x222 :: x223 :: x224 :: x225 :: x226 :: x227 :: x228 :: x229 :: x230 :: x231 :: x232 :: x233 :: x234 :: x235 :: x236 :: x237 :: x238 :: x239 :: x240 :: x241 :: x242 :: x243 :: x244 :: x245 :: x246 :: x247 :: x248 :: x249 :: x250 :: x251 :: x252 :: x253 :: x254 :: x255 :: x256 :: x257 :: x258 :: x259 :: x260 :: x261 :: x262 :: x263 :: x264 :: x265 :: x266 :: x267 :: x268 :: x269 :: x270 :: x271 :: x272 :: x273 :: x274 :: x275 :: x276 :: x277 :: []), defers := [] } w9 := by
  unfold bodyL
  go_loopw [21] (fun i wr => ∃ b : Nat, b ≤ d.bl.length ∧ i = .int .i64 b ∧ Mod noB w9 wr) (fun i _ => d.bl.length - (intOf i).toNat)
  case atStart => exact ⟨0, Nat.zero_le _, rfl, Mod.refl _ _⟩
  case round =>
    obtain ⟨b, hb, rfl, hm⟩ := hrel
    have HMb := Hold.mk hm
    have HFb := Hold.mk (HFr.out.later hm)
    have HQb : Hold (Kept wr (fun W => IntsAt W qa q)) := ⟨fun W h => (HFb.out W h).2⟩
    clear hm
    have hg := HFb.out.now.1.1
    have g0 := cellsAt hg 0
    clear hg
    by_cases hlt : b < d.bl.length
    · obtain ⟨x, hx⟩ : ∃ x : Bld, d.bl[b]? = some x := ⟨_, List.getElem?_eq_getElem hlt⟩
      obtain ⟨⟨f1, f2⟩, ⟨v1, v2⟩⟩ := x
      have hxb := HBS.out.1 _ (List.mem_of_getElem? hx)
      simp only at hxb
      obtain ⟨⟨hf0, hf1, hf2⟩, hv0, hv1, hv2⟩ := hxb
      have hbA : bladeAt d b = ⟨(f1, f2), (v1, v2)⟩ := by unfold bladeAt; rw [hx]; rfl
      obtain ⟨ab', af', hab, hab2, q0, q1, q2, q3⟩ := HFb.out.now.1.2.1.bl.blade hx
      obtain ⟨rfl, rfl⟩ : ab = ab' ∧ af = af' := by simpa using hab
      simp only at q0 q1 q2 q3
      have HBA := Hold.mk hbA
      have hbI : (b : Int) < (d.bl.length : Int) := by omega
      have hne0 : ¬ bn = 0 := by omega
      obtain ⟨j1, hj1⟩ : ∃ j, b % bn = j := ⟨_, rfl⟩
      obtain ⟨j2, hj2⟩ : ∃ j, (b + 1) % bn = j := ⟨_, rfl⟩
      have hl1 : j1 < bn := by rw [← hj1]; exact Nat.mod_lt _ h0
      have hl2 : j2 < bn := by rw [← hj2]; exact Nat.mod_lt _ h0
      have hr1 : Int.tmod (b : Int) (bn : Int) = (j1 : Int) := by rw [← hj1]; rfl
      have hr2 : Int.tmod ((b : Int) + 1) (bn : Int) = (j2 : Int) := by rw [← hj2]; rfl
      have hj91 : j1 ≤ 100 := by rw [← hj1]; exact Nat.le_trans (Nat.mod_le _ _) (by omega)
      have hj92 : j2 ≤ 100 := by rw [← hj2]; exact Nat.le_trans (Nat.mod_le _ _) (by omega)
      obtain ⟨u1, hu1, _, c1⟩ := HBY.out wr HFb.out.now.1.2.2 j1 hl1
      obtain ⟨u2, hu2, _, c2⟩ := HBY.out wr HFb.out.now.1.2.2 j2 hl2
      have hbbl : bb < wr.heap.size := World.block_lt_of_cell? _ _ c1
      have hnew := World.alloc_heap_new wr (.cells #[.int .i64 f1, .int .i64 f2, .int .i64 v1, .int .i64 v2] 53)
      have FIN : Hold (∀ W', Mod noB (wr.alloc (.cells #[.int .i64 f1, .int .i64 f2, .int .i64 v1, .int .i64 v2] 53)) W' → (W'.cell? ⟨wr.heap.size, 0, none⟩ = some (.int .i64 f1) ∧ W'.cell? ⟨wr.heap.size, 1, none⟩ = some (.int .i64 f2) ∧ W'.cell? ⟨wr.heap.size, 2, none⟩ = some (.int .i64 v1) ∧ W'.cell? ⟨wr.heap.size, 3, none⟩ = some (.int .i64 v2)) ∧ W'.cell? ⟨bb, boff + j1, none⟩ = some (.int .u16 u1) ∧ W'.cell? ⟨bb, boff + j2, none⟩ = some (.int .u16 u2)) := ⟨fun W' h => ⟨⟨cellsAt (h.at hnew id) 0, cellsAt (h.at hnew id) 1, cellsAt (h.at hnew id) 2, cellsAt (h.at hnew id) 3⟩, (cell_same ((((Mod.refl noB wr).alloc _).trans h).block bb hbbl id) _).trans c1, (cell_same ((((Mod.refl noB wr).alloc _).trans h).block bb hbbl id) _).trans c2⟩⟩
      have HX0 : Hold (Kept (wr.alloc (.cells #[.int .i64 f1, .int .i64 f2, .int .i64 v1, .int .i64 v2] 53)) (fun W => W.heap[wr.heap.size]? = some (.cells #[.int .i64 f1, .int .i64 f2, .int .i64 v1, .int .i64 v2] 53))) := ⟨kept_block hnew⟩
      obtain ⟨wear, hwear⟩ : ∃ v, pickR (v1, v2) u1 = v := ⟨_, rfl⟩
      obtain ⟨fr0, hfr0⟩ : ∃ v, pickR (f1, f2) u2 = v := ⟨_, rfl⟩
      have hwb := pickR_in (s := (v1, v2)) hv1 u1
      have hfb := pickR_in (s := (f1, f2)) hf1 u2
      rw [hwear] at hwb
      rw [hfr0] at hfb
      simp only at hwb hfb
      have HW32 : Hold (∀ W, Calls Tryd.prog 32 #[spV (v1, v2), .int .u16 u1] W fun e w' => e = .returned (.int .i64 wear) ∧ Mod noB W w') := ⟨fun W => by rw [← hwear]; exact pick_any (v1, v2) u1 W hv0 hv1 hv2 hu1⟩
      have HE32 : Hold (∀ W, Calls Tryd.prog 32 #[spV (f1, f2), .int .u16 u2] W fun e w' => e = .returned (.int .i64 fr0) ∧ Mod noB W w') := ⟨fun W => by rw [← hfr0]; exact pick_any (f1, f2) u2 W hf0 hf1 hf2 hu2⟩
      have HNM := Hold.mk (And.intro hnew (And.intro hu1 hu2))
      clear hx hab hab2 hbA hj1 hj2 c1 c2 hwear hfr0 hnew hu1 hu2
      go_wp2
      refine region_ta (xb := wr.heap.size) (bb := bb) (boff := boff) (bn := bn) (bcap := bcap) (j := j1) (u := u1) (b := b) (p := v1) (q := v2) (wr := wear) rfl rfl rfl rfl (fun W' h => (FIN.out W' h).1.2.2.1) (fun W' h => (FIN.out W' h).1.2.2.2) (fun W' h => (FIN.out W' h).2.1) HW32.out hne0 hl1 hj91 hr1 (by omega) ?_
      intro Wq hq
      simp only [taDs, taC, List.foldl_cons, List.foldl_nil, Act.put, List.setIfInBounds_toArray, List.set_cons_succ, List.set_cons_zero, List.getD_cons_zero, List.getD_cons_succ]
      have FIN2 : Hold (∀ W', Mod noB Wq W' → (W'.cell? ⟨wr.heap.size, 0, none⟩ = some (.int .i64 f1) ∧ W'.cell? ⟨wr.heap.size, 1, none⟩ = some (.int .i64 f2) ∧ W'.cell? ⟨wr.heap.size, 2, none⟩ = some (.int .i64 v1) ∧ W'.cell? ⟨wr.heap.size, 3, none⟩ = some (.int .i64 v2)) ∧ W'.cell? ⟨bb, boff + j1, none⟩ = some (.int .u16 u1) ∧ W'.cell? ⟨bb, boff + j2, none⟩ = some (.int .u16 u2)) := ⟨fun W' h => FIN.out W' (hq.trans h)⟩
      have HMq := Hold.mk hq
      clear hq
      go_wp2
      refine region_tb (xb := wr.heap.size) (bb := bb) (boff := boff) (bn := bn) (bcap := bcap) (j := j2) (u := u2) (b := b) (p := f1) (q := f2) (wr := fr0) rfl rfl rfl rfl (fun W' h => (FIN2.out W' h).1.1) (fun W' h => (FIN2.out W' h).1.2.1) (fun W' h => (FIN2.out W' h).2.2) HE32.out hne0 hl2 hj92 hr2 (by omega) ?_
      intro W5 hq
      simp only [tbDs, tbC, List.foldl_cons, List.foldl_nil, Act.put, List.setIfInBounds_toArray, List.set_cons_succ, List.set_cons_zero, List.getD_cons_zero, List.getD_cons_succ]
      have HM5 : Hold (Mod noB wr W5) := ⟨(((Mod.refl noB wr).alloc _).trans HMq.out).trans hq⟩
      have HX5 := Hold.mk (HX0.out.later (HMq.out.trans hq))
      have HF5 := Hold.mk (HFb.out.later HM5.out)
      have HQ5 := Hold.mk (HQb.out.later HM5.out)
      have HMb5 := Hold.mk (HMb.out.trans HM5.out)
      clear hq FIN FIN2 HMq HX0 HFb HQb HMb HW32 HE32 HNM q0 q1 q2 q3 g0
      go_wp2
      generalize wr.heap.size = xb at *
      generalize wr = wb at *
      go_loopw [24, 25, 26] (fun fv rv i wr => ∃ (s : Nat) (fr rn : Int) (r : Nat → Int), s ≤ l.length ∧ i = .int .i64 s ∧ fv = .int .i64 fr ∧ rv = .int .i64 rn ∧ (f1 ≤ fr ∧ fr ≤ f2) ∧ Hold (rn = r b ∧ (∀ j, j < 5 → 0 ≤ r j ∧ r j ≤ s * 1000) ∧ badR d s r (l.drop s) ((0 :: natsOf q).drop s) = none) ∧ Hold (Mod noB W5 wr)) (fun _ _ i _ => l.length - (intOf i).toNat)
      case atStart => exact ⟨0, fr0, 0, zeroR, Nat.zero_le _, rfl, rfl, rfl, hfb, ⟨rfl, fun j _ => ⟨by simp [zeroR], by simp [zeroR]⟩, HGD.out.2⟩, ⟨Mod.refl _ _⟩⟩
      case round =>
        obtain ⟨s, fr, rn, r, hs, rfl, rfl, rfl, hfr, HR, HMs⟩ := hrel
        have HFs := Hold.mk (HF5.out.later HMs.out)
        have HQs := Hold.mk (HQ5.out.later HMs.out)
        have HXs := Hold.mk (HX5.out.later HMs.out)
        by_cases hls : s < l.length
        · obtain ⟨⟨st, mo⟩, hst⟩ : ∃ x, l[s]? = some x := ⟨_, List.getElem?_eq_getElem hls⟩
          have hsb := HBS.out.2 _ (List.mem_of_getElem? hst)
          simp only [stintB, fromB, Bool.and_eq_true, decide_eq_true_eq] at hsb
          obtain ⟨⟨hst1, hst2⟩, hmo1, hmo2⟩ := hsb
          obtain ⟨hfl, hnx⟩ := bad_none HR.out.2.2 hst
          obtain ⟨set, hset⟩ : ∃ set, setAt q s = set := ⟨_, rfl⟩
          rw [hset] at hfl hnx
          have HSET := Hold.mk hset
          have hbd := HR.out.2.1 b (by omega)
          have hbent : 0 ≤ bentR r set b ∧ bentR r set b ≤ s * 1000 := by unfold bentR; split <;> omega
          have HFL := Hold.mk (failing_iff.1 hfl b hlt)
          have HNX := Hold.mk hnx
          have HRD := Hold.mk (run_bd (d := d) (set := set) (mo := mo) HR.out.2.1 ⟨hst1, hst2⟩)
          obtain ⟨sb, soff, hlo, hsb1, p0, p1⟩ := HFs.out.now.1.2.1.st.stint hst
          subst hlo
          have hsb2 : sb < wr.heap.size := Nat.lt_of_lt_of_le hsb1 HFs.out.now.1.2.1.le
          have HST := Hold.mk (And.intro p0 (And.intro p1 hsb2))
          have hsI : (s : Int) < (l.length : Int) := by omega
          have hs7 : s ≤ 6 := by omega
          clear hfl hnx hset hst p0 p1 hsb1 hsb2 hbd
          go_upto_region 29 with fail
          go_cut [198] from 188 to 198 (fun s198 wx => s198 = .bool (set.testBit b) ∧ Hold (Mod noB wr wx))
          case first =>
            rcases (show s = 0 ∨ ∃ s', s = s' + 1 from by cases s with | zero => exact .inl rfl | succ n => exact .inr ⟨n, rfl⟩) with hs0 | ⟨s', hs1⟩
            · have ht : set.testBit b = false := by rw [← HSET.out, hs0, setAt_zero]; simp
              have hI : ¬ (0 : Int) < (s : Int) := by omega
              have HT := Hold.mk ht
              clear hs0 ht
              go_wp2
              go_meet
              exact ⟨by rw [HT.out], ⟨Mod.refl _ _⟩⟩
            · have hQl : q.length = l.length - 1 := by
                have := HGD.out.1
                simp only [planB, Bool.and_eq_true, decide_eq_true_eq] at this
                omega
              obtain ⟨x, hx⟩ : ∃ x, q[s']? = some x := ⟨_, List.getElem?_eq_getElem (by omega)⟩
              obtain ⟨x0, x31⟩ := (HPX.out q HGD.out.1).2 x (List.mem_of_getElem? hx)
              obtain ⟨sn, rfl⟩ : ∃ n : Nat, x = n := ⟨x.toNat, by omega⟩
              have hset2 : set = sn := by rw [← HSET.out, hs1, setAt_succ hx]; simp
              subst hset2
              obtain ⟨pb, poff, hpo, hpb1, hpc⟩ := HQs.out.now.lies (fun e => by rw [e] at hx; simp at hx)
              subst hpo
              have c0 := hpc s' (List.getElem?_eq_some_iff.1 hx).1
              rw [hx, Option.getD_some] at c0
              have hi2 : (s : Int) - 1 = (s' : Int) := by omega
              have hI : (0 : Int) < (s : Int) := by omega
              have hi3 : (s' : Int) < (q.length : Int) := by have := (List.getElem?_eq_some_iff.1 hx).1; omega
              have H33 : Hold (∀ W, Calls Tryd.prog 33 #[.int .i64 set, .int .i64 b] W fun e w' => e = .returned (.bool (set.testBit b)) ∧ Mod noB W w') := ⟨fun W => has_any set b W (by omega) (by omega)⟩
              clear hpc hx hpb1 hs1 hQl
              go_wp2_with (go_at_call 33; refine (H33.out _).mono ?_; rintro e w2 ⟨rfl, hM⟩; have HM2 := Hold.mk hM; clear hM)
              go_meet
              exact ⟨rfl, HM2⟩
          case rest =>
          obtain ⟨rfl, HM9⟩ := hcut
          generalize wc = wd at *
          go_upto_if 198 with fail
          go_cut [24, 25] from 198 to 211 (fun s24 s25 wx => ∃ fr' rn' : Int, s24 = .int .i64 fr' ∧ s25 = .int .i64 rn' ∧ (f1 ≤ fr' ∧ fr' ≤ f2) ∧ rn' = bentR r set b ∧ Hold (Mod noB wd wx))
          case first =>
            cases ht : set.testBit b
            · go_wp2
              go_meet
              exact ⟨fr, rn, rfl, rfl, hfr, by rw [HR.out.1]; simp [bentR, ht], ⟨Mod.refl _ _⟩⟩
            · obtain ⟨j3, hj3⟩ : ∃ j, (b + s + 2) % bn = j := ⟨_, rfl⟩
              have hl3 : j3 < bn := by rw [← hj3]; exact Nat.mod_lt _ h0
              have hr3 : Int.tmod ((b : Int) + (s : Int) + 2) (bn : Int) = (j3 : Int) := by rw [← hj3]; rfl
              have hj93 : j3 ≤ 100 := by rw [← hj3]; exact Nat.le_trans (Nat.mod_le _ _) (by omega)
              have HFd := Hold.mk (HFs.out.later HM9.out)
              obtain ⟨u3, hu3, _, c3⟩ := HBY.out wd HFd.out.now.1.2.2 j3 hl3
              have hbb3 : bb < wd.heap.size := World.block_lt_of_cell? _ _ c3
              have hxd := (HXs.out.later HM9.out).now
              have FIN : Hold (∀ W', Mod noB wd W' → (W'.cell? ⟨xb, 0, none⟩ = some (.int .i64 f1) ∧ W'.cell? ⟨xb, 1, none⟩ = some (.int .i64 f2) ∧ W'.cell? ⟨xb, 2, none⟩ = some (.int .i64 v1) ∧ W'.cell? ⟨xb, 3, none⟩ = some (.int .i64 v2)) ∧ W'.cell? ⟨bb, boff + j3, none⟩ = some (.int .u16 u3)) := ⟨fun W' h => ⟨⟨cellsAt (h.at hxd id) 0, cellsAt (h.at hxd id) 1, cellsAt (h.at hxd id) 2, cellsAt (h.at hxd id) 3⟩, (cell_same (h.block bb hbb3 id) _).trans c3⟩⟩
              obtain ⟨fr3, hfr3⟩ : ∃ v, pickR (f1, f2) u3 = v := ⟨_, rfl⟩
              have hfb3 := pickR_in (s := (f1, f2)) hf1 u3
              rw [hfr3] at hfb3
              simp only at hfb3
              have HE32 : Hold (∀ W, Calls Tryd.prog 32 #[spV (f1, f2), .int .u16 u3] W fun e w' => e = .returned (.int .i64 fr3) ∧ Mod noB W w') := ⟨fun W => by rw [← hfr3]; exact pick_any (f1, f2) u3 W hf0 hf1 hf2 hu3⟩
              clear hj3 c3 hxd hfr3
              go_wp2
              refine region_tc (xb := xb) (bb := bb) (boff := boff) (bn := bn) (bcap := bcap) (j := j3) (u := u3) (b := b) (s := s) (p := f1) (q := f2) (wr := fr3) rfl rfl rfl rfl rfl (fun W' h => (FIN.out W' h).1.1) (fun W' h => (FIN.out W' h).1.2.1) (fun W' h => (FIN.out W' h).2) HE32.out hne0 hl3 hj93 hr3 (by omega) (by omega) ?_
              intro Wq hq
              simp only [tcDs, tcC, List.foldl_cons, List.foldl_nil, Act.put, List.setIfInBounds_toArray, List.set_cons_succ, List.set_cons_zero, List.getD_cons_zero, List.getD_cons_succ]
              have HMq := Hold.mk hq
              clear hq
              go_wp2
              go_meet
              exact ⟨fr3, 0, rfl, rfl, hfb3, by simp [bentR, ht], HMq⟩
          case rest =>
          obtain ⟨fr', rn', rfl, rfl, hfr', hrn, HMc⟩ := hcut
          have HRN := Hold.mk hrn
          have hrb : 0 ≤ rn' ∧ rn' ≤ s * 1000 := by rw [hrn]; exact hbent
          clear hrn hbent
          have HFc := Hold.mk (HFs.out.later (HM9.out.trans HMc.out))
          have HXc := Hold.mk (HXs.out.later (HM9.out.trans HMc.out))
          have HMt : Hold (Mod noB wr wc) := ⟨HM9.out.trans HMc.out⟩
          obtain ⟨j4, hj4⟩ : ∃ j, (3 * b + s) % bn = j := ⟨_, rfl⟩
          have hl4 : j4 < bn := by rw [← hj4]; exact Nat.mod_lt _ h0
          have hr4 : Int.tmod (3 * (b : Int) + (s : Int)) (bn : Int) = (j4 : Int) := by rw [← hj4]; rfl
          have hj94 : j4 ≤ 100 := by rw [← hj4]; exact Nat.le_trans (Nat.mod_le _ _) (by omega)
          obtain ⟨u4, hu4, _, c4⟩ := HBY.out wc HFc.out.now.1.2.2 j4 hl4
          have hbb4 : bb < wc.heap.size := World.block_lt_of_cell? _ _ c4
          obtain ⟨m, hm⟩ : ∃ m : Nat, st + 1 = (m : Int) := ⟨(st + 1).toNat, by omega⟩
          have hm0 : ¬ m = 0 := by omega
          obtain ⟨t4, ht4⟩ : ∃ t, u4 % m = t := ⟨_, rfl⟩
          have htl : t4 < m := by rw [← ht4]; exact Nat.mod_lt _ (by omega)
          have hr5 : Int.tmod (u4 : Int) (m : Int) = (t4 : Int) := by rw [← ht4]; rfl
          obtain ⟨now, hnow⟩ : ∃ now, rn' + (t4 : Int) = now := ⟨_, rfl⟩
          have hnow1 : 0 ≤ now ∧ now ≤ 7000 ∧ now ≤ rn' + st := by omega
          have FIN : Hold (∀ W', Mod noB wc W' → W'.cell? ⟨bb, boff + j4, none⟩ = some (.int .u16 u4) ∧ W'.cell? ⟨sb, soff + s * 2, none⟩ = some (.int .i64 st)) := ⟨fun W' h => ⟨(cell_same (h.block bb hbb4 id) _).trans c4, (cell_same ((HMt.out.trans h).block sb HST.out.2.2 id) _).trans HST.out.1⟩⟩
          clear hj4 c4 ht4
          go_wp2
          refine region_td (bb := bb) (boff := boff) (bn := bn) (bcap := bcap) (sb := sb) (soff := soff) (ln := l.length) (lcap := lcap) (j := j4) (u := u4) (b := b) (s := s) (m := m) (t4 := t4) (rn := rn') (st := st) rfl rfl rfl rfl rfl rfl (fun W' h => (FIN.out W' h).1) (fun W' h => (FIN.out W' h).2) hne0 hl4 hj94 hr4 (by omega) (by omega) hls hm hm0 hr5 hu4 (by omega) (by omega) htl ?_
          intro We hq
          simp only [tdDs, tdC, List.foldl_cons, List.foldl_nil, Act.put, List.setIfInBounds_toArray, List.set_cons_succ, List.set_cons_zero, List.getD_cons_zero, List.getD_cons_succ]
          rw [hnow]
          have HMe : Hold (Mod noB wr We) := ⟨HMt.out.trans hq⟩
          have HFe := Hold.mk (HFc.out.later hq)
          clear hq FIN HFc HXc
          have hge := HFe.out.now.1.1
          have g0 := cellsAt hge 0; have g1 := cellsAt hge 1; have g2 := cellsAt hge 2; have g3 := cellsAt hge 3
          clear hge
          obtain ⟨o1, ho1⟩ : ∃ o, f1 + now * v1 = o := ⟨_, rfl⟩
          obtain ⟨o2, ho2⟩ : ∃ o, f2 + now * v2 = o := ⟨_, rfl⟩
          have he : offE d b now = ((o1, o2), 0) := by
            have hh : (hasB d b && fromB 0 7000 now) = true := by simp [hasB, fromB]; omega
            unfold offE
            rw [HDS.out.1, hh, ← ho1, ← ho2]
            simp [HBA.out, leastV, mostV]
          have H14 : Hold (∀ W, B ≤ W.heap.size → BladesAt B W (some ⟨ab, af, none⟩) d.bl → Calls Tryd.prog 14 #[dyV (some ⟨ab, af, none⟩) d.bl.length cap d, .int .i64 b, .int .i64 now] W fun e w' => e = .returned (.tuple #[spV (o1, o2), .int .i64 0]) ∧ Mod noB W w') := ⟨fun W h1 h2 => by
            have := off_any B (some ⟨ab, af, none⟩) cap d b now W h1 h2
            rw [he] at this
            exact this⟩
          obtain ⟨ofs, hof⟩ : ∃ o, fr' + wear * now = o := ⟨_, rfl⟩
          have hoff := off_in hfr' hv0 hwb hnow1.1 hnow1.2.2
          rw [ho1, ho2, hof] at hoff
          have htop : f2 + (rn' + st) * v2 ≤ d.bound + mo := by
            have := HFL.out
            unfold failsB mostV at this
            rw [HBA.out, ← HRN.out] at this
            have h := of_decide_eq_false this
            exact Int.not_lt.1 h
          have hob := off_bd (wr := wear) (n := now) (by omega) (by omega) hnow1.1 hnow1.2.1
          have hwf : IntKind.i64.wrap (wear * now) = wear * now := IntWalk.i64_in _ (by omega)
          have hwg : IntKind.i64.wrap (fr' + wear * now) = fr' + wear * now := IntWalk.i64_in _ (by omega)
          have hwh : IntKind.i64.wrap ofs = ofs := IntWalk.i64_in _ (by omega)
          have hwi : IntKind.i64.wrap (d.bound + mo) = d.bound + mo := IntWalk.i64_in _ (by omega)
          have hd1 : ¬ ofs < o1 := by omega
          have hd2 : ¬ o2 < ofs := by omega
          have hd3 : ¬ d.bound + mo < ofs := by omega
          clear he ho1 ho2 hoff htop hnow hr5 hm
          go_wp2_with (first
            | (refine wpList_load_row rfl 24 (.tmp 4) rfl w.heap.size rfl 24 _ (0, 0) _ HFe.out.now.1.1 Tryd.underlying24 rfl info24 ?_)
            | (go_at_call 14; refine (H14.out _ HFe.out.now.1.2.1.le HFe.out.now.1.2.1.bl).mono ?_; rintro e w14 ⟨rfl, hM⟩; have HFe := Hold.mk (HFe.out.later hM); have HMe := Hold.mk (HMe.out.trans hM); clear hM g0 g1 g2 g3))
          have hnw := World.alloc_heap_new w14 (.cells #[.int .i64 o1, .int .i64 o2] 28)
          have FIN : Hold (∀ W', Mod noB (w14.alloc (.cells #[.int .i64 o1, .int .i64 o2] 28)) W' → W'.cell? ⟨w14.heap.size, 0, none⟩ = some (.int .i64 o1) ∧ W'.cell? ⟨w14.heap.size, 1, none⟩ = some (.int .i64 o2) ∧ W'.cell? ⟨w.heap.size, 1, none⟩ = some (.int .i64 d.bound) ∧ W'.cell? ⟨sb, soff + s * 2 + 1, none⟩ = some (.int .i64 mo)) := ⟨fun W' h => by
            have h2 := ((Mod.refl noB w14).alloc (.cells #[.int .i64 o1, .int .i64 o2] 28)).trans h
            exact ⟨cellsAt (h.at hnw id) 0, cellsAt (h.at hnw id) 1, cellsAt (HFe.out _ h2).1.1 1, (cell_same ((HMe.out.trans h2).block sb HST.out.2.2 id) _).trans HST.out.2.1⟩⟩
          clear hnw
          refine region_te (ob := w14.heap.size) (db := w.heap.size) (sb := sb) (soff := soff) (ln := l.length) (lcap := lcap) (s := s) (ofs := ofs) (o1 := o1) (o2 := o2) (bd := d.bound) (mo := mo) rfl rfl rfl rfl rfl rfl rfl (fun W' h => (FIN.out W' h).1) (fun W' h => (FIN.out W' h).2.1) (fun W' h => (FIN.out W' h).2.2.1) (fun W' h => (FIN.out W' h).2.2.2) hls (by omega) (by omega) (by omega) ⟨db1, db2⟩ ⟨hmo1, hmo2⟩ ?_
          intro Wz hq
          simp only [teDs, teC, List.foldl_cons, List.foldl_nil, Act.put, List.setIfInBounds_toArray, List.set_cons_succ, List.set_cons_zero, List.getD_cons_zero, List.getD_cons_succ]
          have HMz : Hold (Mod noB wr Wz) := ⟨HMe.out.trans (((Mod.refl noB w14).alloc _).trans hq)⟩
          have c0 := (cell_same (HMz.out.block sb HST.out.2.2 id) (soff + s * 2)).trans HST.out.1
          clear hq FIN
          go_wp2
          go_roundw
          case rel => exact ⟨s + 1, fr', rn' + st, runR d (bentR r set) (st, mo), by omega, by go_num, rfl, rfl, hfr', ⟨by simp [runR, hlt, HRN.out], fun j hj => by have := HRD.out j hj; omega, HNX.out⟩, ⟨HMs.out.trans HMz.out⟩⟩
          case measure => simp [intOf]; omega
        · obtain rfl : s = l.length := by omega
          go_wp2
          go_roundw
          case rel => exact ⟨b + 1, by omega, by go_num, HMb5.out.trans HMs.out⟩
          case measure => simp [intOf]; omega
    · obtain rfl : b = d.bl.length := by omega
      go_wp2
      exact ⟨rfl, end_frame _ _ _ rfl HMb.out⟩
end Go.Proofs.YtdncppempgpooaaDoor

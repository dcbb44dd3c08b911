/- The document's Proof. -/
import Derived.Test.YtdncppempgpooaaDoorRwK
import Derived.Test.YtdncppempgpooaaDoorRuV
set_option linter.unusedSimpArgs false
set_option linter.unusedVariables false
namespace Go.Proofs.YtdncppempgpooaaDoor
open Go.RowKit Go.Shelf

def segA (l : List (Int × Int)) (fr t : Nat) : List (Int × Int) := (l.drop fr).take (t - fr)
def sumS (a : List (Int × Int)) : Int := (a.map Prod.fst).sum
theorem segA_succ {l : List (Int × Int)} {fr t : Nat} {s : Int × Int} (h : l[t]? = some s) (hf : fr ≤ t) : segA l fr (t + 1) = segA l fr t ++ [s] := by
  have hlt := (List.getElem?_eq_some_iff.1 h).1
  have he := (List.getElem?_eq_some_iff.1 h).2
  unfold segA
  rw [show t + 1 - fr = (t - fr) + 1 by omega, List.take_succ_eq_append_getElem (by simp; omega), List.getElem_drop]
  congr 2
  have : fr + (t - fr) = t := by omega
  simp only [this]
  exact he
theorem segL_A (l : List (Int × Int)) (fr t : Nat) : segL l fr t = segA l fr (t + 1) := rfl
theorem segA_self (l : List (Int × Int)) (t : Nat) : segA l t t = [] := by simp [segA]
theorem sumS_snoc (a : List (Int × Int)) (s : Int × Int) : sumS (a ++ [s]) = sumS a + s.1 := by simp [sumS]
theorem stuckAt_snoc (d : Dye) (k : Nat) (s : Int × Int) : ∀ (a : List (Int × Int)) (r : Int), stuckAt d k r (a ++ [s]) = (stuckAt d k r a || decide (d.bound + s.2 < mostV (bladeAt d k) (r + sumS a + s.1))) := by
  intro a
  induction a with
  | nil => intro r; simp [stuckAt, sumS]
  | cons x a ih =>
    intro r
    simp only [List.cons_append, stuckAt, ih, Bool.or_assoc]
    have : r + x.1 + sumS a = r + sumS (x :: a) := by simp [sumS]; omega
    rw [this]
/-- A row that has held so far: whether it holds on hangs on the last stint alone. -/
theorem stuckR_next {d : Dye} {a : List (Int × Int)} {s : Int × Int} {r : Nat → Int} (h0 : ∀ k, k < d.bl.length → stuckAt d k 0 a = false) (hr : ∀ k, k < d.bl.length → r k = sumS a) : stuckR d (a ++ [s]) = failing d r s := by
  have hh : ∀ k, k < d.bl.length → stuckAt d k 0 (a ++ [s]) = failsB d r k s := fun k hk => by
    rw [stuckAt_snoc, h0 k hk, Bool.false_or, Int.zero_add, failsB, hr k hk]
  unfold stuckR failing
  have e : ∀ L : List Nat, (∀ k ∈ L, k < d.bl.length) → L.find? (fun k => stuckAt d k 0 (a ++ [s])) = L.find? (fun k => failsB d r k s) := by
    intro L
    induction L with
    | nil => intro _; rfl
    | cons k L ih =>
      intro h
      simp only [List.find?_cons, hh k (h k (by simp)), ih fun j hj => h j (by simp [hj])]
  exact e _ fun k hk => List.mem_range.1 hk
theorem stuckR_one {d : Dye} {l : List (Int × Int)} {i : Nat} {s : Int × Int} (h : l[i]? = some s) : stuckR d (segL l i i) = failing d zeroR s := by
  rw [segL_A, segA_succ h (Nat.le_refl _), segA_self]
  exact stuckR_next (fun k _ => rfl) (fun k _ => rfl)
theorem allS_bit {d : Dye} {k : Nat} (h : k < d.bl.length) : (allS d).testBit k = true := by
  unfold allS
  rw [Nat.testBit_two_pow_sub_one]; simpa using h
theorem stuck_none {d : Dye} {a : List (Int × Int)} (h : stuckR d a = none) : ∀ k, k < d.bl.length → stuckAt d k 0 a = false := fun k hk => by
  unfold stuckR at h
  rw [List.find?_eq_none] at h
  simpa using h k (List.mem_range.2 hk)

/-- Both lists of the call's own, the die's box. -/
structure PrS (w : World) (ds : Array Value) (vR : Value) (nR : Nat) (xs : List Value) (vB : Value) (nB : Nat) (ys : List Value) (W : World) : Prop where
  a : W.heap[w.heap.size]? = some (.cells ds 24)
  r : W.ownsRow (w.heap.size + 1) 28 2 vR nR xs
  b : W.ownsRow (w.heap.size + 1) 3 1 vB nB ys
  m : Mod noB w W
theorem PrS.later {w : World} {ds : Array Value} {vR : Value} {nR : Nat} {xs : List Value} {vB : Value} {nB : Nat} {ys : List Value} {W W' : World} (h : PrS w ds vR nR xs vB nB ys W) (hm : Mod noB W W') : PrS w ds vR nR xs vB nB ys W' :=
  ⟨hm.at h.a id, own_same h.r (fun r hr => by obtain ⟨_, cur, hc⟩ := own_block h.r hr; exact hm.block r (at_ltS hc) id), own_same h.b (fun r hr => by obtain ⟨_, cur, hc⟩ := own_block h.b hr; exact hm.block r (at_ltS hc) id), h.m.trans hm⟩
theorem PrS.appR {w : World} {ds : Array Value} {vR : Value} {nR : Nat} {xs : List Value} {vB : Value} {nB : Nat} {ys : List Value} {W W' : World} (h : PrS w ds vR nR xs vB nB ys W) {v2 : Value} {n2 : Nat} {x2 : List Value} (ho : W'.ownsRow (w.heap.size + 1) 28 2 v2 n2 x2) (hg : W.grownBy W' vR.ownBlock) : PrS w ds v2 n2 x2 vB nB ys W' := by
  have hm : Mod (fun j => vR.ownBlock = some j) W W' := Mod.of_grownBy hg (fun r hr _ => hr)
  have far : ∀ {j : Nat} {c : Array Value} {t : TypeId}, W.heap[j]? = some (.cells c t) → t ≠ 28 → ¬ vR.ownBlock = some j := fun hj ht he => by
    obtain ⟨_, cur, hc⟩ := own_block h.r he
    rw [hc] at hj; cases hj; exact ht rfl
  refine ⟨hm.at h.a (far h.a (by decide)), ho, own_same h.b (fun r hr => ?_), h.m.then hm (fun i h1 h2 => ?_)⟩
  · obtain ⟨_, cur, hc⟩ := own_block h.b hr
    exact hm.block r (at_ltS hc) (far hc (by decide))
  · have := (own_block h.r h2).1; omega
theorem PrS.appB {w : World} {ds : Array Value} {vR : Value} {nR : Nat} {xs : List Value} {vB : Value} {nB : Nat} {ys : List Value} {W W' : World} (h : PrS w ds vR nR xs vB nB ys W) {v2 : Value} {n2 : Nat} {x2 : List Value} (ho : W'.ownsRow (w.heap.size + 1) 3 1 v2 n2 x2) (hg : W.grownBy W' vB.ownBlock) : PrS w ds vR nR xs v2 n2 x2 W' := by
  have hm : Mod (fun j => vB.ownBlock = some j) W W' := Mod.of_grownBy hg (fun r hr _ => hr)
  have far : ∀ {j : Nat} {c : Array Value} {t : TypeId}, W.heap[j]? = some (.cells c t) → t ≠ 3 → ¬ vB.ownBlock = some j := fun hj ht he => by
    obtain ⟨_, cur, hc⟩ := own_block h.b he
    rw [hc] at hj; cases hj; exact ht rfl
  refine ⟨hm.at h.a (far h.a (by decide)), own_same h.r (fun r hr => ?_), ho, h.m.then hm (fun i h1 h2 => ?_)⟩
  · obtain ⟨_, cur, hc⟩ := own_block h.r hr
    exact hm.block r (at_ltS hc) (far hc (by decide))
  · have := (own_block h.b h2).1; omega

/-- Between two rounds of the second loop. -/
def PrI (w : World) (ds : Array Value) (d : Dye) (l : List (Int × Int)) (t f : Nat) (vR vB : Value) (W : World) : Prop :=
  ∃ (r : Nat → Int) (acc : List ((Nat × Nat) × Nat)), (∀ k, k < d.bl.length → r k = sumS (segA l f t)) ∧ (∀ k, k < d.bl.length → stuckAt d k 0 (segA l f t) = false) ∧ acc.length ≤ t ∧
    rowsR d 0 0 zeroR l = acc ++ rowsR d f t r (l.drop t) ∧ PrS w ds vR acc.length (rowCells acc) vB acc.length (rowInts acc) W
theorem drop_at {α : Type} {l : List α} {k : Nat} {s : α} (h : l[k]? = some s) : l.drop k = s :: l.drop (k + 1) := by
  obtain ⟨hlt, he⟩ := List.getElem?_eq_some_iff.1 h
  rw [← he]; exact List.drop_eq_getElem_cons hlt
theorem PrI.start {w : World} {ds : Array Value} {d : Dye} {l : List (Int × Int)} {W : World} (hb : ∀ s, l[0]? = some s → failing d zeroR s = none) (ha : W.heap[w.heap.size]? = some (.cells ds 24)) (hm : Mod noB w W) : PrI w ds d l 1 0 (.slice none 0 0) (.slice none 0 0) W := by
  cases hl : l[0]? with
  | none =>
    have : l = [] := by cases l with | nil => rfl | cons x l => simp at hl
    subst this
    exact ⟨zeroR, [], fun k _ => rfl, fun k _ => rfl, by simp, rfl, ha, ⟨rfl, .inl ⟨rfl, rfl⟩⟩, ⟨rfl, .inl ⟨rfl, rfl⟩⟩, hm⟩
  | some s =>
    have hf := hb s hl
    have e1 : segA l 0 1 = [s] := by rw [segA_succ hl (Nat.le_refl _), segA_self]; rfl
    refine ⟨runR d zeroR s, [], fun k hk => ?_, fun k hk => ?_, by simp, ?_, ha, ⟨rfl, .inl ⟨rfl, rfl⟩⟩, ⟨rfl, .inl ⟨rfl, rfl⟩⟩, hm⟩
    · rw [e1]; simp [runR, hk, zeroR, sumS]
    · rw [e1]; exact stuck_none (by rw [← hf]; exact stuckR_next (a := []) (fun k _ => rfl) (fun k _ => rfl)) k hk
    · have := drop_at hl
      rw [List.drop_zero] at this
      conv => lhs; rw [this, rowsR, hf]
      rfl
theorem PrI.pass {w : World} {ds : Array Value} {d : Dye} {l : List (Int × Int)} {t f : Nat} {vR vB : Value} {W : World} {r : Nat → Int} {acc : List ((Nat × Nat) × Nat)} {s : Int × Int} (h1 : ∀ k, k < d.bl.length → r k = sumS (segA l f t)) (h2 : ∀ k, k < d.bl.length → stuckAt d k 0 (segA l f t) = false) (h3 : acc.length ≤ t)
    (h4 : rowsR d 0 0 zeroR l = acc ++ rowsR d f t r (l.drop t)) (hs : l[t]? = some s) (hft : f ≤ t) (hf : failing d r s = none) (h5 : PrS w ds vR acc.length (rowCells acc) vB acc.length (rowInts acc) W) : PrI w ds d l (t + 1) f vR vB W := by
  refine ⟨runR d r s, acc, fun k hk => ?_, ?_, by omega, ?_, h5⟩
  · rw [segA_succ hs hft, sumS_snoc, ← h1 k hk]; simp [runR, hk]
  · rw [segA_succ hs hft]
    exact stuck_none (by rw [stuckR_next h2 h1, hf])
  · rw [h4, drop_at hs, rowsR, hf]
theorem PrI.stop {w : World} {ds : Array Value} {d : Dye} {l : List (Int × Int)} {t f b : Nat} {vR vB : Value} {W : World} {r : Nat → Int} {acc : List ((Nat × Nat) × Nat)} {s : Int × Int} (h3 : acc.length ≤ t)
    (h4 : rowsR d 0 0 zeroR l = acc ++ rowsR d f t r (l.drop t)) (hs : l[t]? = some s) (hz : failing d zeroR s = none) (hf : failing d r s = some b)
    (h5 : PrS w ds vR (acc.length + 1) (rowCells acc ++ [.int .i64 f, .int .i64 t]) vB (acc.length + 1) (rowInts acc ++ [.int .i64 b]) W) : PrI w ds d l (t + 1) t vR vB W := by
  have e1 : segA l t (t + 1) = [s] := by rw [segA_succ hs (Nat.le_refl _), segA_self]; rfl
  refine ⟨runR d (bentR r (allS d)) s, acc ++ [((f, t), b)], fun k hk => ?_, fun k hk => ?_, by simp; omega, ?_, ?_⟩
  · rw [e1]; simp [runR, hk, bentR, allS_bit hk, sumS]
  · rw [e1]; exact stuck_none (by rw [← hz]; exact stuckR_next (a := []) (fun k _ => rfl) (fun k _ => rfl)) k hk
  · rw [h4, drop_at hs, rowsR, hf]; simp
  · exact ⟨h5.a, by simpa [rowCells] using h5.r, by simpa [rowInts] using h5.b, h5.m⟩
end Go.Proofs.YtdncppempgpooaaDoor

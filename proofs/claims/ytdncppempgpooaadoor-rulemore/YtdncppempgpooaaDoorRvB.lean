/- What is best: how it is put together. -/
import Derived.Test.YtdncppempgpooaaDoorRvA
set_option linter.unusedSimpArgs false
set_option linter.unusedVariables false
namespace Go.Proofs.YtdncppempgpooaaDoor
open Go.RowKit Go.Shelf Go.Maps Go.WideMaps

theorem failing_iff {d : Dye} {r : Nat → Int} {s : Int × Int} : failing d r s = none ↔ ∀ k, k < d.bl.length → failsB d r k s = false := by
  unfold failing
  rw [List.find?_eq_none]
  simp
theorem failing_if {d : Dye} {r : Nat → Int} {s : Int × Int} {k : Nat} (hk : k < d.bl.length) (h : failsB d r k s = true) : (failing d r s).isSome = true := by
  cases hf : failing d r s with
  | some _ => rfl
  | none => rw [failing_iff.1 hf k hk] at h; cases h
theorem failing_all {d : Dye} {r : Nat → Int} {s : Int × Int} (h : failing d zeroR s = none) : failing d (bentR r (allS d)) s = none := by
  rw [failing_iff] at h ⊢
  intro k hk
  rw [← h k hk]
  have ht : (allS d).testBit k = true := by
    unfold allS
    rw [Nat.testBit_two_pow_sub_one]
    simpa using hk
  simp [failsB, bentR, ht, zeroR]

theorem leastR_mem {c : Int × List Nat} {cs : List (Int × List Nat)} : leastR (c :: cs) ∈ c :: cs := by
  unfold leastR
  have : ∀ (cs : List (Int × List Nat)) (a : Int × List Nat) (L : List (Int × List Nat)), a ∈ L → (∀ x ∈ cs, x ∈ L) → cs.foldl (fun a x => if x.1 < a.1 then x else a) a ∈ L := by
    intro cs
    induction cs with
    | nil => intro a L h _; exact h
    | cons x cs ih =>
      intro a L h hs
      simp only [List.foldl_cons]
      split
      · exact ih _ _ (hs x (by simp)) (fun y hy => hs y (by simp [hy]))
      · exact ih _ _ h (fun y hy => hs y (by simp [hy]))
  exact this cs c _ (by simp) (fun x hx => by simp [hx])

/-- What is tried before a stint, up to a set. -/
def triesR (d : Dye) (ss : List (Int × Int)) (s : Int × Int) (r : Nat → Int) (k : Nat) : List (Int × List Nat) := (List.range k).filterMap (tryR d (bestR d ss) s r)
theorem tries_zero {d : Dye} {ss : List (Int × Int)} {s : Int × Int} {r : Nat → Int} : triesR d ss s r 0 = [] := rfl
theorem tries_no {d : Dye} {ss : List (Int × Int)} {s : Int × Int} {r : Nat → Int} {k : Nat} (h : (failing d (bentR r k) s).isSome = true) : triesR d ss s r (k + 1) = triesR d ss s r k := by
  simp [triesR, List.range_succ, tryR, h]
theorem tries_yes {d : Dye} {ss : List (Int × Int)} {s : Int × Int} {r : Nat → Int} {k : Nat} (h : failing d (bentR r k) s = none) :
    triesR d ss s r (k + 1) = triesR d ss s r k ++ [(priceR d k + (bestR d ss (runR d (bentR r k) s)).1, k :: (bestR d ss (runR d (bentR r k) s)).2)] := by
  simp [triesR, List.range_succ, tryR, h]
theorem best_cons {d : Dye} {ss : List (Int × Int)} {s : Int × Int} {r : Nat → Int} : bestR d (s :: ss) r = leastR (triesR d ss s r (2 ^ d.bl.length)) := rfl
theorem tries_len {d : Dye} {ss : List (Int × Int)} {s : Int × Int} {r : Nat → Int} {k : Nat} : (triesR d ss s r k).length ≤ k := by
  have := List.length_filterMap_le (tryR d (bestR d ss) s r) (List.range k)
  simpa [triesR] using this
theorem two_pow_all (d : Dye) : allS d + 1 = 2 ^ d.bl.length := by
  have : 0 < 2 ^ d.bl.length := Nat.two_pow_pos _
  unfold allS; omega
theorem tries_full {d : Dye} {ss : List (Int × Int)} {s : Int × Int} {r : Nat → Int} (h : failing d zeroR s = none) : triesR d ss s r (2 ^ d.bl.length) ≠ [] := by
  rw [← two_pow_all, tries_yes (failing_all h)]
  simp

theorem best_bd {d : Dye} (h5 : d.bl.length ≤ 5) (hst : 0 ≤ d.stop ∧ d.stop ≤ 10000) (hbe : 0 ≤ d.bend ∧ d.bend ≤ 10000) : ∀ (ss : List (Int × Int)) (r : Nat → Int), (0 ≤ (bestR d ss r).1 ∧ (bestR d ss r).1 ≤ 60000 * ss.length) ∧ (bestR d ss r).2.length ≤ ss.length := by
  intro ss
  induction ss with
  | nil => intro r; simp [bestR]
  | cons s ss ih =>
    intro r
    rw [best_cons]
    cases hl : triesR d ss s r (2 ^ d.bl.length) with
    | nil => simp [leastR]; omega
    | cons c cs =>
      have hm : leastR (c :: cs) ∈ triesR d ss s r (2 ^ d.bl.length) := by rw [hl]; exact leastR_mem
      obtain ⟨k, hk, he⟩ := List.mem_filterMap.1 hm
      have hk2 : k < 2 ^ 5 := Nat.lt_of_lt_of_le (List.mem_range.1 hk) (Nat.pow_le_pow_right (by decide) h5)
      unfold tryR at he
      split at he
      · cases he
      · have hb := ih (runR d (bentR r k) s)
        have hp := price_bd (set := k) (by omega) hst hbe
        have he' := Option.some.inj he
        rw [← he']
        simp only [List.length_cons]
        push_cast
        omega

/-- Courses in memory, and what they are. -/
def Match (w : World) (cs : List Crs) (L : List (Int × List Nat)) : Prop := cs.length = L.length ∧ ∀ (j : Nat) (x : Crs) (c : Int × List Nat), cs[j]? = some x → L[j]? = some c → CrV c (crV x) w
theorem CrV.cost {c : Int × List Nat} {x : Crs} {w : World} (h : CrV c (crV x) w) : x.1 = c.1 := by
  obtain ⟨ao, cap, hv, _⟩ := h
  simp only [Value.agg.injEq, Array.mk.injEq, List.cons.injEq, Value.int.injEq, true_and, and_true] at hv
  exact hv.1
theorem Match.nil {w : World} : Match w [] [] := ⟨rfl, fun j x c h => by simp at h⟩
theorem Match.modT {T : Nat → Prop} {w w' : World} {cs : List Crs} {L : List (Int × List Nat)} (h : Match w cs L) (hm : Mod T w w') (hT : ∀ k, T k → ∀ cs, w.heap[k]? ≠ some (.cells cs 3)) : Match w' cs L :=
  ⟨h.1, fun j x c hx hc => (h.2 j x c hx hc).modT hm hT⟩
theorem Match.snoc {w : World} {cs : List Crs} {L : List (Int × List Nat)} (h : Match w cs L) {x : Crs} {c : Int × List Nat} (hc : CrV c (crV x) w) : Match w (cs ++ [x]) (L ++ [c]) := by
  refine ⟨by simp [h.1], fun j y e hy he => ?_⟩
  rw [List.getElem?_append] at hy he
  by_cases hj : j < cs.length
  · rw [if_pos hj] at hy
    rw [if_pos (by rw [← h.1]; exact hj)] at he
    exact h.2 j y e hy he
  · rw [if_neg hj] at hy
    rw [if_neg (by rw [← h.1]; exact hj)] at he
    rw [h.1] at hy
    generalize j - L.length = i at *
    cases i with
    | zero => simp at hy he; subst hy; subst he; exact hc
    | succ i => simp at hy
theorem Match.least {w : World} {x : Crs} {cs : List Crs} {c : Int × List Nat} {L : List (Int × List Nat)} (h : Match w (x :: cs) (c :: L)) : CrV (leastR (c :: L)) (crV (leastC x cs)) w := by
  unfold leastR leastC
  have : ∀ (cs : List Crs) (L : List (Int × List Nat)) (x : Crs) (c : Int × List Nat), CrV c (crV x) w → Match w cs L →
      CrV (L.foldl (fun a x => if x.1 < a.1 then x else a) c) (crV (cs.foldl (fun a x => if x.1 < a.1 then x else a) x)) w := by
    intro cs
    induction cs with
    | nil =>
      intro L x c hx hm
      cases L with
      | nil => exact hx
      | cons _ _ => exact absurd hm.1 (by simp)
    | cons y cs ih =>
      intro L x c hx hm
      cases L with
      | nil => exact absurd hm.1 (by simp)
      | cons e L =>
        have hy := hm.2 0 y e rfl rfl
        have hm' : Match w cs L := ⟨by simpa using hm.1, fun j a b ha hb => hm.2 (j + 1) a b (by simpa using ha) (by simpa using hb)⟩
        simp only [List.foldl_cons, hx.cost, hy.cost]
        split
        · exact ih _ _ _ hy hm'
        · exact ih _ _ _ hx hm'
  exact this cs L x c (h.2 0 x c rfl rfl) ⟨by simpa using h.1, fun j a b ha hb => h.2 (j + 1) a b (by simpa using ha) (by simpa using hb)⟩

/-- The blocks of what is known. -/
def InT (mb n : Nat) (k : Nat) : Prop := mb ≤ k ∧ k < mb + n
structure Memo (B : Nat) (d : Dye) (l : List (Int × Int)) (lo : Option Addr) (lcap lb bb fb gb mb : Nat) (w : World) : Prop where
  hl : w.heap[lb]? = some (.cells #[.slice lo l.length lcap] 33)
  hb : w.heap[bb]? = some (.cells #[.slice (some ⟨gb, 0, none⟩) l.length l.length] 114)
  hf : w.heap[fb]? = some (.cells #[.func (.func 73) #[] #[.pointer (some ⟨lb, 0, none⟩), .pointer (some ⟨bb, 0, none⟩), .pointer (some ⟨fb, 0, none⟩)]] 116)
  hg : ∃ cs, w.heap[gb]? = some (.cells cs 115) ∧ ∀ i, i < l.length → cs[i]? = some (.map (some (mb + i)))
  memo : ∀ i, i < l.length → MemoIs (bestR d (l.drop i)) w (mb + i)
  le : B ≤ mb
theorem Memo.map {B : Nat} {d : Dye} {l : List (Int × Int)} {lo : Option Addr} {lcap lb bb fb gb mb : Nat} {w : World} (h : Memo B d l lo lcap lb bb fb gb mb w) {k : Nat} (hk : InT mb l.length k) : ∃ es c, w.heap[k]? = some (.map es c) := by
  obtain ⟨es, c, he, _⟩ := (h.memo (k - mb) (by have := hk.1; have := hk.2; omega)).ex
  rw [show mb + (k - mb) = k by have := hk.1; omega] at he
  exact ⟨es, c, he⟩
theorem Memo.notc {B : Nat} {d : Dye} {l : List (Int × Int)} {lo : Option Addr} {lcap lb bb fb gb mb : Nat} {w : World} (h : Memo B d l lo lcap lb bb fb gb mb w) {k : Nat} {cs : Array Value} {t : TypeId} (hc : w.heap[k]? = some (.cells cs t)) : ¬ InT mb l.length k := fun hk => by
  obtain ⟨es, c, he⟩ := h.map hk
  rw [he] at hc; cases hc
theorem Memo.lt {B : Nat} {d : Dye} {l : List (Int × Int)} {lo : Option Addr} {lcap lb bb fb gb mb : Nat} {w : World} (h : Memo B d l lo lcap lb bb fb gb mb w) {k : Nat} (hk : InT mb l.length k) : k < w.heap.size := by
  obtain ⟨es, c, he⟩ := h.map hk
  exact at_ltS he
theorem Memo.at_ {B : Nat} {d : Dye} {l : List (Int × Int)} {lo : Option Addr} {lcap lb bb fb gb mb : Nat} {w : World} (h : Memo B d l lo lcap lb bb fb gb mb w) {i : Nat} (hi : i < l.length) : w.cell? ⟨gb, i, none⟩ = some (.map (some (mb + i))) := by
  obtain ⟨cs, hc, he⟩ := h.hg
  rw [cellsAt hc]; exact he i hi
/-- What touches neither what is known nor older blocks. -/
theorem Memo.modN {B : Nat} {d : Dye} {l : List (Int × Int)} {lo : Option Addr} {lcap lb bb fb gb mb : Nat} {w w' : World} {T : Nat → Prop} (h : Memo B d l lo lcap lb bb fb gb mb w) (hm : Mod T w w') (hT : ∀ k, T k → ∃ cs, w.heap[k]? = some (.cells cs 97)) : Memo B d l lo lcap lb bb fb gb mb w' := by
  have keep : ∀ {b : Nat} {cs : Array Value} {t : TypeId}, w.heap[b]? = some (.cells cs t) → t ≠ 97 → w'.heap[b]? = some (.cells cs t) := fun hb ht => hm.at hb (fun hk => by
    obtain ⟨cs', hc⟩ := hT _ hk
    rw [hb] at hc; cases hc; exact ht rfl)
  obtain ⟨gcs, hgc, hge⟩ := h.hg
  refine ⟨keep h.hl (by decide), keep h.hb (by decide), keep h.hf (by decide), ⟨gcs, keep hgc (by decide), hge⟩, fun i hi => ?_, h.le⟩
  refine (h.memo i hi).modT hm (fun k hk cs hc => ?_) ?_
  · obtain ⟨cs', hc'⟩ := hT _ hk
    rw [hc'] at hc; cases hc
  · obtain ⟨es, c, he, _⟩ := (h.memo i hi).ex
    exact hm.block _ (at_ltS he) (fun hk => by
      obtain ⟨cs', hc'⟩ := hT _ hk
      rw [he] at hc'; cases hc')
theorem Memo.mod {B : Nat} {d : Dye} {l : List (Int × Int)} {lo : Option Addr} {lcap lb bb fb gb mb : Nat} {w w' : World} (h : Memo B d l lo lcap lb bb fb gb mb w) (hm : Mod noB w w') : Memo B d l lo lcap lb bb fb gb mb w' :=
  h.modN hm (fun k hk => hk.elim)
end Go.Proofs.YtdncppempgpooaaDoor

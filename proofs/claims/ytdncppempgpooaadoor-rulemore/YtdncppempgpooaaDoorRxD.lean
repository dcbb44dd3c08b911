/- Several texts in one (a claim holds at most 60 files): each has its own words ahead of it. -/
import Derived.Test.YtdncppempgpooaaDoorRwJ
import Derived.Test.YtdncppempgpooaaDoorRuV
import Derived.Deep.DeepCutAuto
import Derived.Test.YtdncppempgpooaaDoorRvT
set_option linter.unusedSimpArgs false
set_option linter.unusedVariables false

/- The document's Stuck. -/
namespace Go.Proofs.YtdncppempgpooaaDoor
open Go.RowKit Go.Shelf

/-- Can a blade that has run so far be off by too much in one of these stints? -/
def stuckAt (d : Dye) (k : Nat) : Int → List (Int × Int) → Bool
  | _, [] => false
  | r, s :: ss => decide (d.bound + s.2 < mostV (bladeAt d k) (r + s.1)) || stuckAt d k (r + s.1) ss
def stuckR (d : Dye) (seg : List (Int × Int)) : Option Nat := (List.range d.bl.length).find? (fun k => stuckAt d k 0 seg)
def segL (l : List (Int × Int)) (fr to_ : Nat) : List (Int × Int) := (l.drop fr).take (to_ + 1 - fr)
theorem segL_cons {l : List (Int × Int)} {i t : Nat} {s : Int × Int} (h : l[i]? = some s) (hi : i ≤ t) : segL l i t = s :: segL l (i + 1) t := by
  obtain ⟨hlt, he⟩ := List.getElem?_eq_some_iff.1 h
  unfold segL
  rw [List.drop_eq_getElem_cons hlt, he, show t + 1 - i = (t + 1 - (i + 1)) + 1 by omega, List.take_succ_cons]
theorem segL_nil (l : List (Int × Int)) (t : Nat) : segL l (t + 1) t = [] := by simp [segL]

set_option maxRecDepth 100000 in
set_option maxHeartbeats 4000000 in
theorem stuck_any (B : Nat) (ao : Option Addr) (cap : Nat) (d : Dye) (lo : Option Addr) (lcap : Nat) (l : List (Int × Int)) (fr t : Nat) (w : World) (hd : dieB d = true) (hsb : stintsB l = true) (hI : InB B w ao d lo l) (hft : fr ≤ t) (ht : t < l.length) :
    Calls Tryd.prog 36 #[dyV ao d.bl.length cap d, .slice lo l.length lcap, .int .i64 fr, .int .i64 t] w fun e w' => e = .returned (failV (stuckR d (segL l fr t))) ∧ Mod noB w w' := by
  obtain ⟨⟨l1, l5⟩, hbs, ⟨db1, db2⟩, _, _⟩ := dieB_parts hd
  have hll : l.length ≤ 7 := by simp [stintsB] at hsb; omega
  have hls : ∀ s ∈ l, stintB s = true := by
    simp only [stintsB, Bool.and_eq_true, List.all_eq_true] at hsb; exact hsb.2
  have hsm := hI.bl.small
  have HF := Hold.mk (show Kept (w.alloc (.cells (dyC ao d.bl.length cap d) 24)) (fun W => W.heap[w.heap.size]? = some (.cells (dyC ao d.bl.length cap d) 24) ∧ InB B W ao d lo l ∧ Mod noB w W) from fun W h => by
    have hm := ((Mod.refl noB w).alloc _).trans h
    exact ⟨h.at (World.alloc_heap_new w _) id, hI.mod hm, hm⟩)
  have HL := Hold.mk hls
  have HB := Hold.mk hd
  clear hI hd hsb hls hbs
  go_enter Tryd.func36, Tryd.ntmps36
  go_wp2
  generalize w.alloc (.cells (dyC ao d.bl.length cap d) 24) = W0 at *
  go_loopw [10] (fun j W => ∃ m : Nat, m ≤ d.bl.length ∧ j = .int .i64 m ∧ (∀ k, k < m → stuckAt d k 0 (segL l fr t) = false) ∧ Mod noB W0 W) (fun j _ => d.bl.length - (intOf j).toNat)
  case atStart => exact ⟨0, Nat.zero_le _, rfl, fun k hk => absurd hk (Nat.not_lt_zero _), Mod.refl _ _⟩
  case round =>
    obtain ⟨m, hm5, rfl, hfs, hmm⟩ := hrel
    have HFS := Hold.mk hfs
    have HW := Hold.mk (HF.out.later hmm)
    have HM := Hold.mk hmm
    have ga := cellsAt HW.out.now.1 0
    clear hfs hmm
    by_cases hlt : m < d.bl.length
    · go_wp2
      generalize wr = W1 at *
      clear ga
      go_loopw [11, 12] (fun r j W => ∃ (i : Nat) (x : Int), fr ≤ i ∧ i ≤ t + 1 ∧ j = .int .i64 i ∧ r = .int .i64 x ∧ 0 ≤ x ∧ x ≤ (i : Nat) * 1000 ∧ stuckAt d m 0 (segL l fr t) = stuckAt d m x (segL l i t) ∧ Mod noB W1 W) (fun _ j _ => t + 1 - (intOf j).toNat)
      case atStart => exact ⟨fr, 0, Nat.le_refl _, by omega, rfl, rfl, by omega, by omega, rfl, Mod.refl _ _⟩
      case round =>
        obtain ⟨i, x, hfi, hit, rfl, rfl, x0, x1, hst, hmm⟩ := hrel
        have HX := Hold.mk hst
        have HW2 := Hold.mk (HW.out.later hmm)
        have HM2 := Hold.mk hmm
        clear hst hmm
        by_cases hlt2 : i ≤ t
        · obtain ⟨⟨st, mo⟩, hs⟩ : ∃ s, l[i]? = some s := ⟨_, List.getElem?_eq_getElem (by omega)⟩
          have hstb := HL.out _ (List.mem_of_getElem? hs)
          have hsb : (1 ≤ st ∧ st ≤ 1000) ∧ 0 ≤ mo ∧ mo ≤ 100000 := by simpa [stintB, fromB, Bool.and_eq_true] using hstb
          obtain ⟨sb, soff, hlo, hsb1, q0, q1⟩ := HW2.out.now.2.1.st.stint hs
          subst hlo
          have hsb2 : sb < wr.heap.size := Nat.lt_of_lt_of_le hsb1 HW2.out.now.2.1.le
          have hmI : (m : Int) < (d.bl.length : Int) := by omega
          have hiI : (i : Int) < (l.length : Int) := by omega
          have hiT : (i : Int) ≤ (t : Int) := by omega
          have HS := Hold.mk (segL_cons hs hlt2)
          have FIN : Hold (∀ W', Mod noB wr W' → (W'.heap[w.heap.size]? = some (.cells (dyC ao d.bl.length cap d) 24) ∧ B ≤ W'.heap.size ∧ BladesAt B W' ao d.bl) ∧ W'.cell? ⟨sb, soff + i * 2 + 1, none⟩ = some (.int .i64 mo)) := ⟨fun W' h => ⟨⟨(HW2.out.later h).now.1, (HW2.out.later h).now.2.1.le, (HW2.out.later h).now.2.1.bl⟩, (cell_same (h.block sb hsb2 id) _).trans q1⟩⟩
          obtain ⟨y, hy⟩ : ∃ y, x + st = y := ⟨_, rfl⟩
          have hxy : IntKind.i64.wrap (x + st) = y := by rw [hy]; exact IntWalk.i64_in _ (by omega)
          have hyb : 0 ≤ y ∧ y ≤ 9000 := by omega
          have hyb2 : y ≤ ((i + 1 : Nat) : Int) * 1000 := by omega
          have H44 : Hold (∀ W, B ≤ W.heap.size → BladesAt B W ao d.bl → Calls Tryd.prog 44 #[dyV ao d.bl.length cap d, .int .i64 m, .int .i64 y] W fun e w' => e = .returned (.int .i64 (mostV (bladeAt d m) y)) ∧ Mod noB W w') := ⟨fun W h1 h2 => refWorst_any B ao cap d m y W h1 h2 HB.out hlt (by omega)⟩
          have HSY : Hold (stuckAt d m x ((st, mo) :: segL l (i + 1) t) = (decide (d.bound + mo < mostV (bladeAt d m) y) || stuckAt d m y (segL l (i + 1) t))) := ⟨by rw [← hy]; rfl⟩
          have hv : IntKind.i64.wrap (d.bound + mo) = d.bound + mo := IntWalk.i64_in _ (by omega)
          have HY := Hold.mk hy
          clear hs hstb q1 hsb1
          generalize mostV (bladeAt d m) y = mv at *
          go_wp2
          refine region_quietP (by kernel_rfl) (by kernel_rfl) (fun W' => Mod noB wr W') ((Mod.refl _ _).drew) ?_
          repeat
            (first
              | go_big_quiet_skip
              | (go_big_quiet_want
                 go_simp
                 first
                   | go_big_quiet_on
                   | (apply Exists.intro
                      refine ⟨fun W' hC => ?_, ?_⟩
                      · obtain ⟨⟨gd, gl, gb⟩, c5⟩ := FIN.out W' hC
                        have c0 := cellsAt gd 0; have c1 := cellsAt gd 1; have c2 := cellsAt gd 2; have c3 := cellsAt gd 3
                        first
                          | (go_at_call 44; (with_reducible refine (H44.out _ gl gb).mono ?_); exact fun e w'' he => ⟨he.1, hC.trans he.2⟩)
                          | with_reducible rfl
                          | (clear gd gl gb; go_simp; first | rfl | exact ⟨rfl, rfl⟩)
                      go_big_quiet_on)
                   | (refine ⟨⟨_, fun _ _ => rfl⟩, ?_⟩; go_big_quiet_on)))
          refine wpQuiet_nil ?_
          intro Wq hq
          have HMq := Hold.mk (HM2.out.trans hq)
          have HWq := Hold.mk (HW2.out.later hq)
          clear hq
          by_cases hfl : d.bound + mo < mv
          · have HD : Hold (stuckR d (segL l fr t) = some m) := ⟨by
              unfold stuckR
              rw [List.find?_range_eq_some]
              refine ⟨?_, by simpa using hlt, fun j hj => by simp [HFS.out j hj]⟩
              rw [HX.out, HS.out, HSY.out]; simp [hfl]⟩
            go_wp2
            exact bodyPost_ret (v := .tuple #[.int .i64 m, .bool true]) (by simp [results, Tryd.results36, go_sem]) rfl ⟨by rw [HD.out]; rfl, HWq.out.now.2.2⟩
          · have HD : Hold (stuckAt d m 0 (segL l fr t) = stuckAt d m y (segL l (i + 1) t)) := ⟨by rw [HX.out, HS.out, HSY.out]; simp [hfl]⟩
            go_wp2
            go_roundw
            case rel => exact ⟨i + 1, y, by omega, by omega, by go_num, rfl, by omega, hyb2, HD.out, HMq.out⟩
            case measure => simp [intOf]; omega
        · obtain rfl : i = t + 1 := by omega
          have HD : Hold (stuckAt d m 0 (segL l fr t) = false) := ⟨by rw [HX.out, segL_nil]; rfl⟩
          have hnt : ¬ (((t + 1 : Nat) : Int) ≤ (t : Int)) := by omega
          go_wp2
          go_roundw
          case rel => exact ⟨m + 1, by omega, by go_num, fun k hk => by
            rcases Nat.lt_succ_iff_lt_or_eq.1 hk with h | rfl
            · exact HFS.out k h
            · exact HD.out, HM.out.trans HM2.out⟩
          case measure => simp [intOf]; omega
    · obtain rfl : m = d.bl.length := by omega
      have HD : Hold (stuckR d (segL l fr t) = none) := ⟨by
        unfold stuckR
        rw [List.find?_eq_none]
        intro j hj
        simp [HFS.out j (List.mem_range.1 hj)]⟩
      go_wp2
      exact bodyPost_ret (v := .tuple #[.int .i64 0, .bool false]) (by simp [results, Tryd.results36, go_sem]) rfl ⟨by rw [HD.out]; rfl, HW.out.now.2.2⟩
end Go.Proofs.YtdncppempgpooaaDoor

/- The document's Proof. -/
namespace Go.Proofs.YtdncppempgpooaaDoor
open Go.RowKit Go.Shelf

def segA (l : List (Int × Int)) (fr t : Nat) : List (Int × Int) := (l.drop fr).take (t - fr)
def sumS (a : List (Int × Int)) : Int := (a.map Prod.fst).sum
theorem segA_succ {l : List (Int × Int)} {fr t : Nat} {s : Int × Int} (h : l[t]? = some s) (hf : fr ≤ t) : segA l fr (t + 1) = segA l fr t ++ [s] := by
  have hlt := (List.getElem?_eq_some_iff.1 h).1
  have he := (List.getElem?_eq_some_iff.1 h).2
  unfold segA
  rw [show t + 1 - fr = (t - fr) + 1 by omega, List.take_succ_eq_append_getElem (by simp; omega), List.getElem_drop]
  congr 2
  have : fr + (t - fr) = t := by omega
  simp only [this]
  exact he
theorem segL_A (l : List (Int × Int)) (fr t : Nat) : segL l fr t = segA l fr (t + 1) := rfl
theorem segA_self (l : List (Int × Int)) (t : Nat) : segA l t t = [] := by simp [segA]
theorem sumS_snoc (a : List (Int × Int)) (s : Int × Int) : sumS (a ++ [s]) = sumS a + s.1 := by simp [sumS]
theorem stuckAt_snoc (d : Dye) (k : Nat) (s : Int × Int) : ∀ (a : List (Int × Int)) (r : Int), stuckAt d k r (a ++ [s]) = (stuckAt d k r a || decide (d.bound + s.2 < mostV (bladeAt d k) (r + sumS a + s.1))) := by
  intro a
  induction a with
  | nil => intro r; simp [stuckAt, sumS]
  | cons x a ih =>
    intro r
    simp only [List.cons_append, stuckAt, ih, Bool.or_assoc]
    have : r + x.1 + sumS a = r + sumS (x :: a) := by simp [sumS]; omega
    rw [this]
/-- A row that has held so far: whether it holds on hangs on the last stint alone. -/
theorem stuckR_next {d : Dye} {a : List (Int × Int)} {s : Int × Int} {r : Nat → Int} (h0 : ∀ k, k < d.bl.length → stuckAt d k 0 a = false) (hr : ∀ k, k < d.bl.length → r k = sumS a) : stuckR d (a ++ [s]) = failing d r s := by
  have hh : ∀ k, k < d.bl.length → stuckAt d k 0 (a ++ [s]) = failsB d r k s := fun k hk => by
    rw [stuckAt_snoc, h0 k hk, Bool.false_or, Int.zero_add, failsB, hr k hk]
  unfold stuckR failing
  have e : ∀ L : List Nat, (∀ k ∈ L, k < d.bl.length) → L.find? (fun k => stuckAt d k 0 (a ++ [s])) = L.find? (fun k => failsB d r k s) := by
    intro L
    induction L with
    | nil => intro _; rfl
    | cons k L ih =>
      intro h
      simp only [List.find?_cons, hh k (h k (by simp)), ih fun j hj => h j (by simp [hj])]
  exact e _ fun k hk => List.mem_range.1 hk
theorem stuckR_one {d : Dye} {l : List (Int × Int)} {i : Nat} {s : Int × Int} (h : l[i]? = some s) : stuckR d (segL l i i) = failing d zeroR s := by
  rw [segL_A, segA_succ h (Nat.le_refl _), segA_self]
  exact stuckR_next (fun k _ => rfl) (fun k _ => rfl)
theorem allS_bit {d : Dye} {k : Nat} (h : k < d.bl.length) : (allS d).testBit k = true := by
  unfold allS
  rw [Nat.testBit_two_pow_sub_one]; simpa using h
theorem stuck_none {d : Dye} {a : List (Int × Int)} (h : stuckR d a = none) : ∀ k, k < d.bl.length → stuckAt d k 0 a = false := fun k hk => by
  unfold stuckR at h
  rw [List.find?_eq_none] at h
  simpa using h k (List.mem_range.2 hk)

/-- Both lists of the call's own, the die's box. -/
structure PrS (w : World) (ds : Array Value) (vR : Value) (nR : Nat) (xs : List Value) (vB : Value) (nB : Nat) (ys : List Value) (W : World) : Prop where
  a : W.heap[w.heap.size]? = some (.cells ds 24)
  r : W.ownsRow (w.heap.size + 1) 28 2 vR nR xs
  b : W.ownsRow (w.heap.size + 1) 3 1 vB nB ys
  m : Mod noB w W
theorem PrS.later {w : World} {ds : Array Value} {vR : Value} {nR : Nat} {xs : List Value} {vB : Value} {nB : Nat} {ys : List Value} {W W' : World} (h : PrS w ds vR nR xs vB nB ys W) (hm : Mod noB W W') : PrS w ds vR nR xs vB nB ys W' :=
  ⟨hm.at h.a id, own_same h.r (fun r hr => by obtain ⟨_, cur, hc⟩ := own_block h.r hr; exact hm.block r (at_ltS hc) id), own_same h.b (fun r hr => by obtain ⟨_, cur, hc⟩ := own_block h.b hr; exact hm.block r (at_ltS hc) id), h.m.trans hm⟩
theorem PrS.appR {w : World} {ds : Array Value} {vR : Value} {nR : Nat} {xs : List Value} {vB : Value} {nB : Nat} {ys : List Value} {W W' : World} (h : PrS w ds vR nR xs vB nB ys W) {v2 : Value} {n2 : Nat} {x2 : List Value} (ho : W'.ownsRow (w.heap.size + 1) 28 2 v2 n2 x2) (hg : W.grownBy W' vR.ownBlock) : PrS w ds v2 n2 x2 vB nB ys W' := by
  have hm : Mod (fun j => vR.ownBlock = some j) W W' := Mod.of_grownBy hg (fun r hr _ => hr)
  have far : ∀ {j : Nat} {c : Array Value} {t : TypeId}, W.heap[j]? = some (.cells c t) → t ≠ 28 → ¬ vR.ownBlock = some j := fun hj ht he => by
    obtain ⟨_, cur, hc⟩ := own_block h.r he
    rw [hc] at hj; cases hj; exact ht rfl
  refine ⟨hm.at h.a (far h.a (by decide)), ho, own_same h.b (fun r hr => ?_), h.m.then hm (fun i h1 h2 => ?_)⟩
  · obtain ⟨_, cur, hc⟩ := own_block h.b hr
    exact hm.block r (at_ltS hc) (far hc (by decide))
  · have := (own_block h.r h2).1; omega
theorem PrS.appB {w : World} {ds : Array Value} {vR : Value} {nR : Nat} {xs : List Value} {vB : Value} {nB : Nat} {ys : List Value} {W W' : World} (h : PrS w ds vR nR xs vB nB ys W) {v2 : Value} {n2 : Nat} {x2 : List Value} (ho : W'.ownsRow (w.heap.size + 1) 3 1 v2 n2 x2) (hg : W.grownBy W' vB.ownBlock) : PrS w ds vR nR xs v2 n2 x2 W' := by
  have hm : Mod (fun j => vB.ownBlock = some j) W W' := Mod.of_grownBy hg (fun r hr _ => hr)
  have far : ∀ {j : Nat} {c : Array Value} {t : TypeId}, W.heap[j]? = some (.cells c t) → t ≠ 3 → ¬ vB.ownBlock = some j := fun hj ht he => by
    obtain ⟨_, cur, hc⟩ := own_block h.b he
    rw [hc] at hj; cases hj; exact ht rfl
  refine ⟨hm.at h.a (far h.a (by decide)), own_same h.r (fun r hr => ?_), ho, h.m.then hm (fun i h1 h2 => ?_)⟩
  · obtain ⟨_, cur, hc⟩ := own_block h.r hr
    exact hm.block r (at_ltS hc) (far hc (by decide))
  · have := (own_block h.b h2).1; omega

/-- Between two rounds of the second loop. -/
def PrI (w : World) (ds : Array Value) (d : Dye) (l : List (Int × Int)) (t f : Nat) (vR vB : Value) (W : World) : Prop :=
  ∃ (r : Nat → Int) (acc : List ((Nat × Nat) × Nat)), (∀ k, k < d.bl.length → r k = sumS (segA l f t)) ∧ (∀ k, k < d.bl.length → stuckAt d k 0 (segA l f t) = false) ∧ acc.length ≤ t ∧
    rowsR d 0 0 zeroR l = acc ++ rowsR d f t r (l.drop t) ∧ PrS w ds vR acc.length (rowCells acc) vB acc.length (rowInts acc) W
theorem drop_at {α : Type} {l : List α} {k : Nat} {s : α} (h : l[k]? = some s) : l.drop k = s :: l.drop (k + 1) := by
  obtain ⟨hlt, he⟩ := List.getElem?_eq_some_iff.1 h
  rw [← he]; exact List.drop_eq_getElem_cons hlt
theorem PrI.start {w : World} {ds : Array Value} {d : Dye} {l : List (Int × Int)} {W : World} (hb : ∀ s, l[0]? = some s → failing d zeroR s = none) (ha : W.heap[w.heap.size]? = some (.cells ds 24)) (hm : Mod noB w W) : PrI w ds d l 1 0 (.slice none 0 0) (.slice none 0 0) W := by
  cases hl : l[0]? with
  | none =>
    have : l = [] := by cases l with | nil => rfl | cons x l => simp at hl
    subst this
    exact ⟨zeroR, [], fun k _ => rfl, fun k _ => rfl, by simp, rfl, ha, ⟨rfl, .inl ⟨rfl, rfl⟩⟩, ⟨rfl, .inl ⟨rfl, rfl⟩⟩, hm⟩
  | some s =>
    have hf := hb s hl
    have e1 : segA l 0 1 = [s] := by rw [segA_succ hl (Nat.le_refl _), segA_self]; rfl
    refine ⟨runR d zeroR s, [], fun k hk => ?_, fun k hk => ?_, by simp, ?_, ha, ⟨rfl, .inl ⟨rfl, rfl⟩⟩, ⟨rfl, .inl ⟨rfl, rfl⟩⟩, hm⟩
    · rw [e1]; simp [runR, hk, zeroR, sumS]
    · rw [e1]; exact stuck_none (by rw [← hf]; exact stuckR_next (a := []) (fun k _ => rfl) (fun k _ => rfl)) k hk
    · have := drop_at hl
      rw [List.drop_zero] at this
      conv => lhs; rw [this, rowsR, hf]
      rfl
theorem PrI.pass {w : World} {ds : Array Value} {d : Dye} {l : List (Int × Int)} {t f : Nat} {vR vB : Value} {W : World} {r : Nat → Int} {acc : List ((Nat × Nat) × Nat)} {s : Int × Int} (h1 : ∀ k, k < d.bl.length → r k = sumS (segA l f t)) (h2 : ∀ k, k < d.bl.length → stuckAt d k 0 (segA l f t) = false) (h3 : acc.length ≤ t)
    (h4 : rowsR d 0 0 zeroR l = acc ++ rowsR d f t r (l.drop t)) (hs : l[t]? = some s) (hft : f ≤ t) (hf : failing d r s = none) (h5 : PrS w ds vR acc.length (rowCells acc) vB acc.length (rowInts acc) W) : PrI w ds d l (t + 1) f vR vB W := by
  refine ⟨runR d r s, acc, fun k hk => ?_, ?_, by omega, ?_, h5⟩
  · rw [segA_succ hs hft, sumS_snoc, ← h1 k hk]; simp [runR, hk]
  · rw [segA_succ hs hft]
    exact stuck_none (by rw [stuckR_next h2 h1, hf])
  · rw [h4, drop_at hs, rowsR, hf]
theorem PrI.stop {w : World} {ds : Array Value} {d : Dye} {l : List (Int × Int)} {t f b : Nat} {vR vB : Value} {W : World} {r : Nat → Int} {acc : List ((Nat × Nat) × Nat)} {s : Int × Int} (h3 : acc.length ≤ t)
    (h4 : rowsR d 0 0 zeroR l = acc ++ rowsR d f t r (l.drop t)) (hs : l[t]? = some s) (hz : failing d zeroR s = none) (hf : failing d r s = some b)
    (h5 : PrS w ds vR (acc.length + 1) (rowCells acc ++ [.int .i64 f, .int .i64 t]) vB (acc.length + 1) (rowInts acc ++ [.int .i64 b]) W) : PrI w ds d l (t + 1) t vR vB W := by
  have e1 : segA l t (t + 1) = [s] := by rw [segA_succ hs (Nat.le_refl _), segA_self]; rfl
  refine ⟨runR d (bentR r (allS d)) s, acc ++ [((f, t), b)], fun k hk => ?_, fun k hk => ?_, by simp; omega, ?_, ?_⟩
  · rw [e1]; simp [runR, hk, bentR, allS_bit hk, sumS]
  · rw [e1]; exact stuck_none (by rw [← hz]; exact stuckR_next (a := []) (fun k _ => rfl) (fun k _ => rfl)) k hk
  · rw [h4, drop_at hs, rowsR, hf]; simp
  · exact ⟨h5.a, by simpa [rowCells] using h5.r, by simpa [rowInts] using h5.b, h5.m⟩
end Go.Proofs.YtdncppempgpooaaDoor

/- The document's Proof: the walk. -/
namespace Go.Proofs.YtdncppempgpooaaDoor
open Go.RowKit Go.Shelf

set_option maxRecDepth 100000 in
set_option maxHeartbeats 8000000 in
theorem refProof_any (B : Nat) (ao : Option Addr) (cap : Nat) (d : Dye) (lo : Option Addr) (lcap : Nat) (l : List (Int × Int)) (w : World) (hI : InB B w ao d lo l) :
    Calls Tryd.prog 21 #[dyV ao d.bl.length cap d, .slice lo l.length lcap] w (ProofOut (proofE d l) w) := by
  have hsm := hI.bl.small
  have hsm2 := hI.st.small
  have HF := Hold.mk (show Kept (w.alloc (.cells (dyC ao d.bl.length cap d) 24)) (fun W => W.heap[w.heap.size]? = some (.cells (dyC ao d.bl.length cap d) 24) ∧ InB B W ao d lo l ∧ Mod noB w W) from fun W h => by
    have hm := ((Mod.refl noB w).alloc _).trans h
    exact ⟨h.at (World.alloc_heap_new w _) id, hI.mod hm, hm⟩)
  have H53 : Hold (∀ W, InB B W ao d lo l → Calls Tryd.prog 53 #[dyV ao d.bl.length cap d, .slice lo l.length lcap] W fun e w' => e = .returned (.int .i64 (checkE d l)) ∧ Mod noB W w') := ⟨fun W h => check_any B ao cap d lo lcap l W h⟩
  have HI := Hold.mk (show ∀ W, Mod noB w W → InB B W ao d lo l from fun W h => hI.mod h)
  clear hI
  cases hd : dieB d with
  | false =>
    have hE : Hold (proofE d l = ([], [], 1)) := ⟨by simp [proofE, hd]⟩
    rw [show checkE d l = 1 by simp [checkE, hd]] at H53
    clear hd
    go_enter Tryd.func21, Tryd.ntmps21
    go_wp2_with (first
      | (refine wpList_load_row rfl 24 (.tmp 2) rfl w.heap.size rfl 24 _ (0, 0) _ HF.out.now.1 Tryd.underlying24 rfl info24 ?_)
      | (go_at_call 53; refine (H53.out _ HF.out.now.2.1).mono ?_; rintro e w1 ⟨rfl, hM⟩; have HF := Hold.mk (HF.out.later hM); clear hM))
    refine go_ret456 rfl ?_
    rw [hE.out]
    exact proof_nil HF.out.now.2.2
  | true =>
  cases hs : stintsB l with
  | false =>
    have hE : Hold (proofE d l = ([], [], 2)) := ⟨by simp [proofE, hd, hs]⟩
    rw [show checkE d l = 2 by simp [checkE, hd, hs]] at H53
    clear hd hs
    go_enter Tryd.func21, Tryd.ntmps21
    go_wp2_with (first
      | (refine wpList_load_row rfl 24 (.tmp 2) rfl w.heap.size rfl 24 _ (0, 0) _ HF.out.now.1 Tryd.underlying24 rfl info24 ?_)
      | (go_at_call 53; refine (H53.out _ HF.out.now.2.1).mono ?_; rintro e w1 ⟨rfl, hM⟩; have HF := Hold.mk (HF.out.later hM); clear hM))
    refine go_ret456 rfl ?_
    rw [hE.out]
    exact proof_nil HF.out.now.2.2
  | true =>
  have hl7 : l.length ≤ 7 := by simp [stintsB] at hs; omega
  obtain ⟨i0, hi, hz0, hz1, hz2⟩ := info_parts info28
  obtain ⟨j0, hj, hy0, hy1, hy2⟩ := info_parts info3
  rw [show checkE d l = 0 by simp [checkE, hd, hs]] at H53
  have H36 : Hold (∀ (f t : Nat) W, InB B W ao d lo l → f ≤ t → t < l.length → Calls Tryd.prog 36 #[dyV ao d.bl.length cap d, .slice lo l.length lcap, .int .i64 f, .int .i64 t] W fun e w' => e = .returned (failV (stuckR d (segL l f t))) ∧ Mod noB W w') := ⟨fun f t W h h1 h2 => stuck_any B ao cap d lo lcap l f t W hd hs h h1 h2⟩
  have HDS := Hold.mk (And.intro hd hs)
  clear hd hs
  go_enter Tryd.func21, Tryd.ntmps21
  go_wp2_with (first
    | (refine wpList_load_row rfl 24 (.tmp 2) rfl w.heap.size rfl 24 _ (0, 0) _ HF.out.now.1 Tryd.underlying24 rfl info24 ?_)
    | (go_at_call 53; refine (H53.out _ HF.out.now.2.1).mono ?_; rintro e w1 ⟨rfl, hM⟩; have HF := Hold.mk (HF.out.later hM); clear hM))
  go_loopw [8] (fun i wr => ∃ k : Nat, k ≤ l.length ∧ i = .int .i64 k ∧ (∀ j s, j < k → l[j]? = some s → failing d zeroR s = none) ∧ Mod noB w1 wr) (fun i _ => l.length - (intOf i).toNat)
  case atStart => exact ⟨0, Nat.zero_le _, rfl, fun j s hj => absurd hj (Nat.not_lt_zero _), Mod.refl _ _⟩
  case round =>
    obtain ⟨k, hk, rfl, hall, hm⟩ := hrel
    have HA := Hold.mk hall
    have HW := Hold.mk (HF.out.later hm)
    have HM := Hold.mk hm
    clear hall hm
    by_cases hlt : k < l.length
    · obtain ⟨s, hs⟩ : ∃ s, l[k]? = some s := ⟨_, List.getElem?_eq_getElem hlt⟩
      have hst := stuckR_one (d := d) hs
      have HS := Hold.mk hs
      have HC := H36.out k k wr HW.out.now.2.1 (Nat.le_refl _) hlt
      rw [hst] at HC
      have HC := Hold.mk HC
      clear hs hst
      cases ho : failing d zeroR s with
      | some b =>
        have hE : Hold (proofE d l = ([], [], 4)) := ⟨by
          have : bearsB d l = false := by
            unfold bearsB
            rw [List.all_eq_false]
            exact ⟨s, List.mem_of_getElem? HS.out, by simp [ho]⟩
          simp [proofE, HDS.out.1, HDS.out.2, this]⟩
        rw [ho] at HC
        simp only [failV] at HC
        clear ho
        go_wp2_with (first
          | (refine wpList_load_row rfl 24 (.tmp 2) rfl w.heap.size rfl 24 _ (0, 0) _ HW.out.now.1 Tryd.underlying24 rfl info24 ?_)
          | (go_at_call 36; refine HC.out.mono ?_; rintro e w2 ⟨rfl, hM⟩; have HW := Hold.mk (HW.out.later hM); clear hM))
        refine go_ret456 rfl ?_
        rw [hE.out]
        exact proof_nil HW.out.now.2.2
      | none =>
        rw [ho] at HC
        simp only [failV] at HC
        have HO := Hold.mk ho
        clear ho
        go_wp2_with (first
          | (refine wpList_load_row rfl 24 (.tmp 2) rfl w.heap.size rfl 24 _ (0, 0) _ HW.out.now.1 Tryd.underlying24 rfl info24 ?_)
          | (go_at_call 36; refine HC.out.mono ?_; rintro e w2 ⟨rfl, hM⟩; have HM := Hold.mk (HM.out.trans hM); clear hM))
        go_roundw
        case rel => exact ⟨k + 1, by omega, by go_num, fun j y hj hy => by
          rcases Nat.lt_succ_iff_lt_or_eq.1 hj with h | rfl
          · exact HA.out j y h hy
          · rw [HS.out] at hy; cases hy; exact HO.out, HM.out⟩
        case measure => simp [intOf]; omega
    · obtain rfl : k = l.length := by omega
      have hE : Hold (proofE d l = ((rowsR d 0 0 zeroR l).map fun x => (Int.ofNat x.1.1, Int.ofNat x.1.2), (rowsR d 0 0 zeroR l).map fun x => Int.ofNat x.2, 0)) := ⟨by
        have : bearsB d l = true := by
          unfold bearsB
          rw [List.all_eq_true]
          intro s hs
          obtain ⟨j, hj, he⟩ := List.getElem_of_mem hs
          rw [HA.out j s hj (by rw [List.getElem?_eq_getElem hj, he])]; rfl
        simp [proofE, HDS.out.1, HDS.out.2, this]⟩
      have HST : Hold (PrI w (dyC ao d.bl.length cap d) d l 1 0 (.slice none 0 0) (.slice none 0 0) wr) := ⟨PrI.start (fun s hs => HA.out 0 s (List.getElem?_eq_some_iff.1 hs).1 hs) HW.out.now.1 HW.out.now.2.2⟩
      go_wp2
      generalize wr = W1 at *
      go_loopw [14, 11, 12, 13] (fun tt vR vB fr W => ∃ t f : Nat, 1 ≤ t ∧ (t ≤ l.length ∨ t = 1) ∧ tt = .int .i64 t ∧ fr = .int .i64 f ∧ f < t ∧ PrI w (dyC ao d.bl.length cap d) d l t f vR vB W) (fun tt _ _ _ _ => l.length - (intOf tt).toNat)
      case atStart => exact ⟨1, 0, Nat.le_refl _, .inr rfl, rfl, rfl, by omega, HST.out⟩
      case round =>
        obtain ⟨t, f, ht1, ht2, rfl, rfl, hft, r, acc, q1, q2, q3, q4, q5⟩ := hrel
        by_cases hlt2 : t < l.length
        · obtain ⟨s, hs⟩ : ∃ s, l[t]? = some s := ⟨_, List.getElem?_eq_getElem hlt2⟩
          have hst : stuckR d (segL l f t) = failing d r s := by rw [segL_A, segA_succ hs (by omega)]; exact stuckR_next q2 q1
          have HC := H36.out f t wr (HI.out _ q5.m) (by omega) hlt2
          rw [hst] at HC
          have HC := Hold.mk HC
          have HQ := Hold.mk (And.intro q1 (And.intro q2 (And.intro q3 (And.intro q4 hs))))
          have HS0 := Hold.mk q5
          have hal : acc.length ≤ 10 := by omega
          have hff : f ≤ 10 := by omega
          have htt : t ≤ 10 := by omega
          clear q1 q2 q3 q4 q5 hs hst
          cases ho : failing d r s with
          | none =>
            rw [ho] at HC
            simp only [failV] at HC
            have HO := Hold.mk ho
            clear ho
            go_wp2_with (first
              | (refine wpList_load_row rfl 24 (.tmp 2) rfl w.heap.size rfl 24 _ (0, 0) _ HS0.out.a Tryd.underlying24 rfl info24 ?_)
              | (go_at_call 36; refine HC.out.mono ?_; rintro e w2 ⟨rfl, hM⟩; have HS1 := Hold.mk (HS0.out.later hM); clear hM))
            go_roundw
            case rel =>
              obtain ⟨q1, q2, q3, q4, hs⟩ := HQ.out
              exact ⟨t + 1, f, by omega, by omega, by go_num, rfl, by omega, PrI.pass q1 q2 q3 q4 hs (by omega) HO.out HS1.out⟩
            case measure => simp [intOf]; omega
          | some b =>
            rw [ho] at HC
            simp only [failV] at HC
            have HO := Hold.mk ho
            clear ho
            go_wp2_with (first
              | (refine wpList_load_row rfl 24 (.tmp 2) rfl w.heap.size rfl 24 _ (0, 0) _ HS0.out.a Tryd.underlying24 rfl info24 ?_)
              | (go_at_call 36; refine HC.out.mono ?_; rintro e w5 ⟨rfl, hM⟩; have HS5 := Hold.mk (HS0.out.later hM); clear hM)
              | (at_builtin; refine wpList_append_own_at _ rfl (.tmp 53) (.tmp 57) 37 rfl (w.heap.size + 1) 28 i0 (.agg #[.int .i64 0, .int .i64 0]) 2 16 Tryd.underlying37 hi hz0 hz1 hz2 rfl (by decide) u11 acc.length (rowCells acc) rfl ((HS5.out.later ((Mod.refl noB w5).alloc (.cells #[.int .i64 f, .int .i64 t] 28))).r) ⟨w5.heap.size, 0, none⟩ 1 1 [.int .i64 f, .int .i64 t] rfl rfl (two_cells w5 f t 28) (by intro u hu; simp only [List.mem_cons, List.not_mem_nil, or_false] at hu; rcases hu with rfl | rfl <;> rfl) (by unfold maxLen; omega) (by omega) (by have := at_ltS HS5.out.a; simp; omega) ?_
                 intro v6 w6 hown hgr _ _
                 have HS6 := Hold.mk ((HS5.out.later ((Mod.refl noB w5).alloc (.cells #[.int .i64 f, .int .i64 t] 28))).appR hown hgr)
                 clear hown hgr)
              | (at_builtin; refine wpList_append_own_at _ rfl (.tmp 59) (.tmp 61) 34 rfl (w.heap.size + 1) 3 j0 (.int .i64 0) 1 8 Tryd.underlying34 hj hy0 hy1 hy2 rfl (by decide) u12 acc.length (rowInts acc) rfl ((HS6.out.later ((Mod.refl noB w6).alloc (.cells #[.int .i64 b] 3))).b) ⟨w6.heap.size, 0, none⟩ 1 1 [.int .i64 b] rfl rfl (one_cell w6 b) (by intro u hu; simp only [List.mem_cons, List.not_mem_nil, or_false] at hu; subst hu; rfl) (by unfold maxLen; omega) (by omega) (by have := at_ltS HS6.out.a; simp; omega) ?_
                 intro v7 w7 hown hgr _ _
                 have HS7 := Hold.mk ((HS6.out.later ((Mod.refl noB w6).alloc (.cells #[.int .i64 b] 3))).appB hown hgr)
                 clear hown hgr))
            go_roundw
            case rel =>
              obtain ⟨q1, q2, q3, q4, hs⟩ := HQ.out
              exact ⟨t + 1, t, by omega, by omega, by go_num, rfl, by omega, PrI.stop q3 q4 hs (HA.out t s hlt2 hs) HO.out HS7.out⟩
            case measure => simp [intOf]; omega
        · have he : rowsR d 0 0 zeroR l = acc := by rw [q4, List.drop_eq_nil_of_le (by omega), rowsR, List.append_nil]
          obtain ⟨ao1, cap1, rfl⟩ := own_form q5.r
          obtain ⟨ao2, cap2, rfl⟩ := own_form q5.b
          have HR : Hold (ProofOut (proofE d l) w (.returned (.tuple #[.slice ao1 acc.length cap1, .slice ao2 acc.length cap2, .int .i64 0])) wr) := ⟨by
            rw [hE.out, he]
            refine ⟨_, _, rfl, ?_, ?_, q5.m⟩
            · have e1 : spanL (acc.map fun x => (Int.ofNat x.1.1, Int.ofNat x.1.2)) = rowCells acc := by
                simp only [spanL, rowCells, List.flatMap_map]; rfl
              rw [e1, List.length_map]
              exact own_mono q5.r (by omega)
            · have e2 : (acc.map fun x => Int.ofNat x.2).map (Value.int .i64) = rowInts acc := by
                simp only [rowInts, List.map_map]; rfl
              rw [e2, List.length_map]
              exact own_mono q5.b (by omega)⟩
          clear q1 q2 q3 q4 q5 he
          go_wp2
          refine go_ret456 rfl ?_
          exact HR.out
end Go.Proofs.YtdncppempgpooaaDoor

/- RulePlans: the law's walk. -/
namespace Go.Proofs.YtdncppempgpooaaDoor
open Go.RowKit Go.Shelf

theorem proof_len (d : Dye) (l : List (Int × Int)) : (proofE d l).1.length ≤ l.length ∧ (proofE d l).2.1.length = (proofE d l).1.length := by
  unfold proofE
  split
  · simp
  · split
    · simp
    · split
      · simp
      · simp only [List.length_map]; exact ⟨rowsR_len _ _ _ _ _, trivial⟩
/-- What Proof returns, as lists in memory. -/
theorem proof_lists {v : List (Int × Int) × List Int × Int} {w : World} {e : Ending} {w' : World} (h : ProofOut v w e w') (hl : v.1.length ≤ 100) (hl2 : v.2.1.length = v.1.length) : ∃ a1 k1 a2 k2, e = .returned (.tuple #[.slice a1 v.1.length k1, .slice a2 v.1.length k2, .int .i64 v.2.2]) ∧ ListAt w'.heap.size w' 2 spC a1 v.1 ∧ IntsAt w' a2 v.2.1 ∧ Mod noB w w' := by
  obtain ⟨vR, vB, he, o1, o2, hm⟩ := h
  obtain ⟨a1, k1, rfl, i1⟩ := spans_own o1 rfl (by omega)
  obtain ⟨a2, k2, rfl, i2, _⟩ := ints_of_owns o2 rfl (by omega)
  rw [hl2] at he
  exact ⟨a1, k1, a2, k2, he, i1, i2, hm⟩

set_option maxRecDepth 100000 in
set_option maxHeartbeats 2000000 in
theorem law4_far (ao lo po : Option Addr) (cap n lcap ln pcap pn : Nat) (x y z : Int) (w : World) (hn : n ≤ 9223372036854775807) (hl : ln ≤ 9223372036854775807) (hp : pn ≤ 9223372036854775807) (hf : (10 < (n : Int)) ∨ (12 < (ln : Int)) ∨ (12 < (pn : Int))) (hT : Tab w) :
    Calls Tryd.prog 4 #[.agg #[.slice ao n cap, .int .i64 x, .int .i64 y, .int .i64 z], .slice lo ln lcap, .slice po pn pcap] w fun e w' => e = .returned (.bool true) ∧ Mod noB w w' := by
  have hw1 : 1 < w.heap.size := World.block_lt_of_cell? _ _ (hT.at_ 0 (by omega))
  have HF := Hold.mk (show Kept (w.alloc (.cells #[.slice ao n cap, .int .i64 x, .int .i64 y, .int .i64 z] 24)) (fun W => Tab W ∧ Mod noB w W) from fun W h => by
    have hm := ((Mod.refl noB w).alloc _).trans h
    exact ⟨hT.same (hm.block 1 hw1 id), hm⟩)
  have H12 : Hold (∀ W, Calls Tryd.prog 12 #[.agg #[.slice ao n cap, .int .i64 x, .int .i64 y, .int .i64 z], .slice lo ln lcap, .slice po pn pcap] W fun e w' => e = .returned (.bool true) ∧ Mod noB W w') := ⟨fun W => (far_more ao lo po cap n ln pn lcap pcap x y z W hn hl hp).mono fun e w' h => ⟨by rw [h.1]; congr 2; simp; omega, h.2⟩⟩
  clear hT hw1 hf
  go_enter Tryd.func4, Tryd.ntmps4
  go_wp2_with (first
    | (go_at_call 12; refine (H12.out _).mono ?_; rintro e w1 ⟨rfl, hM⟩; have HF1 := Hold.mk (HF.out.later hM); clear hM)
    | (go_at_call 13; refine (awake_any _ HF1.out.now.1).mono ?_; rintro e w2 ⟨rfl, hM⟩; have HF2 := Hold.mk (HF1.out.later hM); clear hM))
  go_ret
  exact ⟨rfl, HF2.out.now.2⟩

set_option maxRecDepth 100000 in
set_option maxHeartbeats 8000000 in
theorem law4_any (B : Nat) (ao : Option Addr) (cap : Nat) (d : Dye) (lo : Option Addr) (lcap : Nat) (l : List (Int × Int)) (po : Option Addr) (pcap : Nat) (p : List Int) (w : World) (hI : InB B w ao d lo l) (hp : IntsAt w po p) (h1 : ¬ 10 < (d.bl.length : Int)) (h2 : ¬ 12 < (l.length : Int)) (h3 : ¬ 12 < (p.length : Int)) :
    Calls Tryd.prog 4 #[dyV ao d.bl.length cap d, .slice lo l.length lcap, .slice po p.length pcap] w fun e w' => e = .returned (.bool true) ∧ Mod noB w w' := by
  have hsm := hI.bl.small
  have HF := Hold.mk (show Kept (w.alloc (.cells (dyC ao d.bl.length cap d) 24)) (fun W => W.heap[w.heap.size]? = some (.cells (dyC ao d.bl.length cap d) 24) ∧ InB B W ao d lo l ∧ IntsAt W po p ∧ Mod noB w W) from fun W h => by
    have hm := ((Mod.refl noB w).alloc _).trans h
    exact ⟨h.at (World.alloc_heap_new w _) id, hI.mod hm, hp.mod hm, hm⟩)
  have H12 : Hold (∀ W, Calls Tryd.prog 12 #[dyV ao d.bl.length cap d, .slice lo l.length lcap, .slice po p.length pcap] W fun e w' => e = .returned (.bool false) ∧ Mod noB W w') := ⟨fun W => (far_more ao lo po cap d.bl.length l.length p.length lcap pcap d.bound d.stop d.bend W (by omega) (by omega) (by omega)).mono fun e w' h => ⟨by rw [h.1]; congr 2; simp; omega, h.2⟩⟩
  obtain ⟨⟨f1, f2, f3, f4⟩, hfo⟩ : ∃ f, followE d l p = f := ⟨_, rfl⟩
  have H18 : Hold (∀ W, InB B W ao d lo l → IntsAt W po p → Calls Tryd.prog 18 #[dyV ao d.bl.length cap d, .slice lo l.length lcap, .slice po p.length pcap] W fun e w' => e = .returned (.tuple #[.int .i64 f1, .int .i64 f2, .int .i64 f3, .int .i64 f4]) ∧ Mod noB W w') := ⟨fun W h1 h2 => (follow_any B ao cap d lo lcap l po pcap p W h1 h2).mono fun e w' h => by rw [hfo] at h; exact h⟩
  have H19 : Hold (∀ W, InB B W ao d lo l → IntsAt W po p → Calls Tryd.prog 19 #[dyV ao d.bl.length cap d, .slice lo l.length lcap, .slice po p.length pcap] W fun e w' => e = .returned (.tuple #[.int .i64 f1, .int .i64 f2, .int .i64 f3, .int .i64 f4]) ∧ Mod noB W w') := ⟨fun W h1 h2 => (refFollow_any B ao cap d lo lcap l po pcap p W h1 h2).mono fun e w' h => by rw [hfo] at h; exact h⟩
  obtain ⟨hl1, hl2⟩ := proof_len d l
  obtain ⟨⟨R, K, pe⟩, hpr⟩ : ∃ v, proofE d l = v := ⟨_, rfl⟩
  rw [hpr] at hl1 hl2
  simp only at hl1 hl2
  have H20 : Hold (∀ W, InB B W ao d lo l → Calls Tryd.prog 20 #[dyV ao d.bl.length cap d, .slice lo l.length lcap] W fun e w' => ∃ a1 k1 a2 k2, e = .returned (.tuple #[.slice a1 R.length k1, .slice a2 R.length k2, .int .i64 pe]) ∧ ListAt w'.heap.size w' 2 spC a1 R ∧ IntsAt w' a2 K ∧ Mod noB W w') := ⟨fun W h => (proof_any B ao cap d lo lcap l W h).mono fun e w' h => by rw [hpr] at h; exact proof_lists h (by show R.length ≤ 100; omega) hl2⟩
  have H21 : Hold (∀ W, InB B W ao d lo l → Calls Tryd.prog 21 #[dyV ao d.bl.length cap d, .slice lo l.length lcap] W fun e w' => ∃ a1 k1 a2 k2, e = .returned (.tuple #[.slice a1 R.length k1, .slice a2 R.length k2, .int .i64 pe]) ∧ ListAt w'.heap.size w' 2 spC a1 R ∧ IntsAt w' a2 K ∧ Mod noB W w') := ⟨fun W h => (refProof_any B ao cap d lo lcap l W h).mono fun e w' h => by rw [hpr] at h; exact proof_lists h (by show R.length ≤ 100; omega) hl2⟩
  have HK := Hold.mk hl2
  clear hI hp h1 h2 h3 hfo hpr hl1 hl2
  go_enter Tryd.func4, Tryd.ntmps4
  go_wp2_with (first
    | (refine wpList_load_row rfl 24 (.tmp 3) rfl w.heap.size rfl 24 _ (0, 0) _ HF.out.now.1 Tryd.underlying24 rfl info24 ?_)
    | (go_at_call 12; refine (H12.out _).mono ?_; rintro e w1 ⟨rfl, hM⟩; have HF := Hold.mk (HF.out.later hM); clear hM)
    | (go_at_call 18; refine (H18.out _ HF.out.now.2.1 HF.out.now.2.2.1).mono ?_; rintro e w2 ⟨rfl, hM⟩; have HF := Hold.mk (HF.out.later hM); clear hM)
    | (go_at_call 19; refine (H19.out _ HF.out.now.2.1 HF.out.now.2.2.1).mono ?_; rintro e w3 ⟨rfl, hM⟩; have HF := Hold.mk (HF.out.later hM); clear hM)
    | (go_at_call 20; refine (H20.out _ HF.out.now.2.1).mono ?_; rintro e w4 ⟨a1, k1, a2, k2, rfl, i1, i2, hM⟩; have HF := Hold.mk (HF.out.later hM); have HR1 := Hold.mk (kept_spans i1); have HK1 := Hold.mk (kept_ints i2); clear hM i1 i2)
    | (go_at_call 21; refine (H21.out _ HF.out.now.2.1).mono ?_; rintro e w5 ⟨a3, k3, a4, k4, rfl, i1, i2, hM⟩; have HF := Hold.mk (HF.out.later hM); have HR1 := Hold.mk (HR1.out.later hM); have HK1 := Hold.mk (HK1.out.later hM); have HR2 := Hold.mk (kept_spans i1); have HK2 := Hold.mk (kept_ints i2); clear hM i1 i2)
    | (go_at_call 22; refine (callSpans (L := R) rfl rfl HR1.out.now HR2.out.now).mono ?_; rintro e w6 ⟨rfl, hM⟩; have HF := Hold.mk (HF.out.later hM); have HK1 := Hold.mk (HK1.out.later hM); have HK2 := Hold.mk (HK2.out.later hM); clear hM)
    | (go_at_call 23; refine (callInts (L := K) HK.out.symm HK.out.symm HK1.out.now HK2.out.now).mono ?_; rintro e w7 ⟨rfl, hM⟩; have HF := Hold.mk (HF.out.later hM); clear hM)
    | (go_at_call 13; refine (awake_any _ HF.out.now.2.1.tab).mono ?_; rintro e w8 ⟨rfl, hM⟩; have HF := Hold.mk (HF.out.later hM); clear hM))
  go_ret
  exact ⟨rfl, HF.out.now.2.2.2⟩
end Go.Proofs.YtdncppempgpooaaDoor

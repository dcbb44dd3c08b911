/- rows: why there must be so many stops. -/
import Derived.Test.YtdncppempgpooaaDoorRuR
import Derived.Deep.DeepCutAuto
set_option linter.unusedSimpArgs false
set_option linter.unusedVariables false
namespace Go.Proofs.YtdncppempgpooaaDoor
open Go.RowKit Go.Shelf

theorem own_same {base n sz : Nat} {e : TypeId} {w w' : World} {v : Value} {xs : List Value} (h : w.ownsRow base e sz v n xs) (hs : ∀ r, v.ownBlock = some r → w'.heap[r]? = w.heap[r]?) : w'.ownsRow base e sz v n xs := by
  obtain ⟨h1, h2 | ⟨g, cap, cur, hv, hb, hh, hr⟩⟩ := h
  · exact ⟨h1, .inl h2⟩
  · exact ⟨h1, .inr ⟨g, cap, cur, hv, hb, (hs g (by rw [hv]; rfl)).trans hh, hr⟩⟩
theorem own_block {base n sz : Nat} {e : TypeId} {w : World} {v : Value} {xs : List Value} (h : w.ownsRow base e sz v n xs) {r : Nat} (hr : v.ownBlock = some r) : base ≤ r ∧ ∃ cur, w.heap[r]? = some (.cells cur e) := by
  obtain ⟨_, ⟨rfl, _⟩ | ⟨g, cap, cur, rfl, hb, hh, _⟩⟩ := h
  · cases hr
  · have : some g = some r := hr
    cases this
    exact ⟨hb, cur, hh⟩
theorem own_form {base n sz : Nat} {e : TypeId} {w : World} {v : Value} {xs : List Value} (h : w.ownsRow base e sz v n xs) : ∃ ao cap, v = .slice ao n cap := by
  obtain ⟨_, ⟨rfl, h2⟩ | ⟨g, cap, cur, hv, _⟩⟩ := h
  · exact ⟨none, 0, by rw [h2]⟩
  · exact ⟨_, _, hv⟩
theorem info28 : (Tryd.prog.info? 28).map (fun i => (i.zero, i.size, i.bytes)) = some (some (.agg #[.int .i64 0, .int .i64 0]), 2, 16) := by kernel_rfl

/-- The rows, as cells. -/
def rowCells (acc : List ((Nat × Nat) × Nat)) : List Value := acc.flatMap fun x => [Value.int .i64 x.1.1, Value.int .i64 x.1.2]
def rowInts (acc : List ((Nat × Nat) × Nat)) : List Value := acc.map fun x => Value.int .i64 x.2
theorem rowsR_len (d : Dye) : ∀ (l : List (Int × Int)) (fr i : Nat) (r : Nat → Int), (rowsR d fr i r l).length ≤ l.length := by
  intro l
  induction l with
  | nil => intro fr i r; simp [rowsR]
  | cons s l ih =>
    intro fr i r
    simp only [rowsR]
    split
    · simp only [List.length_cons]; have := ih i (i + 1) (runR d (bentR r (allS d)) s); omega
    · simp only [List.length_cons]; have := ih fr (i + 1) (runR d r s); omega

/-- Between two rounds of rows. -/
structure RwI (B : Nat) (ao : Option Addr) (cap : Nat) (d : Dye) (oo : Option Addr) (oc : Nat) (l : List (Int × Int)) (w : World) (k fr : Nat) (vR vB : Value) (wr : World) : Prop where
  ex : ∃ (r : Nat → Int) (acc : List ((Nat × Nat) × Nat)), wr.heap[w.heap.size]? = some (.cells (mtC ao d.bl.length cap d oo oc r) 87) ∧ RunB (1000 * k) r ∧ acc.length ≤ k ∧
    wr.ownsRow (w.heap.size + 1) 28 2 vR acc.length (rowCells acc) ∧ wr.ownsRow (w.heap.size + 1) 3 1 vB acc.length (rowInts acc) ∧ rowsR d 0 0 zeroR l = acc ++ rowsR d fr k r (l.drop k)
  m : Mod noB w wr
  lt : w.heap.size + 1 ≤ wr.heap.size

def RowsOut (d : Dye) (l : List (Int × Int)) (w : World) (e : Ending) (w' : World) : Prop :=
  ∃ vR vB, e = .returned (.tuple #[vR, vB]) ∧ w'.ownsRow w.heap.size 28 2 vR (rowsR d 0 0 zeroR l).length (rowCells (rowsR d 0 0 zeroR l)) ∧ w'.ownsRow w.heap.size 3 1 vB (rowsR d 0 0 zeroR l).length (rowInts (rowsR d 0 0 zeroR l)) ∧ Mod noB w w'

theorem mt_cells {W : World} {b : Nat} {ao : Option Addr} {n cap : Nat} {d : Dye} {oo : Option Addr} {oc : Nat} {r : Nat → Int} (h : W.heap[b]? = some (.cells (mtC ao n cap d oo oc r) 87)) :
    W.cell? ⟨b, 0, none⟩ = some (.slice ao n cap) ∧ W.cell? ⟨b, 1, none⟩ = some (.int .i64 d.bound) ∧ W.cell? ⟨b, 2, none⟩ = some (.int .i64 d.stop) ∧ W.cell? ⟨b, 3, none⟩ = some (.int .i64 d.bend) ∧ W.cell? ⟨b, 4, none⟩ = some (.slice oo n oc) ∧
    W.cell? ⟨b, 5, none⟩ = some (.int .i64 (r 0)) ∧ W.cell? ⟨b, 6, none⟩ = some (.int .i64 (r 1)) ∧ W.cell? ⟨b, 7, none⟩ = some (.int .i64 (r 2)) ∧ W.cell? ⟨b, 8, none⟩ = some (.int .i64 (r 3)) ∧ W.cell? ⟨b, 9, none⟩ = some (.int .i64 (r 4)) :=
  ⟨cellsAt h 0, cellsAt h 1, cellsAt h 2, cellsAt h 3, cellsAt h 4, cellsAt h 5, cellsAt h 6, cellsAt h 7, cellsAt h 8, cellsAt h 9⟩
theorem sp_cells {W : World} {b : Nat} {s : Int × Int} {t : TypeId} (h : W.heap[b]? = some (.cells (spC s) t)) : W.cell? ⟨b, 0, none⟩ = some (.int .i64 s.1) ∧ W.cell? ⟨b, 1, none⟩ = some (.int .i64 s.2) := ⟨cellsAt h 0, cellsAt h 1⟩
theorem mtC_size {ao : Option Addr} {n cap : Nat} {d : Dye} {oo : Option Addr} {oc : Nat} {r r' : Nat → Int} : (mtC ao n cap d oo oc r).size = (mtC ao n cap d oo oc r').size := rfl

/-- In the midst of a round: the box of the die, that of the stint, both lists. -/
structure RwS (w : World) (sb : Nat) (cs ss : Array Value) (vR : Value) (nR : Nat) (xs : List Value) (vB : Value) (nB : Nat) (ys : List Value) (W : World) : Prop where
  a : W.heap[w.heap.size]? = some (.cells cs 87)
  s : W.heap[sb]? = some (.cells ss 58)
  r : W.ownsRow (w.heap.size + 1) 28 2 vR nR xs
  b : W.ownsRow (w.heap.size + 1) 3 1 vB nB ys
  m : Mod noB w W
theorem RwS.later {w : World} {sb : Nat} {cs ss : Array Value} {vR : Value} {nR : Nat} {xs : List Value} {vB : Value} {nB : Nat} {ys : List Value} {W W' : World} (h : RwS w sb cs ss vR nR xs vB nB ys W) (hm : Mod noB W W') : RwS w sb cs ss vR nR xs vB nB ys W' :=
  ⟨hm.at h.a id, hm.at h.s id, own_same h.r (fun r hr => by obtain ⟨_, cur, hc⟩ := own_block h.r hr; exact hm.block r (at_ltS hc) id), own_same h.b (fun r hr => by obtain ⟨_, cur, hc⟩ := own_block h.b hr; exact hm.block r (at_ltS hc) id), h.m.trans hm⟩
theorem RwS.appR {w : World} {sb : Nat} {cs ss : Array Value} {vR : Value} {nR : Nat} {xs : List Value} {vB : Value} {nB : Nat} {ys : List Value} {W W' : World} (h : RwS w sb cs ss vR nR xs vB nB ys W) {v2 : Value} {n2 : Nat} {x2 : List Value} (ho : W'.ownsRow (w.heap.size + 1) 28 2 v2 n2 x2) (hg : W.grownBy W' vR.ownBlock) : RwS w sb cs ss v2 n2 x2 vB nB ys W' := by
  have hm : Mod (fun j => vR.ownBlock = some j) W W' := Mod.of_grownBy hg (fun r hr _ => hr)
  have far : ∀ {j : Nat} {c : Array Value} {t : TypeId}, W.heap[j]? = some (.cells c t) → t ≠ 28 → ¬ vR.ownBlock = some j := fun hj ht he => by
    obtain ⟨_, cur, hc⟩ := own_block h.r he
    rw [hc] at hj; cases hj; exact ht rfl
  refine ⟨hm.at h.a (far h.a (by decide)), hm.at h.s (far h.s (by decide)), ho, own_same h.b (fun r hr => ?_), h.m.then hm (fun i h1 h2 => ?_)⟩
  · obtain ⟨_, cur, hc⟩ := own_block h.b hr
    exact hm.block r (at_ltS hc) (far hc (by decide))
  · have := (own_block h.r h2).1; omega
theorem RwS.appB {w : World} {sb : Nat} {cs ss : Array Value} {vR : Value} {nR : Nat} {xs : List Value} {vB : Value} {nB : Nat} {ys : List Value} {W W' : World} (h : RwS w sb cs ss vR nR xs vB nB ys W) {v2 : Value} {n2 : Nat} {x2 : List Value} (ho : W'.ownsRow (w.heap.size + 1) 3 1 v2 n2 x2) (hg : W.grownBy W' vB.ownBlock) : RwS w sb cs ss vR nR xs v2 n2 x2 W' := by
  have hm : Mod (fun j => vB.ownBlock = some j) W W' := Mod.of_grownBy hg (fun r hr _ => hr)
  have far : ∀ {j : Nat} {c : Array Value} {t : TypeId}, W.heap[j]? = some (.cells c t) → t ≠ 3 → ¬ vB.ownBlock = some j := fun hj ht he => by
    obtain ⟨_, cur, hc⟩ := own_block h.b he
    rw [hc] at hj; cases hj; exact ht rfl
  refine ⟨hm.at h.a (far h.a (by decide)), hm.at h.s (far h.s (by decide)), own_same h.r (fun r hr => ?_), ho, h.m.then hm (fun i h1 h2 => ?_)⟩
  · obtain ⟨_, cur, hc⟩ := own_block h.r hr
    exact hm.block r (at_ltS hc) (far hc (by decide))
  · have := (own_block h.b h2).1; omega
theorem RwS.put {w : World} {sb : Nat} {cs ss : Array Value} {vR : Value} {nR : Nat} {xs : List Value} {vB : Value} {nB : Nat} {ys : List Value} {W : World} (h : RwS w sb cs ss vR nR xs vB nB ys W) (cs' : Array Value) : RwS w sb cs' ss vR nR xs vB nB ys (W.putObj w.heap.size (.cells cs' 87)) := by
  have hm : Mod (fun j => j = w.heap.size) W (W.putObj w.heap.size (.cells cs' 87)) := (Mod.refl (fun j => j = w.heap.size) W).putObj (fun _ => rfl) _
  refine ⟨World.putObj_heap_same (at_ltS h.a), hm.at h.s (fun e => by have := h.s; rw [e, h.a] at this; cases this), own_same h.r (fun r hr => ?_), own_same h.b (fun r hr => ?_), h.m.putObj (fun h => by omega) _⟩
  · obtain ⟨hb, cur, hc⟩ := own_block h.r hr
    exact hm.block r (at_ltS hc) (by omega)
  · obtain ⟨hb, cur, hc⟩ := own_block h.b hr
    exact hm.block r (at_ltS hc) (by omega)
theorem two_cells (w : World) (a b : Int) (t : TypeId) : ∀ (j : Nat) (u : Value), [Value.int .i64 a, Value.int .i64 b][j]? = some u → (w.alloc (.cells #[.int .i64 a, .int .i64 b] t)).cell? (Addr.add ⟨w.heap.size, 0, none⟩ j) = some u := fun j u hj => by
  have hnw := World.alloc_heap_new w (.cells #[.int .i64 a, .int .i64 b] t)
  have ea : Addr.add ⟨w.heap.size, 0, none⟩ j = ⟨w.heap.size, j, none⟩ := by simp [Addr.add]; omega
  rw [ea, cellsAt hnw, ← Array.getElem?_toList]
  exact hj

/-- One stint that a blade cannot run through. -/
theorem RwI.stop {B : Nat} {ao : Option Addr} {cap : Nat} {d : Dye} {oo : Option Addr} {oc : Nat} {l : List (Int × Int)} {w : World} {k f b sb : Nat} {vR vB : Value} {W' : World} {r : Nat → Int} {acc : List ((Nat × Nat) × Nat)} {s : Int × Int} {ss : Array Value}
    (h2 : RunB (1000 * k) r) (h3 : acc.length ≤ k) (h6 : rowsR d 0 0 zeroR l = acc ++ rowsR d f k r (l.drop k)) (hlt : w.heap.size + 1 ≤ W'.heap.size) (hk : l[k]? = some s) (hst : stintB s = true) (hf : failing d r s = some b)
    (hW : RwS w sb (mtC ao d.bl.length cap d oo oc (runR d (bentR r (allS d)) s)) ss vR (acc.length + 1) (rowCells acc ++ [.int .i64 f, .int .i64 k]) vB (acc.length + 1) (rowInts acc ++ [.int .i64 b]) W') :
    RwI B ao cap d oo oc l w (k + 1) k vR vB W' := by
  have hs1 : 0 ≤ s.1 ∧ s.1 ≤ 1000 := by
    simp only [stintB, fromB, Bool.and_eq_true, decide_eq_true_eq] at hst
    omega
  refine ⟨⟨_, acc ++ [((f, k), b)], hW.a, ?_, by simp; omega, ?_, ?_, ?_⟩, hW.m, hlt⟩
  · have := (h2.bent (by omega) (allS d)).run d hs1
    exact this.mono (by omega)
  · have := hW.r
    simpa [rowCells] using this
  · have := hW.b
    simpa [rowInts] using this
  · rw [h6]
    have hd : l.drop k = s :: l.drop (k + 1) := by
      obtain ⟨hlt, he⟩ := List.getElem?_eq_some_iff.1 hk
      rw [← he]; exact List.drop_eq_getElem_cons hlt
    rw [hd, rowsR, hf]
    simp

/-- One stint run through. -/
theorem RwI.pass {B : Nat} {ao : Option Addr} {cap : Nat} {d : Dye} {oo : Option Addr} {oc : Nat} {l : List (Int × Int)} {w : World} {k f : Nat} {vR vB : Value} {wr W' : World} {r : Nat → Int} {acc : List ((Nat × Nat) × Nat)} {s : Int × Int} {o : Obj}
    (h2 : RunB (1000 * k) r) (h3 : acc.length ≤ k) (h4 : wr.ownsRow (w.heap.size + 1) 28 2 vR acc.length (rowCells acc)) (h5 : wr.ownsRow (w.heap.size + 1) 3 1 vB acc.length (rowInts acc)) (h6 : rowsR d 0 0 zeroR l = acc ++ rowsR d f k r (l.drop k))
    (hm : Mod noB w wr) (hlt : w.heap.size + 1 ≤ wr.heap.size) (hk : l[k]? = some s) (hst : stintB s = true) (hf : failing d r s = none) (hW : Mod noB wr W') (ho : o = .cells (mtC ao d.bl.length cap d oo oc (runR d r s)) 87) :
    RwI B ao cap d oo oc l w (k + 1) f vR vB (W'.putObj w.heap.size o) := by
  have hm2 : Mod (fun j => j = w.heap.size) W' (W'.putObj w.heap.size o) := (Mod.refl (fun j => j = w.heap.size) W').putObj (fun _ => rfl) _
  have hs1 : 0 ≤ s.1 ∧ s.1 ≤ 1000 := by
    simp only [stintB, fromB, Bool.and_eq_true, decide_eq_true_eq] at hst
    omega
  have hz := hW.size
  have keep : ∀ {e : TypeId} {sz n : Nat} {v : Value} {xs : List Value}, wr.ownsRow (w.heap.size + 1) e sz v n xs → (W'.putObj w.heap.size o).ownsRow (w.heap.size + 1) e sz v n xs := fun h => own_same h (fun r hr => by
    obtain ⟨hb, cur, hc⟩ := own_block h hr
    have hlt := at_ltS hc
    exact (hm2.block r (by omega) (by omega)).trans (hW.block r hlt id))
  refine ⟨⟨runR d r s, acc, ?_, ?_, by omega, keep h4, keep h5, ?_⟩, (hm.trans hW).putObj (fun h => by omega) _, by have := hm2.size; omega⟩
  · rw [ho]; exact World.putObj_heap_same (by omega)
  · have := h2.run d hs1
    exact this.mono (by omega)
  · rw [h6]
    have hd : l.drop k = s :: l.drop (k + 1) := by
      obtain ⟨hlt, he⟩ := List.getElem?_eq_some_iff.1 hk
      rw [← he]; exact List.drop_eq_getElem_cons hlt
    rw [hd, rowsR, hf]

set_option maxRecDepth 100000 in
set_option maxHeartbeats 8000000 in
theorem rows_any (B : Nat) (ao : Option Addr) (cap : Nat) (d : Dye) (oo : Option Addr) (oc : Nat) (lo : Option Addr) (lcap : Nat) (l : List (Int × Int)) (w : World) (hM : Mnt B w oo d) (hl : StintsAt B w lo l) (hs : stintsB l = true) :
    Calls Tryd.prog 55 #[mtV ao d.bl.length cap d oo oc zeroR, .slice lo l.length lcap] w (RowsOut d l w) := by
  have hn5 := (dieB_parts hM.die).1.2
  obtain ⟨hl7, hst⟩ : l.length ≤ 7 ∧ ∀ s ∈ l, stintB s = true := by
    simp only [stintsB, Bool.and_eq_true, List.all_eq_true, decide_eq_true_eq] at hs
    exact ⟨by omega, hs.2⟩
  obtain ⟨i0, hi, hz0, hz1, hz2⟩ := info_parts info28
  obtain ⟨j0, hj, hy0, hy1, hy2⟩ := info_parts info3
  have hall : allS d < 32 := by
    unfold allS
    have : 2 ^ d.bl.length ≤ 2 ^ 5 := Nat.pow_le_pow_right (by decide) hn5
    omega
  have HMn := Hold.mk hM
  have HL : Hold (∀ W, Mod noB w W → StintsAt B W lo l) := ⟨fun W h => hl.low (Low.ofN h hM.le)⟩
  have HST := Hold.mk hst
  have HP := Hold.mk (And.intro hall hn5)
  have HI : Hold (RwI B ao cap d oo oc l w 0 0 (.slice none 0 0) (.slice none 0 0) (w.alloc (.cells (mtC ao d.bl.length cap d oo oc zeroR) 87))) :=
    ⟨⟨⟨zeroR, [], World.alloc_heap_new w _, runB_zero, Nat.le_refl _, ⟨rfl, .inl ⟨rfl, rfl⟩⟩, ⟨rfl, .inl ⟨rfl, rfl⟩⟩, rfl⟩, (Mod.refl _ _).alloc _, by simp⟩⟩
  clear hM hl hs hst hn5 hall
  go_enter Tryd.func55, Tryd.ntmps55
  go_wp2
  go_loopw [13, 4, 5, 6] (fun i vR vB fr wr => ∃ k f : Nat, k ≤ l.length ∧ i = .int .i64 k ∧ fr = .int .i64 f ∧ f ≤ 10 ∧ RwI B ao cap d oo oc l w k f vR vB wr) (fun i _ _ _ _ => l.length - (intOf i).toNat)
  case atStart => exact ⟨0, 0, Nat.zero_le _, rfl, rfl, by omega, HI.out⟩
  case round =>
    obtain ⟨k, f, hk, rfl, rfl, hf10, hI⟩ := hrel
    by_cases hlt : k < l.length
    · obtain ⟨s, hs⟩ : ∃ s, l[k]? = some s := ⟨_, List.getElem?_eq_getElem hlt⟩
      obtain ⟨⟨r, acc, i1, i2, i3, i4, i5, i6⟩, im, il⟩ := hI
      obtain ⟨sb, off, rfl, hsb, q0, q1⟩ := (HL.out _ im).stint hs
      have hst := HST.out s (List.mem_of_getElem? hs)
      have hne1 : sb ≠ wr.heap.size := by have := HMn.out.le; have := im.size; omega
      have hrun : RunB 10000 r := i2.mono (by omega)
      obtain ⟨W4, hW4⟩ : ∃ W4, wr.alloc (.cells (spC s) 58) = W4 := ⟨_, rfl⟩
      have hm4 : Mod noB wr W4 := by rw [← hW4]; exact (Mod.refl _ _).alloc _
      have hb4 := hm4.at i1 id
      have hs4 : W4.heap[wr.heap.size]? = some (.cells (spC s) 58) := by rw [← hW4]; exact World.alloc_heap_new _ _
      have HK : Hold (Kept W4 (fun W => (W.heap[w.heap.size]? = some (.cells (mtC ao d.bl.length cap d oo oc r) 87) ∧ W.heap[wr.heap.size]? = some (.cells (spC s) 58)) ∧ Mod noB wr W)) := ⟨fun W h => ⟨⟨h.at hb4 id, h.at hs4 id⟩, hm4.trans h⟩⟩
      have HC : ∀ o, failing d r s = o → ∀ W, Mod noB wr W → Calls Tryd.prog 51 #[mtV ao d.bl.length cap d oo oc r, spV s] W fun e w' => e = .returned (failV o) ∧ Mod noB W w' := fun o ho W h => by rw [← ho]; exact failing_any B ao cap d oo oc r s W (HMn.out.mod (im.trans h)) hrun hst
      have HR := Hold.mk (fun W => run_any ao cap d oo oc r s W HP.out.2 hrun hst)
      have HV := Hold.mk (And.intro (@mtC_info ao d.bl.length cap d oo oc (runR d r s)) (@mtC_size ao d.bl.length cap d oo oc r (runR d r s)))
      obtain ⟨c0, c1, c2, c3, c4, c5, c6, c7, c8, c9⟩ := mt_cells hb4
      obtain ⟨d0, d1⟩ := sp_cells hs4
      have HS := Hold.mk (And.intro hs hst)
      have HI := Hold.mk (And.intro i2 (And.intro i3 (And.intro i4 (And.intro i5 (And.intro i6 (And.intro im il))))))
      clear hs hst i1 i2 i3 i4 i5 i6 im il hrun hm4 hb4 hs4
      cases ho : failing d r s with
      | none =>
        have HC' : Hold (∀ W, Mod noB wr W → Calls Tryd.prog 51 #[mtV ao d.bl.length cap d oo oc r, spV s] W fun e w' => e = .returned (.tuple #[.int .i64 0, .bool false]) ∧ Mod noB W w') := ⟨HC _ ho⟩
        have HO := Hold.mk ho
        clear HC ho
        obtain ⟨s1, s2⟩ := s
        go_wp2_with (first
          | (go_at_call 51; (try rw [hW4]); refine (HC'.out _ HK.out.now.2).mono ?_; rintro e w5 ⟨rfl, hM⟩; clear c0 c1 c2 c3 c4 c5 c6 c7 c8 c9 d0 d1; have HK5 := Hold.mk (HK.out.later hM); obtain ⟨c0, c1, c2, c3, c4, c5, c6, c7, c8, c9⟩ := mt_cells HK5.out.now.1.1; obtain ⟨d0, d1⟩ := sp_cells HK5.out.now.1.2; clear hM)
          | (go_at_call 52; refine (HR.out _).mono ?_; rintro e w6 ⟨rfl, hM⟩; have HK6 := Hold.mk (HK5.out.later hM); clear hM)
          | (refine wpList_store_row rfl 87 (.tmp 2) (.tmp 43) rfl w.heap.size (mtC ao d.bl.length cap d oo oc (runR d r (s1, s2))) rfl rfl 87 _ HK6.out.now.1.1 HV.out.1.1 HV.out.2 HV.out.1.2.2 ?_; rw [setRow_put HK6.out.now.1.1]))
        go_roundw
        case rel =>
          obtain ⟨i2, i3, i4, i5, i6, im, il⟩ := HI.out
          exact ⟨k + 1, f, by omega, by go_num, rfl, hf10, RwI.pass i2 i3 i4 i5 i6 im il HS.out.1 HS.out.2 HO.out HK6.out.now.2 rfl⟩
        case measure => simp [intOf]; omega
      | some b =>
        have HC' : Hold (∀ W, Mod noB wr W → Calls Tryd.prog 51 #[mtV ao d.bl.length cap d oo oc r, spV s] W fun e w' => e = .returned (.tuple #[.int .i64 b, .bool true]) ∧ Mod noB W w') := ⟨HC _ ho⟩
        have HO := Hold.mk ho
        have HA := Hold.mk (fun w => allBlades_any ao cap d w HP.out.2)
        have HBt : Hold (∀ W, Mod noB w W → Calls Tryd.prog 50 #[mtV ao d.bl.length cap d oo oc r, .int .i64 (allS d)] W fun e w' => e = .returned (mtV ao d.bl.length cap d oo oc (bentR r (allS d))) ∧ Mod noB W w') :=
          ⟨fun W h => bent_any ao d.bl.length cap d oo oc r (allS d) W HP.out.1 (HMn.out.mod h).tab⟩
        have hrun2 : RunB 10000 (bentR r (allS d)) := (HI.out.1.bent (by omega) (allS d)).mono (by omega)
        have HR2 := Hold.mk (fun W => run_any ao cap d oo oc (bentR r (allS d)) s W HP.out.2 hrun2 HS.out.2)
        have HV2 := Hold.mk (And.intro (@mtC_info ao d.bl.length cap d oo oc (bentR r (allS d))) (@mtC_size ao d.bl.length cap d oo oc (bentR r (allS d)) r))
        have HV3 := Hold.mk (And.intro (@mtC_info ao d.bl.length cap d oo oc (runR d (bentR r (allS d)) s)) (@mtC_size ao d.bl.length cap d oo oc (runR d (bentR r (allS d)) s) r))
        have hal : acc.length ≤ 10 := (by have := HI.out.2.1; omega)
        clear HC ho hrun2
        obtain ⟨s1, s2⟩ := s
        go_wp2_with (first
          | (go_at_call 51; (try rw [hW4]); refine (HC'.out _ HK.out.now.2).mono ?_; rintro e w5 ⟨rfl, hM⟩; clear c0 c1 c2 c3 c4 c5 c6 c7 c8 c9 d0 d1; have hS5 : RwS w wr.heap.size (mtC ao d.bl.length cap d oo oc r) (spC (s1, s2)) u4 acc.length (rowCells acc) u5 acc.length (rowInts acc) w5 := (by
               have hh := (HK.out.later hM).now
               have hm := hh.2
               exact ⟨hh.1.1, hh.1.2, own_same HI.out.2.2.1 (fun r hr => by obtain ⟨_, cur, hc⟩ := own_block HI.out.2.2.1 hr; exact hm.block r (at_ltS hc) id), own_same HI.out.2.2.2.1 (fun r hr => by obtain ⟨_, cur, hc⟩ := own_block HI.out.2.2.2.1 hr; exact hm.block r (at_ltS hc) id), HI.out.2.2.2.2.2.1.trans hm⟩)
             have HS5 := Hold.mk hS5; clear hS5 hM)
          | (at_builtin; refine wpList_append_own_at _ rfl (.tmp 25) (.tmp 29) 37 rfl (w.heap.size + 1) 28 i0 (.agg #[.int .i64 0, .int .i64 0]) 2 16 Tryd.underlying37 hi hz0 hz1 hz2 rfl (by decide) u4 acc.length (rowCells acc) rfl ((HS5.out.later ((Mod.refl noB w5).alloc (.cells #[.int .i64 f, .int .i64 k] 28))).r) ⟨w5.heap.size, 0, none⟩ 1 1 [.int .i64 f, .int .i64 k] rfl rfl (two_cells w5 f k 28) (by intro u hu; simp only [List.mem_cons, List.not_mem_nil, or_false] at hu; rcases hu with rfl | rfl <;> rfl) (by unfold maxLen; omega) (by omega) (by have := at_ltS HS5.out.a; simp; omega) ?_
             intro v6 w6 hown hgr _ _
             have HS6 := Hold.mk ((HS5.out.later ((Mod.refl noB w5).alloc (.cells #[.int .i64 f, .int .i64 k] 28))).appR hown hgr)
             clear hown hgr)
          | (at_builtin; refine wpList_append_own_at _ rfl (.tmp 31) (.tmp 33) 34 rfl (w.heap.size + 1) 3 j0 (.int .i64 0) 1 8 Tryd.underlying34 hj hy0 hy1 hy2 rfl (by decide) u5 acc.length (rowInts acc) rfl ((HS6.out.later ((Mod.refl noB w6).alloc (.cells #[.int .i64 b] 3))).b) ⟨w6.heap.size, 0, none⟩ 1 1 [.int .i64 b] rfl rfl (one_cell w6 b) (by intro u hu; simp only [List.mem_cons, List.not_mem_nil, or_false] at hu; subst hu; rfl) (by unfold maxLen; omega) (by omega) (by have := at_ltS HS6.out.a; simp; omega) ?_
             intro v7 w7 hown hgr _ _
             have HS7 := Hold.mk ((HS6.out.later ((Mod.refl noB w6).alloc (.cells #[.int .i64 b] 3))).appB hown hgr)
             clear hown hgr))
        have FIN : Hold (∀ W', Mod noB w7 W' → RwS w wr.heap.size (mtC ao d.bl.length cap d oo oc r) (spC (s1, s2)) v6 (acc.length + 1) (rowCells acc ++ [.int .i64 f, .int .i64 k]) v7 (acc.length + 1) (rowInts acc ++ [.int .i64 b]) W') := ⟨fun W' h => HS7.out.later h⟩
        refine region_tailP 5 ⟨by decide, by kernel_rfl, by kernel_rfl, by kernel_rfl, by kernel_rfl, by kernel_rfl⟩ (by kernel_rfl) (fun W' => Mod noB w7 W') ((Mod.refl _ _).drew) ?_
        simp only [strikeL, List.take_succ_cons, List.take_zero, List.drop_succ_cons, List.drop_zero, List.map_cons, List.map_nil, List.cons_append, List.nil_append, bareO]
        repeat
          (first
            | go_big_quiet_skip
            | (go_big_quiet_want
               go_simp
               first
                 | go_big_quiet_on
                 | (apply Exists.intro
                    refine ⟨fun W' hC => ?_, ?_⟩
                    · have gs := FIN.out W' hC
                      have gm := gs.m
                      obtain ⟨c0, c1, c2, c3, c4, c5, c6, c7, c8, c9⟩ := mt_cells gs.a
                      first
                        | (go_at_call 69; (with_reducible refine (HA.out _).mono ?_); exact fun e w'' he => ⟨he.1, hC.trans he.2⟩)
                        | (go_at_call 50; (with_reducible refine (HBt.out _ gm).mono ?_); exact fun e w'' he => ⟨he.1, hC.trans he.2⟩)
                        | with_reducible rfl
                        | (clear gs gm; go_simp; first | rfl | exact ⟨rfl, rfl⟩)
                    go_big_quiet_on)
                 | (refine ⟨⟨_, fun _ _ => rfl⟩, ?_⟩; go_big_quiet_on)))
        refine wpQuiet_nil ?_
        intro Wq hq
        have HSq := Hold.mk (FIN.out Wq hq)
        clear hq
        refine wpListIn_storeRow rfl 87 (.tmp 2) (.tmp 39) rfl w.heap.size rfl (mtC ao d.bl.length cap d oo oc (bentR r (allS d))) rfl 87 _ HSq.out.a HV2.out.1.1 HV2.out.2 HV2.out.1.2.2 ?_
        refine wpListIn_nil ?_
        have HS8 := Hold.mk (HSq.out.put (mtC ao d.bl.length cap d oo oc (bentR r (allS d))))
        generalize Wq.putObj w.heap.size (.cells (mtC ao d.bl.length cap d oo oc (bentR r (allS d))) 87) = w8 at *
        obtain ⟨c0, c1, c2, c3, c4, c5, c6, c7, c8, c9⟩ := mt_cells HS8.out.a
        obtain ⟨d0, d1⟩ := sp_cells HS8.out.s
        go_wp2_with (first
          | (go_at_call 52; refine (HR2.out _).mono ?_; rintro e w9 ⟨rfl, hM⟩; have HS9 := Hold.mk (HS8.out.later hM); clear hM c0 c1 c2 c3 c4 c5 c6 c7 c8 c9 d0 d1)
          | (refine wpList_store_row rfl 87 (.tmp 2) (.tmp 43) rfl w.heap.size (mtC ao d.bl.length cap d oo oc (runR d (bentR r (allS d)) (s1, s2))) rfl rfl 87 _ HS9.out.a HV3.out.1.1 rfl HV3.out.1.2.2 ?_; rw [setRow_put HS9.out.a]))
        have HS10 := Hold.mk (HS9.out.put (mtC ao d.bl.length cap d oo oc (runR d (bentR r (allS d)) (s1, s2))))
        go_roundw
        case rel => exact ⟨k + 1, k, by omega, by go_num, rfl, by omega, RwI.stop HI.out.1 HI.out.2.1 HI.out.2.2.2.2.1 (by have := at_ltS HS10.out.a; omega) HS.out.1 HS.out.2 HO.out HS10.out⟩
        case measure => simp [intOf]; omega
    · obtain rfl : k = l.length := by omega
      obtain ⟨⟨r, acc, i1, i2, i3, i4, i5, i6⟩, im, il⟩ := hI
      have he : rowsR d 0 0 zeroR l = acc := by rw [i6, List.drop_length, rowsR, List.append_nil]
      obtain ⟨ao1, cap1, rfl⟩ := own_form i4
      obtain ⟨ao2, cap2, rfl⟩ := own_form i5
      have HO : Hold (RowsOut d l w (.returned (.tuple #[.slice ao1 acc.length cap1, .slice ao2 acc.length cap2])) wr) := ⟨_, _, rfl, by rw [he]; exact own_mono i4 (by omega), by rw [he]; exact own_mono i5 (by omega), im⟩
      clear i1 i2 i3 i4 i5 i6 im il he
      go_wp2
      go_ret2
      exact HO.out
end Go.Proofs.YtdncppempgpooaaDoor

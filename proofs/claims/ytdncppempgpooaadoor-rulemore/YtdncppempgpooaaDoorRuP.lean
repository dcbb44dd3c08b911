/- mount: a die on the press. -/
import Derived.Test.YtdncppempgpooaaDoorRuO
set_option linter.unusedSimpArgs false
set_option linter.unusedVariables false
namespace Go.Proofs.YtdncppempgpooaaDoor
open Go.RowKit Go.Shelf

def offL (ps : List (Nat × Nat × Nat × Nat)) : List Value := ps.flatMap fun p => (offC p).toList
theorem offL_len (ps : List (Nat × Nat × Nat × Nat)) : (offL ps).length = ps.length * 2 := by
  induction ps with
  | nil => rfl
  | cons p ps ih => simp only [offL, List.flatMap_cons, List.length_append] at ih ⊢; rw [ih]; simp; omega
theorem offL_at : ∀ (ps : List (Nat × Nat × Nat × Nat)) (k : Nat) (p : Nat × Nat × Nat × Nat) (j : Nat), ps[k]? = some p → j < 2 → (offL ps)[k * 2 + j]? = (offC p)[j]? := by
  intro ps
  induction ps with
  | nil => intro k p j h; simp at h
  | cons q ps ih =>
    intro k p j h hj
    cases k with
    | zero =>
      obtain rfl : q = p := by simpa using h
      simp only [offL, List.flatMap_cons, Nat.zero_mul, Nat.zero_add]
      rw [List.getElem?_append_left (by simp; omega), ← Array.getElem?_toList]
    | succ k =>
      have := ih k p j (by simpa using h) hj
      rw [← this]
      simp only [offL, List.flatMap_cons]
      rw [List.getElem?_append_right (by simp; omega)]
      congr 1
      simp; omega

/-- Between two rounds of mount. -/
structure MtI (ao : Option Addr) (n cap : Nat) (d : Dye) (mb : Nat) (w : World) (k : Nat) (wr : World) : Prop where
  ex : ∃ v ps, wr.heap[mb]? = some (.cells (mtD ao n cap d v) 87) ∧ wr.ownsRow (mb + 1) 78 2 v k (offL ps) ∧ ps.length = k ∧ ∀ (j : Nat) (p : Nat × Nat × Nat × Nat) (b : Bld), ps[j]? = some p → d.bl[j]? = some b → OffIs wr.heap.size wr p b
  r : wr.heap[w.heap.size + 1]? = some (.cells zeroM 87)
  m : Mod noB w wr
  lt : mb + 1 ≤ wr.heap.size ∧ w.heap.size + 1 < mb

theorem MtI.step {ao : Option Addr} {n cap : Nat} {d : Dye} {mb : Nat} {w : World} {k : Nat} {W W' : World} {v v' : Value} {ps : List (Nat × Nat × Nat × Nat)} {b : Bld}
    (hm : W.heap[mb]? = some (.cells (mtD ao n cap d v) 87)) (ho : W.ownsRow (mb + 1) 78 2 v k (offL ps)) (hl : ps.length = k) (hp : ∀ (j : Nat) (p : Nat × Nat × Nat × Nat) (b : Bld), ps[j]? = some p → d.bl[j]? = some b → OffIs W.heap.size W p b)
    (hr : W.heap[w.heap.size + 1]? = some (.cells zeroM 87)) (hM : Mod noB w W) (hlt : w.heap.size + 1 < mb) (hmb : mb + 1 ≤ W.heap.size) (hb : d.bl[k]? = some b) (hR : MRes ao n cap d (mb + 1) k v (offL ps) b mb W W' v') : MtI ao n cap d mb w (k + 1) W' := by
  obtain ⟨p, h1, h2, h3, h4⟩ := hR
  have hrow : ∀ r, v.ownBlock = some r → mb + 1 ≤ r ∧ ∃ cur, W.heap[r]? = some (.cells cur 78) := fun r h => own2_block ho h
  have hsame : ∀ (j : Nat) (cs : Array Value), W.heap[j]? = some (Obj.cells cs 3) → W'.heap[j]? = W.heap[j]? := fun j cs hj => h4.block j (at_ltS hj) (by
    rintro (h | rfl)
    · obtain ⟨_, cur, hc⟩ := hrow j h
      rw [hc] at hj; cases hj
    · rw [hm] at hj; cases hj)
  refine ⟨⟨v', ps ++ [p], h3, ?_, by simp [hl], ?_⟩, ?_, ?_, by have := h4.size; omega, hlt⟩
  · have e : offL (ps ++ [p]) = offL ps ++ (offC p).toList := by simp [offL]
    rw [e]; exact h2
  · intro j q c hq hc
    by_cases hj : j < ps.length
    · rw [List.getElem?_append_left hj] at hq
      exact off_mod (hp j q c hq hc) hsame h4.size
    · have hjk : j = ps.length := by
        have := (List.getElem?_eq_some_iff.1 hq).1
        simp at this; omega
      subst hjk
      rw [List.getElem?_append_right (by omega), Nat.sub_self] at hq
      obtain rfl : p = q := by simpa using hq
      rw [hl, hb] at hc
      cases hc
      exact h1
  · refine h4.at hr ?_
    rintro (h | h)
    · have := (hrow _ h).1; omega
    · omega
  · refine hM.then h4 (fun i h1 h2 => ?_)
    rcases h2 with h | h
    · have := (hrow _ h).1; omega
    · omega

theorem MtI.offs {ao : Option Addr} {n cap : Nat} {d : Dye} {mb : Nat} {w : World} {wr : World} (h : MtI ao n cap d mb w d.bl.length wr) (h1 : 1 ≤ d.bl.length) (h5 : d.bl.length ≤ 5) :
    ∃ oo oc, wr.heap[mb]? = some (.cells (mtD ao n cap d (.slice oo d.bl.length oc)) 87) ∧ ∀ W', Mod (fun j => j = w.heap.size + 1) wr W' → OffsAt W'.heap.size W' oo d.bl := by
  have hr := h.r
  obtain ⟨v, ps, hm, ho, hl, hp⟩ := h.ex
  obtain ⟨_, ⟨_, h0⟩ | ⟨g, cp, cur, rfl, hb, hg, hc1, hc2, hc3, hc4⟩⟩ := ho
  · omega
  · refine ⟨_, _, hm, fun W' hM => ⟨ps, hl, ⟨fun _ => ⟨g, 0, rfl, Nat.lt_of_lt_of_le (at_ltS hg) hM.size, fun k x hx j hj => ?_⟩, by omega⟩, fun k p b h1 h2 => off_mod (hp k p b h1 h2) (fun j cs hj => hM.block j (at_ltS hj) (fun e => by
      rw [e, hr] at hj; cases hj)) hM.size⟩⟩
    have hk : k < ps.length := (List.getElem?_eq_some_iff.1 hx).1
    have hg' := hM.at hg (fun e => by rw [e, hr] at hg; cases hg)
    rw [Nat.zero_add, cellsAt hg', ← offL_at ps k x j hx hj, ← hc4, List.getElem?_take_of_lt (by omega), Array.getElem?_toList]

/-- What mount returns for a die and stints that are not valid. -/
def mountBad (d : Dye) (l : List (Int × Int)) : Int := if dieB d = false then 1 else 2

theorem results_mount {tmps : Array Value} {w : World} {g : Nat} {cs : Array Value} {v : Value} (hp : tmps.getD 4 undef = .pointer (some ⟨g, 0, none⟩)) (hv : tmps.getD 5 undef = v) (hg : w.heap[g]? = some (.cells cs 87)) (hi : (Tryd.prog.info? 87).map (·.size) = some cs.size) :
    (results Tryd.f47 tmps).run Tryd.prog w = .ok (.tuple #[.agg cs, v]) w := by
  have hp' : tmps[4]?.getD undef = .pointer (some ⟨g, 0, none⟩) := by simpa using hp
  have hv' : tmps[5]?.getD undef = v := by simpa using hv
  simp [results, Tryd.results47, hp', hv', asAddr, run_loadVar_row w g 87 87 cs (0, 0) _ hg Tryd.underlying87 rfl hi, Result.andThen, Sem.run_bind, Sem.run_pure]

set_option maxRecDepth 100000 in
set_option maxHeartbeats 4000000 in
theorem mount_bad (B : Nat) (ao : Option Addr) (cap : Nat) (d : Dye) (lo : Option Addr) (lcap : Nat) (l : List (Int × Int)) (w : World) (hB : B ≤ w.heap.size) (hs : BladesAt B w ao d.bl) (hl : StintsAt B w lo l) (h0 : (dieB d && stintsB l) = false) :
    Calls Tryd.prog 47 #[dyV ao d.bl.length cap d, .slice lo l.length lcap] w fun e w' => e = .returned (.tuple #[.agg zeroM, .int .i64 (mountBad d l)]) ∧ Mod noB w w' := by
  have hsm := hs.small
  have hlm := hl.small
  have HF := Hold.mk (fun (W' : World) (h : Mod noB ((w.alloc (.cells (dyC ao d.bl.length cap d) 24)).alloc (.cells zeroM 87)) W') => And.intro (at_allocL [.cells (dyC ao d.bl.length cap d) 24, .cells zeroM 87] h 0 _ rfl) (And.intro (at_allocL [.cells (dyC ao d.bl.length cap d) 24, .cells zeroM 87] h 1 _ rfl) ((allocL_mod noB [.cells (dyC ao d.bl.length cap d) 24, .cells zeroM 87] w).trans h)))
  cases h1 : dieB d with
  | false =>
    have H1 : Hold (∀ w1, Mod noB w w1 → Calls Tryd.prog 39 #[dyV ao d.bl.length cap d] w1 fun r w' => r = .returned (.bool false) ∧ Mod noB w1 w') := ⟨fun w1 h => by rw [← h1]; exact isDie_any B ao cap d w1 (Nat.le_trans hB h.size) (hs.low (Low.ofN h hB))⟩
    have he : Hold (mountBad d l = 1) := ⟨by simp [mountBad, h1]⟩
    have HM := Hold.mk (allocL_mod noB [.cells (dyC ao d.bl.length cap d) 24, .cells zeroM 87] w)
    clear h1 h0 hs hl hB
    go_enter Tryd.func47, Tryd.ntmps47
    go_wp2_with (first
      | (go_at_call 39; refine (H1.out _ HM.out).mono ?_; rintro e w1 ⟨rfl, hM⟩; have HG := Hold.mk (HF.out _ hM); clear hM)
      | (refine wpList_store_row rfl 87 (.tmp 4) (.tmp 12) rfl (w.heap.size + 1) zeroM rfl rfl 87 _ HG.out.2.1 (by kernel_rfl) rfl (by simp [Value.oneCell']) ?_; rw [setRow_put HG.out.2.1]))
    exact bodyPost_ret (results_mount rfl rfl (World.putObj_heap_same (at_ltS HG.out.2.1)) (by kernel_rfl)) rfl ⟨by rw [he.out]; rfl, HG.out.2.2.putObj (fun h => by omega) _⟩
  | true =>
    have H1 : Hold (∀ w1, Mod noB w w1 → Calls Tryd.prog 39 #[dyV ao d.bl.length cap d] w1 fun r w' => r = .returned (.bool true) ∧ Mod noB w1 w') := ⟨fun w1 h => by rw [← h1]; exact isDie_any B ao cap d w1 (Nat.le_trans hB h.size) (hs.low (Low.ofN h hB))⟩
    have H2 : Hold (∀ w1, Mod noB w w1 → Calls Tryd.prog 67 #[.slice lo l.length lcap] w1 fun r w' => r = .returned (.bool false) ∧ Mod noB w1 w') := ⟨fun w1 h => by
      have : stintsB l = false := by rw [h1, Bool.true_and] at h0; exact h0
      rw [← this]; exact areStints_any B lo lcap l w1 (Nat.le_trans hB h.size) (hl.low (Low.ofN h hB))⟩
    have he : Hold (mountBad d l = 2) := ⟨by simp [mountBad, h1]⟩
    have HM := Hold.mk (allocL_mod noB [.cells (dyC ao d.bl.length cap d) 24, .cells zeroM 87] w)
    clear h1 h0 hs hl hB
    go_enter Tryd.func47, Tryd.ntmps47
    go_wp2_with (first
      | (go_at_call 39; refine (H1.out _ HM.out).mono ?_; rintro e w1 ⟨rfl, hM⟩; have HG := Hold.mk hM; have HM1 := Hold.mk (HF.out _ hM).2.2; clear hM)
      | (go_at_call 67; refine (H2.out _ HM1.out).mono ?_; rintro e w1 ⟨rfl, hM⟩; have HG := Hold.mk (HF.out _ (HG.out.trans hM)); clear hM)
      | (refine wpList_store_row rfl 87 (.tmp 4) (.tmp 16) rfl (w.heap.size + 1) zeroM rfl rfl 87 _ HG.out.2.1 (by kernel_rfl) rfl (by simp [Value.oneCell']) ?_; rw [setRow_put HG.out.2.1]))
    exact bodyPost_ret (results_mount rfl rfl (World.putObj_heap_same (at_ltS HG.out.2.1)) (by kernel_rfl)) rfl ⟨by rw [he.out]; rfl, HG.out.2.2.putObj (fun h => by omega) _⟩
end Go.Proofs.YtdncppempgpooaaDoor

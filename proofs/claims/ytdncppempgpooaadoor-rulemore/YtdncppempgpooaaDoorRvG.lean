/- cheapest. -/
import Derived.Test.YtdncppempgpooaaDoorRvF
set_option linter.unusedSimpArgs false
set_option linter.unusedVariables false
namespace Go.Proofs.YtdncppempgpooaaDoor
open Go.RowKit Go.Shelf Go.Maps Go.WideMaps

def startR (d : Dye) (l : List (Int × Int)) : Int × List Nat := match l with | [] => (0, []) | s :: ss => bestR d ss (runR d zeroR s)
theorem planE_start {d : Dye} {l : List (Int × Int)} (h1 : dieB d = true) (h2 : stintsB l = true) (h3 : bearsB d l = true) : planE d l = ((startR d l).2.map Int.ofNat, (startR d l).1, 0) := by
  unfold planE startR
  rw [if_neg (by simp [h1]), if_neg (by simp [h2]), if_neg (by simp [h3])]
  cases l <;> rfl

theorem mk_start {ao : Option Addr} {cap : Nat} {d : Dye} {oo : Option Addr} {oc : Nat} {l : List (Int × Int)} {lo : Option Addr} {lcap n : Nat} {w : World} (hn : l.length = n) :
    MkI ao cap d oo oc l lo lcap w 0 (((((w.alloc (.cells (mtC ao d.bl.length cap d oo oc zeroR) 87)).alloc (.cells #[.slice lo n lcap] 33)).alloc (.cells #[.int .i64 0, .slice none 0 0] 97)).alloc (.cells (madeCells #[.map none] n) 115)).alloc (.cells #[.slice (some ⟨w.heap.size + 1 + 1 + 1, 0, none⟩) n n] 114)) := by
  subst hn
  have hL := allocL_at [.cells (mtC ao d.bl.length cap d oo oc zeroR) 87, .cells #[.slice lo l.length lcap] 33, .cells #[.int .i64 0, .slice none 0 0] 97, .cells (madeCells #[.map none] l.length) 115, .cells #[.slice (some ⟨w.heap.size + 1 + 1 + 1, 0, none⟩) l.length l.length] 114] w
  refine ⟨hL 0 _ rfl, hL 1 _ rfl, hL 2 _ rfl, ?_, hL 4 _ rfl, fun j hj => absurd hj (Nat.not_lt_zero _), (((((Mod.refl _ _).alloc _).alloc _).alloc _).alloc _).alloc _, by simp⟩
  rw [← mapsV_zero]
  exact hL 3 _ rfl

set_option maxRecDepth 100000 in
set_option maxHeartbeats 8000000 in
theorem cheapest_any (B : Nat) (ao : Option Addr) (cap : Nat) (d : Dye) (oo : Option Addr) (oc : Nat) (lo : Option Addr) (lcap : Nat) (l : List (Int × Int)) (w : World) (hM : Mnt B w oo d) (hl : StintsAt B w lo l) (hs : stintsB l = true) (hb : bearsB d l = true) :
    Calls Tryd.prog 56 #[mtV ao d.bl.length cap d oo oc zeroR, .slice lo l.length lcap] w fun e w' => ∃ x : Crs, e = .returned (crV x) ∧ CrV (startR d l) (crV x) w' ∧ Mod noB w w' := by
  obtain ⟨⟨hn1, hn5⟩, _⟩ := dieB_parts hM.die
  obtain ⟨hl7, hstl⟩ : l.length ≤ 7 ∧ ∀ s ∈ l, stintB s = true := by
    have hs' := hs
    simp only [stintsB, Bool.and_eq_true, List.all_eq_true, decide_eq_true_eq] at hs'
    exact ⟨by omega, hs'.2⟩
  have HM := Hold.mk (And.intro hM (And.intro hl (And.intro hs hb)))
  cases l with
  | nil =>
    clear hM hl hs hb hstl
    go_enter Tryd.func56, Tryd.ntmps56
    go_wp2_with fail
    have hL := allocL_at [.cells (mtC ao d.bl.length cap d oo oc zeroR) 87, .cells #[.slice lo 0 lcap] 33, .cells #[.int .i64 0, .slice none 0 0] 97] w
    exact bodyPost_ret (results_cell_row (fn := Tryd.f56) rfl _ _ (w.heap.size + 1 + 1) 97 _ (0, 0) _ rfl (hL 2 _ rfl) Tryd.underlying97 rfl info97) rfl
      ⟨(0, none, 0, 0), rfl, ⟨none, 0, rfl, ⟨fun h => absurd rfl h, by simp [startR]⟩, fun b off x e => (by cases e), fun _ => rfl⟩, (((Mod.refl _ _).alloc _).alloc _).alloc _⟩
  | cons s ss =>
    have hst := hstl s (by simp)
    obtain ⟨n, hn⟩ : ∃ n, (s :: ss).length = n := ⟨_, rfl⟩
    have hn0 : 0 < n := by rw [← hn]; simp
    have hn7 : n ≤ 7 := by omega
    have hne : ((n : Int) == 0) = false := by simp; omega
    have hmk := fun w => run_make_row' (P := Tryd.prog) 114 115 (.map none) 8 Tryd.underlying114 info115 rfl .i64 .i64 n (by omega) (by omega) w
    have hmm := @run_makeMap Tryd.prog
    have HST := Hold.mk hst
    have HN := Hold.mk hn
    clear hM hl hs hb hstl hst
    rw [hn]
    clear hn
    go_enter Tryd.func56, Tryd.ntmps56
    go_wp2_with fail
    have HI : Hold (MkI ao cap d oo oc (s :: ss) lo lcap w 0 (((((w.alloc (.cells (mtC ao d.bl.length cap d oo oc zeroR) 87)).alloc (.cells #[.slice lo n lcap] 33)).alloc (.cells #[.int .i64 0, .slice none 0 0] 97)).alloc (.cells (madeCells #[.map none] n) 115)).alloc (.cells #[.slice (some ⟨w.heap.size + 1 + 1 + 1, 0, none⟩) n n] 114))) := ⟨mk_start HN.out⟩
    clear hmk
    go_loopg [17] n (fun g s17 wr => ∃ k : Nat, k + g = n ∧ s17 = .int .i64 k ∧ MkI ao cap d oo oc (s :: ss) lo lcap w k wr)
    case atStart => exact ⟨0, by omega, rfl, HI.out⟩
    case round =>
      obtain ⟨k, hkg, rfl, hI⟩ := hrel
      have HK := Hold.mk hI
      cases gk with
      | zero =>
        have hkz : ¬ ((k : Int) < (n : Int)) := by omega
        clear hI
        go_wp2_with fail
        obtain rfl : k = n := by omega
        have hI := HK.out
        obtain ⟨hM, hl, hs, hb⟩ := HM.out
        have hsz := hI.sz
        obtain ⟨W9, hW9⟩ : ∃ W9, wr.alloc (.cells #[.func (.func 73) #[] #[.pointer (some ⟨w.heap.size + 1, 0, none⟩), .pointer (some ⟨w.heap.size + 1 + 1 + 1 + 1, 0, none⟩), .pointer (some ⟨wr.heap.size, 0, none⟩)]] 116) = W9 := ⟨_, rfl⟩
        rw [hW9]
        have hm9 : Mod noB wr W9 := by rw [← hW9]; exact (Mod.refl _ _).alloc _
        have hf9 : W9.heap[wr.heap.size]? = some (.cells #[.func (.func 73) #[] #[.pointer (some ⟨w.heap.size + 1, 0, none⟩), .pointer (some ⟨w.heap.size + 1 + 1 + 1 + 1, 0, none⟩), .pointer (some ⟨wr.heap.size, 0, none⟩)]] 116) := by rw [← hW9]; exact World.alloc_heap_new _ _
        have hm := hI.m.trans hm9
        have hMe : Memo B d (s :: ss) lo lcap (w.heap.size + 1) (w.heap.size + 1 + 1 + 1 + 1) wr.heap.size (w.heap.size + 1 + 1 + 1) (w.heap.size + 5) W9 := ⟨hm9.at hI.ls id, hm9.at hI.b id, hf9, ⟨_, hm9.at hI.g id, fun i hi => by rw [mapsV_at hi, if_pos (by rw [← HN.out]; exact hi)]⟩, fun i hi => .empty (hm9.at (hI.mp i (by rw [← HN.out]; exact hi)) id), by have := hM.le; omega⟩
        have hM9 := hM.mod hm
        have hl9 := hl.low (Low.ofN hm hM.le)
        obtain ⟨sb, off, rfl, hsb, q0, q1⟩ := hl9.stint (k := 0) (x := s) rfl
        simp only [Nat.zero_mul, Nat.add_zero] at q0 q1
        have hz9 := hm9.at hI.z id
        have ha9 := hm9.at hI.a id
        have hn := HN.out
        have hs1 : 0 ≤ s.1 ∧ s.1 ≤ 1000 := by
          have := HST.out
          simp only [stintB, fromB, Bool.and_eq_true, decide_eq_true_eq] at this
          omega
        have hr1 : RunB (1000 * (1 : Nat)) (runR d zeroR s) := (runB_zero.run d hs1).mono (by omega)
        have hb1 : W9.cell? ⟨w.heap.size + 1, 0, none⟩ = some (.slice (some ⟨sb, off, none⟩) k lcap) := by rw [← hn]; exact cellsAt hMe.hl 0
        apply region_from (tb := 0) (sb := sb) (off := off) (n := k) (cap := lcap) (m2 := w.heap.size) (lb := w.heap.size + 1) (bb := w.heap.size + 1 + 1 + 1 + 1) (fb := wr.heap.size) (zb := w.heap.size + 1 + 1) (ao := ao) (acap := cap) (d := d) (oo := oo) (oc := oc) (r := zeroR) (s := s) (hfb := cellsAt hMe.hf 0) (hlb := hb1) (hs0 := q0) (hs1 := q1) (hm2 := ha9) (hr := runB_zero.mono (by omega)) (hst := HST.out) (hn5 := hn5) (hn := hn0) (hz := hz9)
          (T := InT (w.heap.size + 5) (s :: ss).length) (R := fun v W => CrV (startR d (s :: ss)) v W) (hT := fun h => by have := h.1; omega)
        · rfl
        · rfl
        · rfl
        · rfl
        · rfl
        · intro w1 hm1
          refine (from_any B ao cap d oo oc (s :: ss) (some ⟨sb, off, none⟩) lcap (w.heap.size + 1) (w.heap.size + 1 + 1 + 1 + 1) wr.heap.size (w.heap.size + 1 + 1 + 1) (w.heap.size + 5) hs hb ss.length 1 (by simp; omega) (runR d zeroR s) w1 (zer_zero.run hn5 s) hr1 (hM9.mod hm1) (hl9.low (Low.ofN hm1 hM9.le)) (hMe.mod hm1)).mono ?_
          rintro e w2 ⟨x, rfl, hC, _, hmod⟩
          exact ⟨x, rfl, hC, hmod⟩
        · intro vs w1 x hR hmod
          have hzz := hmod.at hz9 (fun h => by have := h.1; omega)
          have hm10 : Mod (fun q => q = w.heap.size + 1 + 1) w1 (w1.putObj (w.heap.size + 1 + 1) (.cells (crC x) 97)) := (Mod.refl (fun q => q = w.heap.size + 1 + 1) w1).putObj (fun _ => rfl) _
          have hb10 : (w1.putObj (w.heap.size + 1 + 1) (.cells (crC x) 97)).heap[w.heap.size + 1 + 1]? = some (.cells (crC x) 97) := World.putObj_heap_same (at_ltS hzz)
          have hC10 := hR.modT hm10 (fun q hq cs hc => by rw [hq, hzz] at hc; cases hc)
          have hmF : Mod noB w (w1.putObj (w.heap.size + 1 + 1) (.cells (crC x) 97)) := ((hm.then hmod (fun i h1 h2 => by have := h2.1; omega)).then hm10 (fun i h1 h2 => by omega))
          simp only [List.foldl_cons, List.foldl_nil, Act.put, List.setIfInBounds_toArray, List.set_cons_succ, List.set_cons_zero]
          have HF := Hold.mk (And.intro hb10 (And.intro hC10 hmF))
          clear hb10 hC10 hmF hm10 hzz hR hmod
          go_wp2_with fail
          exact bodyPost_ret (results_cell_row (fn := Tryd.f56) rfl _ _ (w.heap.size + 1 + 1) 97 _ (0, 0) _ rfl HF.out.1 Tryd.underlying97 rfl info97) rfl ⟨x, rfl, HF.out.2.1, HF.out.2.2⟩
      | succ g =>
        have hkz : (k : Int) < (n : Int) := by omega
        have hk0 : (0 : Int) ≤ (k : Int) := by omega
        have hlt := at_ltS hI.b
        have hlt2 := at_ltS hI.g
        have e0 : (wr.alloc (.map #[] 0)).cell? ⟨w.heap.size + 1 + 1 + 1, k, none⟩ = some (.map none) := by
          rw [cell_same (Below.heap_alloc wr _ _ hlt2), cellsAt hI.g, mapsV_at (by rw [HN.out]; omega), if_neg (Nat.lt_irrefl _)]
        have f0 : (wr.alloc (.map #[] 0)).frozen? ⟨w.heap.size + 1 + 1 + 1, k, none⟩ = false := cells_frozen ((Below.heap_alloc wr _ _ hlt2).trans hI.g) k
        have b0 := cellsAt hI.b 0
        have b1 : wr.cell? ⟨w.heap.size + 1 + 1 + 1 + 1, 0, none⟩ = some (.slice (some ⟨w.heap.size + 1 + 1 + 1, 0, none⟩) n n) := by rw [b0, ← HN.out]; rfl
        have hst := hI.step (by rw [HN.out]; omega)
        have HS2 := Hold.mk hst
        clear hI hst b0
        go_wp2_with fail
        go_roundg g
        case measure => omega
        case rel => exact ⟨k + 1, by omega, by go_num, HS2.out⟩
end Go.Proofs.YtdncppempgpooaaDoor

/- A die on the press: run. -/
import Derived.Test.YtdncppempgpooaaDoorRuL
set_option linter.unusedSimpArgs false
set_option linter.unusedVariables false
namespace Go.Proofs.YtdncppempgpooaaDoor
open Go.RowKit Go.Shelf

/-- How far blades have run when the first of them have been told. -/
def runTo (r : Nat → Int) (s1 : Int) (k : Nat) : Nat → Int := fun j => if j < k then r j + s1 else r j
theorem runTo_step (r : Nat → Int) (s1 : Int) (k : Nat) : (fun j => if j = k then r k + s1 else runTo r s1 k j) = runTo r s1 (k + 1) := by
  funext j
  unfold runTo
  by_cases e : j = k
  · subst e; simp
  · by_cases h : j < k
    · have : j < k + 1 := by omega
      simp [e, h, this]
    · have : ¬ j < k + 1 := by omega
      simp [e, h, this]

/-- Between two rounds of run. -/
structure RunI (ao : Option Addr) (n cap : Nat) (d : Dye) (oo : Option Addr) (oc : Nat) (r : Nat → Int) (s : Int × Int) (w : World) (k : Nat) (wr : World) : Prop where
  a : wr.heap[w.heap.size]? = some (.cells (mtC ao n cap d oo oc (runTo r s.1 k)) 87)
  b : wr.heap[w.heap.size + 1]? = some (.cells (spC s) 58)
  c : wr.heap[w.heap.size + 1 + 1]? = some (.cells zeroM 87)
  m : Mod noB w wr

set_option maxRecDepth 100000 in
set_option maxHeartbeats 2000000 in
theorem run_any (ao : Option Addr) (cap : Nat) (d : Dye) (oo : Option Addr) (oc : Nat) (r : Nat → Int) (s : Int × Int) (w : World) (hn5 : d.bl.length ≤ 5) (hr : RunB 10000 r) (hs : stintB s = true) :
    Calls Tryd.prog 52 #[mtV ao d.bl.length cap d oo oc r, spV s] w fun e w' => e = .returned (mtV ao d.bl.length cap d oo oc (runR d r s)) ∧ Mod noB w w' := by
  obtain ⟨s1, s2⟩ := s
  have hsb : 1 ≤ s1 ∧ s1 ≤ 1000 := by
    have : (1 ≤ s1 ∧ s1 ≤ 1000) ∧ 0 ≤ s2 ∧ s2 ≤ 100000 := by simpa [stintB, fromB, Bool.and_eq_true] using hs
    exact this.1
  have HI : Hold (RunI ao d.bl.length cap d oo oc r (s1, s2) w 0 (((w.alloc (.cells (mtC ao d.bl.length cap d oo oc r) 87)).alloc (.cells (spC (s1, s2)) 58)).alloc (.cells zeroM 87))) := ⟨by
    have hL := allocL_at [.cells (mtC ao d.bl.length cap d oo oc r) 87, .cells (spC (s1, s2)) 58, .cells zeroM 87] w
    exact ⟨hL 0 _ rfl, hL 1 _ rfl, hL 2 _ rfl, ((((Mod.refl _ _).alloc _).alloc _).alloc _)⟩⟩
  have HR := Hold.mk hr
  have HE : Hold (runTo r s1 d.bl.length = runR d r (s1, s2)) := ⟨rfl⟩
  clear hs hr
  go_enter Tryd.func52, Tryd.ntmps52
  go_wp2
  go_loopw [10] (fun i wr => ∃ k : Nat, k ≤ d.bl.length ∧ i = .int .i64 k ∧ RunI ao d.bl.length cap d oo oc r (s1, s2) w k wr) (fun i _ => d.bl.length - (intOf i).toNat)
  case atStart => exact ⟨0, Nat.zero_le _, rfl, HI.out⟩
  case round =>
    obtain ⟨k, hk, rfl, hI⟩ := hrel
    by_cases hlt : k < d.bl.length
    · obtain ⟨h0, h1⟩ := HR.out k (by omega)
      have ha := hI.a
      have hb := hI.b
      have hkk : runTo r s1 k k = r k := by simp [runTo]
      have c5 : wr.cell? ⟨w.heap.size, 5 + k, none⟩ = some (.int .i64 (r k)) := by rw [cellsAt ha, mtC_at (by omega), hkk]
      have d0 := cellsAt hb 0
      have kf := cells_frozen ha (5 + k)
      have v1 : IntKind.i64.wrap (r k + s1) = r k + s1 := IntWalk.i64_in _ (by omega)
      have hki0 : (0 : Int) ≤ (k : Int) := by omega
      have hk5 : (k : Int) < 5 := by omega
      have HS : Hold (∀ W, Mod noB wr W → RunI ao d.bl.length cap d oo oc r (s1, s2) w (k + 1) (W.setCell ⟨w.heap.size, 5 + k, none⟩ (.int .i64 (r k + s1)))) := ⟨fun W h => by
        have hm : Mod (fun j => j = w.heap.size) W (W.setCell ⟨w.heap.size, 5 + k, none⟩ (.int .i64 (r k + s1))) := (Mod.refl (fun j => j = w.heap.size) W).setCell (p := ⟨w.heap.size, 5 + k, none⟩) (fun _ => rfl) _
        refine ⟨?_, hm.at (h.at hI.b id) (by omega), hm.at (h.at hI.c id) (by omega), (hI.m.trans h).then hm (fun i h1 h2 => by omega)⟩
        rw [setCell_at (h.at hI.a id), mtC_set _ (by omega)]
        simp only
        rw [runTo_step]⟩
      have FIN : Hold (∀ W', Mod noB wr W' → W'.cell? ⟨w.heap.size, 5 + k, none⟩ = some (.int .i64 (r k)) ∧ W'.cell? ⟨w.heap.size + 1, 0, none⟩ = some (.int .i64 s1) ∧ W'.frozen? ⟨w.heap.size, 5 + k, none⟩ = false) := ⟨fun W' h =>
        ⟨(cell_same (h.block _ (at_ltS ha) id) _).trans c5, cellsAt (h.at hb id) 0, cells_frozen (h.at ha id) _⟩⟩
      clear hI ha hb hkk c5 d0 kf
      go_wp2
      refine region_tailP 9 ⟨by decide, by kernel_rfl, by kernel_rfl, by kernel_rfl, by kernel_rfl, by kernel_rfl⟩ (by kernel_rfl) (fun W' => Mod noB wr W') ((Mod.refl _ _).drew) ?_
      simp only [strikeL, List.take_succ_cons, List.take_zero, List.drop_succ_cons, List.drop_zero, List.map_cons, List.map_nil, List.cons_append, List.nil_append, bareO]
      repeat
        (first
          | go_big_quiet_skip
          | (go_big_quiet_want
             go_simp
             first
               | go_big_quiet_on
               | (apply Exists.intro
                  refine ⟨fun W' hC => ?_, ?_⟩
                  · obtain ⟨q0, q1, q2⟩ := FIN.out W' hC
                    first
                      | with_reducible rfl
                      | (go_simp; first | rfl | exact ⟨rfl, rfl⟩)
                  go_big_quiet_on)
               | (refine ⟨⟨_, fun _ _ => rfl⟩, ?_⟩; go_big_quiet_on)))
      refine wpQuiet_nil ?_
      intro Wq hq
      obtain ⟨q0, q1, q2⟩ := FIN.out Wq hq
      have HQ := Hold.mk (HS.out Wq hq)
      clear hq
      gi_wp2
      go_wp2
      go_roundw
      case rel => exact ⟨k + 1, by omega, by go_num, HQ.out⟩
      case measure => simp [intOf]; omega
    · obtain rfl : k = d.bl.length := by omega
      have ha := hI.a
      have hc := hI.c
      have hm := hI.m
      simp only [HE.out] at ha
      have HV : Hold (mtV ao d.bl.length cap d oo oc (runR d r (s1, s2)) = .agg (mtC ao d.bl.length cap d oo oc (runR d r (s1, s2)))) := ⟨rfl⟩
      have HN := @mtC_info ao d.bl.length cap d oo oc (runR d r (s1, s2))
      generalize mtC ao d.bl.length cap d oo oc (runR d r (s1, s2)) = cs at *
      have HA := Hold.mk (And.intro ha (And.intro hc HN))
      have HM := Hold.mk hm
      clear ha hc hm hI HN
      go_wp2_with (first
        | (refine wpList_load_row rfl 87 (.tmp 2) rfl w.heap.size rfl 87 _ (0, 0) _ HA.out.1 Tryd.underlying87 rfl HA.out.2.2.1 ?_)
        | (refine wpList_store_row rfl 87 (.tmp 4) (.tmp 23) rfl (w.heap.size + 1 + 1) _ rfl rfl 87 _ HA.out.2.1 HA.out.2.2.1 HA.out.2.2.2.1 HA.out.2.2.2.2 ?_; rw [setRow_put HA.out.2.1]))
      have hg : (wr.putObj (w.heap.size + 1 + 1) (.cells cs 87)).heap[w.heap.size + 1 + 1]? = some (.cells cs 87) := World.putObj_heap_same (at_ltS HA.out.2.1)
      exact bodyPost_ret (results_cell_row (fn := Tryd.f52) rfl _ _ (w.heap.size + 1 + 1) 87 _ (0, 0) _ rfl hg Tryd.underlying87 rfl HA.out.2.2.1) rfl ⟨by rw [HV.out], HM.out.putObj (fun h => by omega) _⟩
end Go.Proofs.YtdncppempgpooaaDoor

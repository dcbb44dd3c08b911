/- isPlan; mount: a die on the press. -/
import Derived.Test.YtdncppempgpooaaDoorRuM
import Derived.Maps.AppendAt
set_option linter.unusedSimpArgs false
set_option linter.unusedVariables false
namespace Go.Proofs.YtdncppempgpooaaDoor
open Go.RowKit Go.Shelf

set_option maxHeartbeats 1000000 in
theorem isPlan1_any (b : Nat) (ao : Option Addr) (cap : Nat) (d : Dye) (x : Int) (w : World) (hn : d.bl.length ≤ 5) (hb : w.heap[b]? = some (.cells (dyC ao d.bl.length cap d) 24)) :
    Calls Tryd.prog 68 #[.int .i64 x, .pointer (some ⟨b, 0, none⟩)] w fun r w' => r = .returned (.bool (!fromB 0 (allS d) x)) ∧ Mod noB w w' := by
  have H1 := Hold.mk (fun w => allBlades_any ao cap d w hn)
  have H2 : Hold (∀ w, Calls Tryd.prog 41 #[.int .i64 0, .int .i64 (allS d), .int .i64 x] w fun e w' => e = .returned (.bool (fromB 0 (allS d) x)) ∧ Mod noB w w') := ⟨fun w => isFrom_any _ _ _ _⟩
  have c0 := cellsAt hb 0; have c1 := cellsAt hb 1; have c2 := cellsAt hb 2; have c3 := cellsAt hb 3
  generalize fromB 0 (allS d) x = s at *
  clear hb
  go_enter Tryd.func68, Tryd.ntmps68
  go_wp2_with (first
    | (go_at_call 69; refine (H1.out _).mono ?_; rintro e w1 ⟨rfl, hM⟩; have HM := Hold.mk hM; clear hM)
    | (go_at_call 41; refine (H2.out _).mono ?_; rintro e w1 ⟨rfl, hM⟩; have HM := Hold.mk (HM.out.trans hM); clear hM))
  go_ret
  exact ⟨rfl, HM.out⟩

set_option maxHeartbeats 1000000 in
theorem isPlan_any (ao : Option Addr) (cap : Nat) (d : Dye) (lo : Option Addr) (n lcap : Nat) (l : List (Int × Int)) (po : Option Addr) (pcap : Nat) (p : List Int) (w : World) (hn : d.bl.length ≤ 5) (hl : n = l.length) (hls : n ≤ 1000000) (hp : IntsAt w po p) :
    Calls Tryd.prog 48 #[dyV ao d.bl.length cap d, .slice lo n lcap, .slice po p.length pcap] w fun r w' => r = .returned (.bool (planB d l p)) ∧ Mod noB w w' := by
  have hsm := hp.small
  have hb := World.alloc_heap_new w (.cells (dyC ao d.bl.length cap d) 24)
  have HM0 := Hold.mk ((Mod.refl noB w).alloc (.cells (dyC ao d.bl.length cap d) 24))
  have H := Hold.mk (containsFuncN 0 po p pcap 68 #[.pointer (some ⟨w.heap.size, 0, none⟩)] (fun x => !fromB 0 (allS d) x) (w.alloc (.cells (dyC ao d.bl.length cap d) 24)) (by omega) (hp.mod ((Mod.refl _ _).alloc _)) enter68
    (fun e w1 h => isPlan1_any w.heap.size ao cap d e w1 hn (h.at hb id)))
  have hy : (p.length : Int) = max 0 ((l.length : Int) - 1) → Hold (planB d l p = !(p.any fun x => !fromB 0 (allS d) x)) := fun h => ⟨by rw [planB, decide_eq_true (by omega), Bool.true_and]; exact all_not _ _⟩
  have hno : ¬ (p.length : Int) = max 0 ((l.length : Int) - 1) → Hold (planB d l p = false) := fun h => ⟨by rw [planB, decide_eq_false (by omega), Bool.false_and]⟩
  rw [← hl] at hy hno
  clear hp hb hl
  generalize planB d l p = P at *
  by_cases h : (p.length : Int) = max 0 ((n : Int) - 1)
  · have he := hy h
    generalize (p.any fun x => !fromB 0 (allS d) x) = s at *
    clear hy hno
    by_cases h1 : 1 < n
    · have h1i : (1 : Int) < (n : Int) := by omega
      have ht : ((p.length : Int) == (n : Int) - 1) = true := by simp; omega
      clear h
      go_enter Tryd.func48, Tryd.ntmps48
      go_wp2_with (go_at_call 70; refine H.out.mono ?_; rintro e w1 ⟨rfl, hM⟩; have HM := Hold.mk hM; clear hM)
      go_ret
      exact ⟨by rw [he.out]; rfl, HM0.out.trans HM.out⟩
    · have h1i : ¬ (1 : Int) < (n : Int) := by omega
      have hp0 : p.length = 0 := by omega
      have hp1 := List.length_eq_zero_iff.1 hp0
      clear h hp0
      subst hp1
      go_enter Tryd.func48, Tryd.ntmps48
      go_wp2_with (go_at_call 70; refine H.out.mono ?_; rintro e w1 ⟨rfl, hM⟩; have HM := Hold.mk hM; clear hM)
      go_ret
      exact ⟨by rw [he.out]; rfl, HM0.out.trans HM.out⟩
  · have he := hno h
    clear hy hno H
    by_cases h1 : 1 < n
    · have h1i : (1 : Int) < (n : Int) := by omega
      have ht : ((p.length : Int) == (n : Int) - 1) = false := by simp; omega
      clear h
      go_enter Tryd.func48, Tryd.ntmps48
      go_wp2
      go_ret
      exact ⟨by rw [he.out] <;> rfl, HM0.out⟩
    · have h1i : ¬ (1 : Int) < (n : Int) := by omega
      have hp0 : p ≠ [] := fun e => by subst e; simp at h; omega
      have hp1 : ((p.length : Int) == 0) = false := by simp [hp0]
      clear h
      go_enter Tryd.func48, Tryd.ntmps48
      go_wp2
      go_ret
      exact ⟨by rw [he.out] <;> rfl, HM0.out⟩

theorem info83 : (Tryd.prog.info? 83).map (fun i => (i.zero, i.size, i.bytes)) = some (some (.slice none 0 0), 1, 24) := by kernel_rfl
theorem info78 : (Tryd.prog.info? 78).map (fun i => (i.zero, i.size, i.bytes)) = some (some (.agg #[.nilFunc, .nilFunc]), 2, 16) := by kernel_rfl
end Go.Proofs.YtdncppempgpooaaDoor

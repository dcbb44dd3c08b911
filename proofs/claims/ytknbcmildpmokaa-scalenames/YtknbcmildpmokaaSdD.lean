/- cheapest. -/
import Derived.Test.YtknbcmildpmokaaSdC
set_option linter.unusedSimpArgs false
set_option linter.unusedVariables false
namespace Go.Proofs.Ytknbcmildpmokaa
open Go.RowKit Go.Shelf


def bestO (L : List (Int × Int)) : Int × Int := (cheapest L).getD (0, 0)
theorem bestO_one {L : List (Int × Int)} {x : Int × Int} (h : L[0]? = some x) : bestO (L.take 1) = x := by
  cases L with
  | nil => cases h
  | cons y L => cases h; rfl
theorem bestO_next {L : List (Int × Int)} {k : Nat} {x : Int × Int} (h : L[k]? = some x) (hk : 0 < k) : bestO (L.take (k + 1)) = if x.2 < (bestO (L.take k)).2 then x else bestO (L.take k) := by
  rw [take_snoc' h]
  cases L with
  | nil => cases h
  | cons y L =>
    obtain ⟨j, rfl⟩ : ∃ j, k = j + 1 := ⟨k - 1, by omega⟩
    rw [List.take_succ_cons, List.cons_append]
    have e1 : ∀ L', bestO (y :: L') = L'.foldl (fun best (x : Int × Int) => if x.2 < best.2 then x else best) y := fun _ => rfl
    rw [e1, e1, List.foldl_append, List.foldl_cons, List.foldl_nil]
theorem bestO_all (L : List (Int × Int)) : bestO (L.take L.length) = bestO L := by rw [List.take_length]
theorem cheapest_some (L : List (Int × Int)) : (cheapest L).isSome = decide (0 < L.length) := by
  cases L <;> simp [cheapest]
theorem info94u : (Try.prog.info? 94).map (·.size) = some 2 := by kernel_rfl
theorem results55 {tmps : Array Value} {W : World} {p : Nat} {x y v : Value} (h2 : tmps.getD 2 undef = .pointer (some ⟨p, 0, none⟩)) (h3 : tmps.getD 3 undef = v) (k2 : W.heap[p]? = some (.cells #[x, y] 94)) :
    (results Try.f55 tmps).run Try.prog W = .ok (.tuple #[.agg #[x, y], v]) W := by
  have c0 := cellsAt k2 0
  have c1 := cellsAt k2 1
  have h2' : tmps[2]?.getD undef = .pointer (some ⟨p, 0, none⟩) := by simpa using h2
  have h3' : tmps[3]?.getD undef = v := by simpa using h3
  simp [results, Try.results55, go_sem, *]
theorem two_id {W : World} {p : Nat} {x y : Value} {T : TypeId} (h : W.heap[p]? = some (.cells #[x, y] T)) : Mod noB W ((W.setCell ⟨p, 0, none⟩ x).setCell ⟨p, 1, none⟩ y) := by
  have hm : Mod (fun k => k = p) W ((W.setCell ⟨p, 0, none⟩ x).setCell ⟨p, 1, none⟩ y) := ((Mod.refl (fun k => k = p) W).setCell (p := ⟨p, 0, none⟩) (fun _ => rfl) _).setCell (p := ⟨p, 1, none⟩) (fun _ => rfl) _
  refine ⟨hm.os, hm.tape, hm.output, hm.size, fun k hk _ => ?_⟩
  by_cases e : k = p
  · subst e
    rw [two_set h, h]
  · exact hm.block k hk e
theorem two_mod {W w : World} {x y : Value} (h : Mod noB w W) : Mod noB w ((W.setCell ⟨w.heap.size, 0, none⟩ x).setCell ⟨w.heap.size, 1, none⟩ y) :=
  Mod.setNew (Mod.setNew h (Nat.le_refl _) _) (Nat.le_refl _) _

/-- Between two rounds. -/
structure ChI (w : World) (L : List (Int × Int)) (k : Nat) (wr : World) : Prop where
  a : wr.heap[w.heap.size]? = some (.cells (spC (bestO (L.take k))) 94)
  m : Mod noB w wr

set_option maxRecDepth 100000 in
set_option maxHeartbeats 4000000 in
theorem cheapest_any (B : Nat) (ao : Option Addr) (cap : Nat) (L : List (Int × Int)) (w : World) (hB : B ≤ w.heap.size) (hL : SpansAt B w ao L) :
    Calls Try.prog 55 #[.slice ao L.length cap] w fun e w' => e = .returned (.tuple #[spV (bestO L), .bool (cheapest L).isSome]) ∧ Mod noB w w' := by
  have hsm := hL.small
  have HL := Hold.mk (And.intro hL hB)
  have HI0 : Hold (ChI w L 0 (w.alloc (.cells (spC (0, 0)) 94))) := ⟨World.alloc_heap_new _ _, (Mod.refl _ _).alloc _⟩
  clear hL hB
  go_enter Try.func55, Try.ntmps55
  go_wp2
  go_loopw [3, 8] (fun v i wr => ∃ k : Nat, k ≤ L.length ∧ i = .int .i64 k ∧ v = .bool (decide (0 < k)) ∧ Hold (ChI w L k wr)) (fun _ i _ => L.length - (intOf i).toNat)
  case atStart => exact ⟨0, Nat.zero_le _, rfl, rfl, HI0⟩
  case round =>
    obtain ⟨k, hk, rfl, rfl, HI⟩ := hrel
    by_cases hlt : k < L.length
    · obtain ⟨x, hx⟩ : ∃ x, L[k]? = some x := ⟨_, List.getElem?_eq_getElem hlt⟩
      obtain ⟨rb, roff, rfl, _, p0, p1⟩ := (HL.out.1.low (Low.ofN HI.out.m HL.out.2)).span hx
      obtain ⟨W4, hW4⟩ : ∃ W4, wr.alloc (.cells #[.int .i64 x.1, .int .i64 x.2] 94) = W4 := ⟨_, rfl⟩
      have hm4 : Mod noB wr W4 := by rw [← hW4]; exact (Mod.refl _ _).alloc _
      have hd4 : W4.heap[wr.heap.size]? = some (.cells (spC x) 94) := by rw [← hW4]; exact World.alloc_heap_new _ _
      have HM4 := Hold.mk (HI.out.m.trans hm4)
      have ha4 := hm4.at HI.out.a id
      obtain ⟨t0, t1⟩ := sp_cells hd4
      obtain ⟨a0, a1⟩ := sp_cells ha4
      have f0 := frozen_at ha4 0
      have f1 := frozen_at ha4 1
      have HA := Hold.mk ha4
      have HX := Hold.mk hx
      clear hm4 hd4 ha4 hx
      by_cases h0 : k = 0
      · subst h0
        simp only [Nat.zero_mul, Nat.add_zero] at p0 p1
        have hN : Hold (bestO (L.take 1) = x) := ⟨bestO_one HX.out⟩
        go_wp2_with (fail)
        (try rw [hW4])
        go_wp2
        go_roundw
        case rel => exact ⟨1, by omega, by go_num, rfl, ⟨⟨by rw [hN.out]; exact two_set HA.out, two_mod HM4.out⟩⟩⟩
        case measure => simp [intOf]; omega
      · have hk0 : ((k : Int) == 0) = false := by rw [beq_eq_false_iff_ne]; omega
        have hp : decide (0 < k) = true := decide_eq_true (by omega)
        have hN := Hold.mk (bestO_next HX.out (Nat.pos_of_ne_zero h0))
        obtain ⟨y, hy⟩ : ∃ y, bestO (L.take k) = y := ⟨_, rfl⟩
        rw [hy] at hN HA a0 a1
        have HY := Hold.mk hy
        clear hy h0
        by_cases hc : x.2 < y.2
        · have HN2 : Hold (bestO (L.take (k + 1)) = x) := ⟨by rw [hN.out, if_pos hc]⟩
          go_wp2_with (fail)
          (try rw [hW4])
          go_wp2
          go_roundw
          case rel => exact ⟨k + 1, by omega, by go_num, by simp, ⟨⟨by rw [HN2.out]; exact two_set HA.out, two_mod HM4.out⟩⟩⟩
          case measure => simp [intOf]; omega
        · have HN2 : Hold (bestO (L.take (k + 1)) = y) := ⟨by rw [hN.out, if_neg hc]⟩
          go_wp2_with (fail)
          (try rw [hW4])
          go_wp2
          go_roundw
          case rel => exact ⟨k + 1, by omega, by go_num, by rw [hp]; simp, ⟨⟨by rw [HN2.out]; exact HA.out, HM4.out⟩⟩⟩
          case measure => simp [intOf]; omega
    · obtain rfl : k = L.length := by omega
      have ha := HI.out.a
      rw [bestO_all] at ha
      obtain ⟨a0, a1⟩ := sp_cells ha
      have f0 := frozen_at ha 0
      have f1 := frozen_at ha 1
      have HA := Hold.mk ha
      clear ha
      go_wp2
      refine bodyPost_ret (v := .tuple #[spV (bestO L), .bool (decide (0 < L.length))]) (results55 rfl rfl (two_set HA.out)) rfl ⟨by rw [cheapest_some], two_mod HI.out.m⟩

end Go.Proofs.Ytknbcmildpmokaa

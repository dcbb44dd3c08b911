/- numbersOf: the span of the numbers of a kind. -/
import Derived.Test.YtknbcmildpmokaaScT
set_option linter.unusedSimpArgs false
set_option linter.unusedVariables false
namespace Go.Proofs.Ytknbcmildpmokaa
open Go.RowKit Go.Shelf


abbrev ListsAt (B : Nat) (w : World) (ao : Option Addr) (l : List (List Int)) : Prop := ListAt B w 4 liC ao l
theorem ListAt.list {B : Nat} {w : World} {ao : Option Addr} {l : List (List Int)} (h : ListsAt B w ao l) {k : Nat} {x : List Int} (hx : l[k]? = some x) : ∃ b off, ao = some ⟨b, off, none⟩ ∧ b < B ∧
    w.cell? ⟨b, off + k * 4, none⟩ = some (.int .i64 (x[0]?.getD 0)) ∧ w.cell? ⟨b, off + k * 4 + 1, none⟩ = some (.int .i64 (x[1]?.getD 0)) ∧ w.cell? ⟨b, off + k * 4 + 2, none⟩ = some (.int .i64 (x[2]?.getD 0)) ∧ w.cell? ⟨b, off + k * 4 + 3, none⟩ = some (.int .i64 (x[3]?.getD 0)) := by
  obtain ⟨b, off, e, hb, hc⟩ := h.lies (fun e => by rw [e] at hx; simp at hx)
  have g := hc k x hx
  exact ⟨b, off, e, hb, g 0 (by omega), g 1 (by omega), g 2 (by omega), g 3 (by omega)⟩
/-- The span so far. -/
def spanT (l : List (List Int)) (k j : Nat) : Int × Int := (l.take j).foldl (fun s has => widen s (has.getD k 0)) (((l.headD []).getD k 0), ((l.headD []).getD k 0))
theorem spanT_all (l : List (List Int)) (k : Nat) : spanT l k l.length = spanK l k := by unfold spanT spanK; rw [List.take_length]
theorem spanT_next {l : List (List Int)} {k j : Nat} {x : List Int} (h : l[j]? = some x) : spanT l k (j + 1) = widen (spanT l k j) (x[k]?.getD 0) := by
  unfold spanT
  rw [take_snoc' h, List.foldl_append]
  simp

set_option maxRecDepth 100000 in
set_option maxHeartbeats 4000000 in
theorem numbersOf_any (B : Nat) (ao : Option Addr) (cap : Nat) (l : List (List Int)) (k : Nat) (w : World) (hB : B ≤ w.heap.size) (hs : ListsAt B w ao l) (hne : ¬ l = []) (hk : k < 4) :
    Calls Try.prog 51 #[.slice ao l.length cap, .int .i64 k] w fun e w' => e = .returned (spV (spanK l k)) ∧ Mod noB w w' := by
  have hsm := hs.small
  obtain ⟨x0, hx0⟩ : ∃ x, l[0]? = some x := by
    cases l with
    | nil => exact absurd rfl hne
    | cons x l => exact ⟨x, rfl⟩
  obtain ⟨ab, aoff, rfl, hab, hcs⟩ := hs.lies hne
  have hc0 := hcs 0 x0 hx0 k hk
  rw [li_at hk] at hc0
  simp only [Nat.zero_mul, Nat.add_zero] at hc0
  have hk4 : (k : Int) < 4 := by omega
  have hlen : 0 < l.length := (List.getElem?_eq_some_iff.1 hx0).1
  have hleni : (0 : Int) < (l.length : Int) := by omega
  have HT0 : Hold (spanT l k 0 = (x0[k]?.getD 0, x0[k]?.getD 0)) := ⟨by
    unfold spanT
    have : l.headD [] = x0 := by cases l with | nil => cases hx0 | cons y l => simpa using hx0
    rw [this]; simp⟩
  have HJ := Hold.mk (fun w => just_any (x0[k]?.getD 0) w)
  have HS := Hold.mk hs
  have HB := Hold.mk hB
  obtain ⟨W0, hW0⟩ : ∃ W0, w.alloc (.cells #[.int .i64 0, .int .i64 0] 78) = W0 := ⟨_, rfl⟩
  have hm0 : Mod noB w W0 := by rw [← hW0]; exact (Mod.refl _ _).alloc _
  have hz0 : W0.heap[w.heap.size]? = some (.cells (spC (0, 0)) 78) := by rw [← hW0]; exact World.alloc_heap_new _ _
  have c00 : W0.cell? ⟨ab, aoff + k, none⟩ = some (.int .i64 (x0[k]?.getD 0)) := (cell_same (hm0.block ab (by omega) id) _).trans hc0
  have HM0 := Hold.mk hm0
  have HZ0 := Hold.mk hz0
  clear hs hB hcs hx0 hc0 hm0 hz0 hne
  go_enter Try.func51, Try.ntmps51
  go_wp2_with (go_at_call 71; (try rw [hW0]); refine (HJ.out _).mono ?_; rintro e w1 ⟨rfl, hM⟩; have HM1 := Hold.mk hM; clear hM)
  have HP0 : Hold ((w1.alloc (.cells #[.int .i64 (x0[k]?.getD 0), .int .i64 (x0[k]?.getD 0)] 78)).heap[w1.heap.size]? = some (.cells (spC (spanT l k 0)) 78)) := ⟨by rw [HT0.out]; exact World.alloc_heap_new _ _⟩
  have HQ0 : Hold (Mod noB W0 (w1.alloc (.cells #[.int .i64 (x0[k]?.getD 0), .int .i64 (x0[k]?.getD 0)] 78))) := ⟨HM1.out.alloc _⟩
  have hw1 : w.heap.size < w1.heap.size := by have := at_ltS HZ0.out; have := HM1.out.size; omega
  clear c00
  go_loopw [16] (fun i wr => ∃ j : Nat, j ≤ l.length ∧ i = .int .i64 j ∧ wr.heap[w1.heap.size]? = some (.cells (spC (spanT l k j)) 78) ∧ wr.heap[w.heap.size]? = some (.cells (spC (0, 0)) 78) ∧ Mod noB w wr) (fun i _ => l.length - (intOf i).toNat)
  case atStart => exact ⟨0, Nat.zero_le _, rfl, HP0.out, HQ0.out.at HZ0.out id, HM0.out.trans HQ0.out⟩
  case round =>
    obtain ⟨j, hj, rfl, h1, h2, hmr⟩ := hrel
    have HM := Hold.mk hmr
    have H1 := Hold.mk h1
    have H2 := Hold.mk h2
    have hp1 := at_ltS h1
    clear h1 h2 hmr
    by_cases hlt : j < l.length
    · obtain ⟨x, hx⟩ : ∃ x, l[j]? = some x := ⟨_, List.getElem?_eq_getElem hlt⟩
      obtain ⟨ab', aoff', e', _, q0, q1, q2, q3⟩ := (HS.out.low (Low.ofN HM.out HB.out)).list hx
      cases e'
      have HT : Hold (spanT l k (j + 1) = widen (spanT l k j) (x[k]?.getD 0)) := ⟨spanT_next hx⟩
      have HW := Hold.mk (fun w => with_any (spanT l k j) (x[k]?.getD 0) w)
      rw [← HT.out] at HW
      obtain ⟨W4, hW4⟩ : ∃ W4, wr.alloc (.cells #[.int .i64 (x[0]?.getD 0), .int .i64 (x[1]?.getD 0), .int .i64 (x[2]?.getD 0), .int .i64 (x[3]?.getD 0)] 77) = W4 := ⟨_, rfl⟩
      have hm4 : Mod noB wr W4 := by rw [← hW4]; exact (Mod.refl _ _).alloc _
      have hd4 : W4.heap[wr.heap.size]? = some (.cells (liC x) 77) := by rw [← hW4]; exact World.alloc_heap_new _ _
      have FIN : Hold (∀ W', Mod noB W4 W' → W'.heap[w1.heap.size]? = some (.cells (spC (spanT l k j)) 78) ∧ W'.cell? ⟨wr.heap.size, k, none⟩ = some (.int .i64 (x[k]?.getD 0)) ∧ Mod noB wr W') := ⟨fun W' h => ⟨(hm4.trans h).at H1.out id, by
        have := cellsAt (h.at hd4 id) k
        rw [li_at hk] at this
        exact this, hm4.trans h⟩⟩
      clear hx hm4 hd4
      go_wp2
      (try rw [hW4])
      refine region_tailP 5 ⟨by decide, by kernel_rfl, by kernel_rfl, by kernel_rfl, by kernel_rfl, by kernel_rfl⟩ (by kernel_rfl) (fun W' => Mod noB W4 W') (Mod.refl _ _).drew ?_
      simp only [strikeL, List.take_succ_cons, List.take_zero, List.drop_succ_cons, List.drop_zero, List.map_cons, List.map_nil, List.cons_append, List.nil_append, bareO]
      repeat
        (first
          | go_big_quiet_skip
          | (go_big_quiet_want
             go_simp
             first
               | go_big_quiet_on
               | (apply Exists.intro
                  refine ⟨fun W' hC => ?_, ?_⟩
                  · obtain ⟨f1, f2, _⟩ := FIN.out W' hC; obtain ⟨e0, e1⟩ := sp_cells f1; clear f1
                    first
                      | (go_at_call 72; exact (HW.out _).mono fun e w2 hh => ⟨hh.1, hC.trans hh.2⟩)
                      | with_reducible rfl
                      | (go_simp; first | rfl | exact ⟨rfl, rfl⟩)
                  go_big_quiet_on)
               | (refine ⟨⟨_, fun _ _ => rfl⟩, ?_⟩; go_big_quiet_on)))
      refine wpQuiet_nil ?_
      intro Wq hq
      have HQ := Hold.mk (FIN.out Wq hq)
      clear hq
      refine wpListIn_storeRow rfl 78 (.tmp 5) (.tmp 24) rfl w1.heap.size rfl (spC (spanT l k (j + 1))) rfl 78 _ HQ.out.1 info78u rfl (sp_one _) ?_
      refine wpListIn_nil ?_
      have HR := Hold.mk (HM.out.trans HQ.out.2.2)
      have HS1 := Hold.mk (World.putObj_heap_same (o := .cells (spC (spanT l k (j + 1))) 78) (at_ltS HQ.out.1))
      have HS2 : Hold ((Wq.putObj w1.heap.size (.cells (spC (spanT l k (j + 1))) 78)).heap[w.heap.size]? = some (.cells (spC (0, 0)) 78)) := ⟨(World.putObj_heap_other (by omega)).trans (HQ.out.2.2.at H2.out id)⟩
      have HS3 := Hold.mk (HR.out.putObj (b := w1.heap.size) (fun h => by omega) (.cells (spC (spanT l k (j + 1))) 78))
      go_wp2
      go_roundw
      case rel => exact ⟨j + 1, by omega, by go_num, HS1.out, HS2.out, HS3.out⟩
      case measure => simp [intOf]; omega
    · obtain rfl : j = l.length := by omega
      have hsl := spanT_all l k
      rw [hsl] at H1
      clear hsl
      go_wp2_with (refine wpList_load_row rfl 78 (.tmp 5) rfl w1.heap.size rfl 78 _ (0, 0) _ H1.out Try.underlying78 rfl info78u ?_; refine wpList_store_row rfl 78 (.tmp 4) (.tmp 26) rfl w.heap.size (spC (spanK l k)) rfl rfl 78 _ H2.out info78u rfl (sp_one _) ?_; rw [setRow_put H2.out])
      have hz := World.putObj_heap_same (o := .cells (spC (spanK l k)) 78) (at_ltS H2.out)
      obtain ⟨r0, r1⟩ := sp_cells hz
      clear hz
      refine bodyPost_ret (v := spV (spanK l k)) ?_ rfl ⟨rfl, HM.out.putObj (fun h => by omega) _⟩
      simp [results, Try.results51, go_sem, *]

end Go.Proofs.Ytknbcmildpmokaa

/- Inside: the pieces within a piece. -/
import Derived.Test.YtogalmkeipigeaaSides
import Derived.Test.YtogalmkeipigeaaOutside
import Derived.Laws.Tables
set_option linter.unusedSimpArgs false
set_option linter.unusedVariables false
namespace Go.Proofs.Ytogalmkeipigeaa
open Go.RowKit

/-- Of the first k pieces those that are not the piece, and that R does not name. -/
def insideTo (R : Nat → Bool) (p : Int) : Nat → List Int
  | 0 => []
  | k + 1 => insideTo R p k ++ (if (k : Int) ≠ p ∧ R k = false then [(k : Int)] else [])
theorem insideTo_yes {R : Nat → Bool} {p : Int} {k : Nat} (h1 : (k : Int) ≠ p) (h2 : R k = false) : insideTo R p (k + 1) = insideTo R p k ++ [(k : Int)] := by
  simp only [insideTo]; rw [if_pos ⟨h1, h2⟩]
theorem insideTo_no {R : Nat → Bool} {p : Int} {k : Nat} (h : (k : Int) = p ∨ R k = true) : insideTo R p (k + 1) = insideTo R p k := by
  simp only [insideTo]; rw [if_neg, List.append_nil]
  rintro ⟨h1, h2⟩
  rcases h with h | h
  · exact h1 h
  · rw [h] at h2; cases h2
theorem insideTo_len (R : Nat → Bool) (p : Int) (k : Nat) : (insideTo R p k).length ≤ k := by
  induction k with
  | zero => simp [insideTo]
  | succ k ih => simp only [insideTo, List.length_append]; split <;> simp <;> omega
theorem laid_row {w Wx : World} {old cs : Array Value} {t : TypeId} (h : (w.alloc (.cells old t)).setRow w.heap.size cs = Wx) : Mod noB w Wx ∧ Wx.heap[w.heap.size]? = some (.cells cs t) := by
  subst h
  have h1 := World.alloc_heap_new w (.cells old t)
  rw [setRow_put h1]
  exact ⟨((Mod.refl noB w).alloc _).putObj (fun h => absurd h (Nat.lt_irrefl _)) _, World.putObj_heap_same (Array.getElem?_eq_some_iff.1 h1).1⟩

set_option maxRecDepth 100000 in
set_option maxHeartbeats 1000000 in
theorem inside_no (W H : Int) (ao : Option Addr) (zs : List Int) (cap : Nat) (p : Int) (w : World) (hs : IntsAt w ao zs) (h : (checkR W H zs).2 ≠ 0) :
    Calls Try.prog 18 #[cutV W H ao zs.length cap, .int .i64 p] w fun e w' => e = .returned (.tuple #[.slice none 0 0, .int .i64 (checkR W H zs).2]) ∧ Mod noB w w' := by
  have HO := Hold.mk (open_no W H ao zs cap _ (hs.alloc (.cells #[.int .i64 W, .int .i64 H, .slice ao zs.length cap] 24)) h)
  generalize (checkR W H zs).2 = e at *
  have he : (e != 0) = true := by simpa using h
  have HM0 := Hold.mk ((Mod.refl noB w).alloc (.cells #[.int .i64 W, .int .i64 H, .slice ao zs.length cap] 24))
  clear hs h
  go_enter Try.func18, Try.ntmps18
  go_wp2_with (go_at_call 46; refine HO.out.mono ?_; rintro e w1 ⟨rfl, hM1⟩; have HM1 := Hold.mk hM1; clear hM1)
  go_ret2
  exact ⟨rfl, (HM0.out.trans HM1.out).alloc _⟩

set_option maxRecDepth 100000 in
set_option maxHeartbeats 2000000 in
theorem inside_yes {W H : Nat} {zs : List Int} (C : CutN W H zs) (ao : Option Addr) (cap : Nat) (p : Int) (w : World) (hs : IntsAt w ao zs) (h : (checkR W H zs).2 = 0) (hp1 : 0 ≤ p) (hp2 : p < many zs) :
    Calls Try.prog 18 #[cutV W H ao zs.length cap, .int .i64 p] w fun e w' => ∃ v R, e = .returned (.tuple #[v, .int .i64 0]) ∧ OutInv (laidG W zs zs.length) W H p (many zs) (many zs) [] R ∧
      w'.ownsRow w.heap.size 3 1 v (insideTo R p (many zs)).length ((insideTo R p (many zs)).map (Value.int .i64)) ∧ Mod noB w w' := by
  have HO := Hold.mk (open_yes C ao cap _ (hs.alloc (.cells #[.int .i64 W, .int .i64 H, .slice ao zs.length cap] 24)) h)
  have HM0 := Hold.mk ((Mod.refl noB w).alloc (.cells #[.int .i64 W, .int .i64 H, .slice ao zs.length cap] 24))
  have hN1 := C.many_le.1
  have hN2 := C.many_le.2
  have HC := Hold.mk C
  have HG := Hold.mk C.grid
  obtain ⟨g, hg⟩ : ∃ g, laidG W zs zs.length = g := ⟨_, rfl⟩
  obtain ⟨N, hN⟩ : ∃ N, many zs = N := ⟨_, rfl⟩
  rw [hN] at HO hN1 hN2 hp2 ⊢
  rw [hg] at HG HO ⊢
  obtain ⟨i0, hi, hz0, hz1, hz2⟩ := info_parts info3
  clear hs h hN C hg
  have hNi : (N : Int) ≤ 40 := by omega
  go_enter Try.func18, Try.ntmps18
  go_wp2_with (first
    | (go_at_call 46; refine HO.out.mono ?_; rintro e w1 ⟨mb, rfl, hM1, hmp⟩; have HM1 := Hold.mk (And.intro hM1 hmp); clear hM1 hmp)
    | (go_at_call 47; refine (has_any W H N mb p _).mono ?_; rintro e w2 ⟨rfl, hb2⟩
       have hM2 := Mod.of_below hb2 rfl
       have hpp := hM2.at (World.alloc_heap_new w1 (.cells #[.int .i64 W, .int .i64 H, .int .i64 N, .map (some mb)] 71)) id
       have p0 : w2.cell? ⟨w1.heap.size, 0, none⟩ = some (.int .i64 W) := (by simp [World.cell?, hpp])
       have p1 : w2.cell? ⟨w1.heap.size, 1, none⟩ = some (.int .i64 H) := (by simp [World.cell?, hpp])
       have p2 : w2.cell? ⟨w1.heap.size, 2, none⟩ = some (.int .i64 N) := (by simp [World.cell?, hpp])
       have p3 : w2.cell? ⟨w1.heap.size, 3, none⟩ = some (.map (some mb)) := (by simp [World.cell?, hpp])
       have HM2 := Hold.mk (And.intro hM2 hpp)
       clear hb2 hM2 hpp)
    | (go_at_call 51; refine (outside_any g W H HG.out N hN2 p mb _ (HM1.out.2.same (((Mod.refl noB w1).alloc _ |>.trans HM2.out.1).block mb HM1.out.2.lt id))).mono ?_; rintro e w3 ⟨R, rfl, hM3, hR⟩
       have HM3 := Hold.mk (And.intro hM3 hR)
       clear hM3 hR p0 p1 p2 p3)
    | (refine wpList_store_row rfl 84 (.tmp 8) (.tmp 25) rfl w3.heap.size _ rfl rfl 84 _ (World.alloc_heap_new w3 _) (by rw [boolCells, fcells_size]; kernel_rfl) (by rw [boolCells, fcells_size]; rfl) (by simp [boolCells, fcells, Value.oneCell']) ?_
       generalize hWx : World.setRow _ _ _ = Wx
       have HX := Hold.mk (laid_row hWx)
       have hppx := HX.out.1.at (HM3.out.1.at HM2.out.2 id) id
       have p2x : Wx.cell? ⟨w1.heap.size, 2, none⟩ = some (.int .i64 N) := (by simp [World.cell?, hppx])
       clear hWx hppx))
  have HML := Hold.mk (show Mod noB w Wx from HM0.out.trans (HM1.out.1.trans (((Mod.refl noB w1).alloc _).trans (HM2.out.1.trans (HM3.out.1.trans HX.out.1)))))
  clear p2x
  go_loopw [9, 28] (fun v i wr => ∃ k : Nat, k ≤ N ∧ i = .int .i64 k ∧ wr.ownsRow Wx.heap.size 3 1 v (insideTo R p k).length ((insideTo R p k).map (Value.int .i64)) ∧ Mod noB Wx wr) (fun _ i _ => N - (intOf i).toNat)
  case atStart => exact ⟨0, Nat.zero_le _, rfl, World.ownsRow_nil _ _ _ _, Mod.refl _ _⟩
  case round =>
    obtain ⟨k, hk, rfl, hown, hmr⟩ := hrel
    have HMR := Hold.mk hmr
    have hcl : (insideTo R p k).length ≤ 40 := by have := insideTo_len R p k; omega
    have HOW := Hold.mk hown
    clear hown
    by_cases c1 : k < N
    · have hk40 : (k : Int) < 40 := by omega
      have c0 : wr.cell? ⟨w3.heap.size, k, none⟩ = some (.bool (R k)) := fcells_cell (hmr.at HX.out.2 id) (by omega)
      clear hmr
      by_cases c2 : (k : Int) = p
      · have hb : ((k : Int) != p) = false := by simp [c2]
        have HC2 := Hold.mk c2
        clear c2 c0
        go_wp2
        go_roundw
        case rel => exact ⟨k + 1, by omega, by go_num, by rw [insideTo_no (.inl HC2.out)]; exact HOW.out, HMR.out⟩
        case measure => simp [intOf]; omega
      · have hb : ((k : Int) != p) = true := by simp [c2]
        have HC2 := Hold.mk c2
        clear c2
        cases hRk : R k with
        | true =>
          rw [hRk] at c0
          have HRk := Hold.mk hRk
          clear hRk
          go_wp2
          go_roundw
          case rel => exact ⟨k + 1, by omega, by go_num, by rw [insideTo_no (.inr HRk.out)]; exact HOW.out, HMR.out⟩
          case measure => simp [intOf]; omega
        | false =>
          rw [hRk] at c0
          have HRk := Hold.mk hRk
          clear hRk
          have hnw := World.alloc_heap_new wr (.cells #[.int .i64 k] 3)
          have HNW := Hold.mk (fun j u (hj : [Value.int .i64 (k : Int)][j]? = some u) => (show (wr.alloc (.cells #[.int .i64 k] 3)).cell? (Addr.add ⟨wr.heap.size, 0, none⟩ j) = some u from by
            have ea : Addr.add ⟨wr.heap.size, 0, none⟩ j = ⟨wr.heap.size, j, none⟩ := by simp [Addr.add]; omega
            rw [ea]
            simp only [World.cell?, hnw]
            rcases j with _ | j
            · simpa using hj
            · simp at hj))
          clear hnw
          go_wp2_with (at_builtin; refine wpList_append_own _ rfl (.tmp 40) (.tmp 42) 22 rfl Wx.heap.size 3 i0 (.int .i64 0) 1 8 Try.underlying22 hi hz0 hz1 hz2 rfl (by decide) _ _ _ rfl (HOW.out.alloc _) ⟨wr.heap.size, 0, none⟩ 1 1 [.int .i64 k] rfl rfl HNW.out (by simp [Value.oneCell']) (by unfold maxLen; omega) (by omega) (by have := HMR.out.size; simp; omega) ?_; intro v' wa hown' hgr _; have HW := Hold.mk (And.intro hown' hgr); clear hown' hgr)
          go_roundw
          case rel =>
            obtain ⟨hown', hgr⟩ := HW.out
            refine ⟨k + 1, by omega, by go_num, ?_, ?_⟩
            · rw [insideTo_yes HC2.out HRk.out, List.map_append, List.length_append]; exact hown'
            · exact HMR.out.then (((Mod.refl (fun b => Wx.heap.size ≤ b) wr).alloc _).trans (Mod.of_grownBy hgr (fun r hr _ => own_ge HOW.out hr))) (fun i h1 h2 => absurd h1 (Nat.not_lt.2 h2))
          case measure => simp [intOf]; omega
    · obtain rfl : k = N := by omega
      go_wp2
      go_ret2
      exact ⟨_, R, rfl, HM3.out.2, own_mono HOW.out HML.out.size, HML.out.trans HMR.out⟩
end Go.Proofs.Ytogalmkeipigeaa

/- The document's Stuck. -/
import Derived.Test.YtdncppempgpooaaDoorRwJ
set_option linter.unusedSimpArgs false
set_option linter.unusedVariables false
namespace Go.Proofs.YtdncppempgpooaaDoor
open Go.RowKit Go.Shelf

/-- Can a blade that has run so far be off by too much in one of these stints? -/
def stuckAt (d : Dye) (k : Nat) : Int → List (Int × Int) → Bool
  | _, [] => false
  | r, s :: ss => decide (d.bound + s.2 < mostV (bladeAt d k) (r + s.1)) || stuckAt d k (r + s.1) ss
def stuckR (d : Dye) (seg : List (Int × Int)) : Option Nat := (List.range d.bl.length).find? (fun k => stuckAt d k 0 seg)
def segL (l : List (Int × Int)) (fr to_ : Nat) : List (Int × Int) := (l.drop fr).take (to_ + 1 - fr)
theorem segL_cons {l : List (Int × Int)} {i t : Nat} {s : Int × Int} (h : l[i]? = some s) (hi : i ≤ t) : segL l i t = s :: segL l (i + 1) t := by
  obtain ⟨hlt, he⟩ := List.getElem?_eq_some_iff.1 h
  unfold segL
  rw [List.drop_eq_getElem_cons hlt, he, show t + 1 - i = (t + 1 - (i + 1)) + 1 by omega, List.take_succ_cons]
theorem segL_nil (l : List (Int × Int)) (t : Nat) : segL l (t + 1) t = [] := by simp [segL]

set_option maxRecDepth 100000 in
set_option maxHeartbeats 4000000 in
theorem stuck_any (B : Nat) (ao : Option Addr) (cap : Nat) (d : Dye) (lo : Option Addr) (lcap : Nat) (l : List (Int × Int)) (fr t : Nat) (w : World) (hd : dieB d = true) (hsb : stintsB l = true) (hI : InB B w ao d lo l) (hft : fr ≤ t) (ht : t < l.length) :
    Calls Tryd.prog 36 #[dyV ao d.bl.length cap d, .slice lo l.length lcap, .int .i64 fr, .int .i64 t] w fun e w' => e = .returned (failV (stuckR d (segL l fr t))) ∧ Mod noB w w' := by
  obtain ⟨⟨l1, l5⟩, hbs, ⟨db1, db2⟩, _, _⟩ := dieB_parts hd
  have hll : l.length ≤ 7 := by simp [stintsB] at hsb; omega
  have hls : ∀ s ∈ l, stintB s = true := by
    simp only [stintsB, Bool.and_eq_true, List.all_eq_true] at hsb; exact hsb.2
  have hsm := hI.bl.small
  have HF := Hold.mk (show Kept (w.alloc (.cells (dyC ao d.bl.length cap d) 24)) (fun W => W.heap[w.heap.size]? = some (.cells (dyC ao d.bl.length cap d) 24) ∧ InB B W ao d lo l ∧ Mod noB w W) from fun W h => by
    have hm := ((Mod.refl noB w).alloc _).trans h
    exact ⟨h.at (World.alloc_heap_new w _) id, hI.mod hm, hm⟩)
  have HL := Hold.mk hls
  have HB := Hold.mk hd
  clear hI hd hsb hls hbs
  go_enter Tryd.func36, Tryd.ntmps36
  go_wp2
  generalize w.alloc (.cells (dyC ao d.bl.length cap d) 24) = W0 at *
  go_loopw [10] (fun j W => ∃ m : Nat, m ≤ d.bl.length ∧ j = .int .i64 m ∧ (∀ k, k < m → stuckAt d k 0 (segL l fr t) = false) ∧ Mod noB W0 W) (fun j _ => d.bl.length - (intOf j).toNat)
  case atStart => exact ⟨0, Nat.zero_le _, rfl, fun k hk => absurd hk (Nat.not_lt_zero _), Mod.refl _ _⟩
  case round =>
    obtain ⟨m, hm5, rfl, hfs, hmm⟩ := hrel
    have HFS := Hold.mk hfs
    have HW := Hold.mk (HF.out.later hmm)
    have HM := Hold.mk hmm
    have ga := cellsAt HW.out.now.1 0
    clear hfs hmm
    by_cases hlt : m < d.bl.length
    · go_wp2
      generalize wr = W1 at *
      clear ga
      go_loopw [11, 12] (fun r j W => ∃ (i : Nat) (x : Int), fr ≤ i ∧ i ≤ t + 1 ∧ j = .int .i64 i ∧ r = .int .i64 x ∧ 0 ≤ x ∧ x ≤ (i : Nat) * 1000 ∧ stuckAt d m 0 (segL l fr t) = stuckAt d m x (segL l i t) ∧ Mod noB W1 W) (fun _ j _ => t + 1 - (intOf j).toNat)
      case atStart => exact ⟨fr, 0, Nat.le_refl _, by omega, rfl, rfl, by omega, by omega, rfl, Mod.refl _ _⟩
      case round =>
        obtain ⟨i, x, hfi, hit, rfl, rfl, x0, x1, hst, hmm⟩ := hrel
        have HX := Hold.mk hst
        have HW2 := Hold.mk (HW.out.later hmm)
        have HM2 := Hold.mk hmm
        clear hst hmm
        by_cases hlt2 : i ≤ t
        · obtain ⟨⟨st, mo⟩, hs⟩ : ∃ s, l[i]? = some s := ⟨_, List.getElem?_eq_getElem (by omega)⟩
          have hstb := HL.out _ (List.mem_of_getElem? hs)
          have hsb : (1 ≤ st ∧ st ≤ 1000) ∧ 0 ≤ mo ∧ mo ≤ 100000 := by simpa [stintB, fromB, Bool.and_eq_true] using hstb
          obtain ⟨sb, soff, hlo, hsb1, q0, q1⟩ := HW2.out.now.2.1.st.stint hs
          subst hlo
          have hsb2 : sb < wr.heap.size := Nat.lt_of_lt_of_le hsb1 HW2.out.now.2.1.le
          have hmI : (m : Int) < (d.bl.length : Int) := by omega
          have hiI : (i : Int) < (l.length : Int) := by omega
          have hiT : (i : Int) ≤ (t : Int) := by omega
          have HS := Hold.mk (segL_cons hs hlt2)
          have FIN : Hold (∀ W', Mod noB wr W' → (W'.heap[w.heap.size]? = some (.cells (dyC ao d.bl.length cap d) 24) ∧ B ≤ W'.heap.size ∧ BladesAt B W' ao d.bl) ∧ W'.cell? ⟨sb, soff + i * 2 + 1, none⟩ = some (.int .i64 mo)) := ⟨fun W' h => ⟨⟨(HW2.out.later h).now.1, (HW2.out.later h).now.2.1.le, (HW2.out.later h).now.2.1.bl⟩, (cell_same (h.block sb hsb2 id) _).trans q1⟩⟩
          obtain ⟨y, hy⟩ : ∃ y, x + st = y := ⟨_, rfl⟩
          have hxy : IntKind.i64.wrap (x + st) = y := by rw [hy]; exact IntWalk.i64_in _ (by omega)
          have hyb : 0 ≤ y ∧ y ≤ 9000 := by omega
          have hyb2 : y ≤ ((i + 1 : Nat) : Int) * 1000 := by omega
          have H44 : Hold (∀ W, B ≤ W.heap.size → BladesAt B W ao d.bl → Calls Tryd.prog 44 #[dyV ao d.bl.length cap d, .int .i64 m, .int .i64 y] W fun e w' => e = .returned (.int .i64 (mostV (bladeAt d m) y)) ∧ Mod noB W w') := ⟨fun W h1 h2 => refWorst_any B ao cap d m y W h1 h2 HB.out hlt (by omega)⟩
          have HSY : Hold (stuckAt d m x ((st, mo) :: segL l (i + 1) t) = (decide (d.bound + mo < mostV (bladeAt d m) y) || stuckAt d m y (segL l (i + 1) t))) := ⟨by rw [← hy]; rfl⟩
          have hv : IntKind.i64.wrap (d.bound + mo) = d.bound + mo := IntWalk.i64_in _ (by omega)
          have HY := Hold.mk hy
          clear hs hstb q1 hsb1
          generalize mostV (bladeAt d m) y = mv at *
          go_wp2
          refine region_quietP (by kernel_rfl) (by kernel_rfl) (fun W' => Mod noB wr W') ((Mod.refl _ _).drew) ?_
          repeat
            (first
              | go_big_quiet_skip
              | (go_big_quiet_want
                 go_simp
                 first
                   | go_big_quiet_on
                   | (apply Exists.intro
                      refine ⟨fun W' hC => ?_, ?_⟩
                      · obtain ⟨⟨gd, gl, gb⟩, c5⟩ := FIN.out W' hC
                        have c0 := cellsAt gd 0; have c1 := cellsAt gd 1; have c2 := cellsAt gd 2; have c3 := cellsAt gd 3
                        first
                          | (go_at_call 44; (with_reducible refine (H44.out _ gl gb).mono ?_); exact fun e w'' he => ⟨he.1, hC.trans he.2⟩)
                          | with_reducible rfl
                          | (clear gd gl gb; go_simp; first | rfl | exact ⟨rfl, rfl⟩)
                      go_big_quiet_on)
                   | (refine ⟨⟨_, fun _ _ => rfl⟩, ?_⟩; go_big_quiet_on)))
          refine wpQuiet_nil ?_
          intro Wq hq
          have HMq := Hold.mk (HM2.out.trans hq)
          have HWq := Hold.mk (HW2.out.later hq)
          clear hq
          by_cases hfl : d.bound + mo < mv
          · have HD : Hold (stuckR d (segL l fr t) = some m) := ⟨by
              unfold stuckR
              rw [List.find?_range_eq_some]
              refine ⟨?_, by simpa using hlt, fun j hj => by simp [HFS.out j hj]⟩
              rw [HX.out, HS.out, HSY.out]; simp [hfl]⟩
            go_wp2
            exact bodyPost_ret (v := .tuple #[.int .i64 m, .bool true]) (by simp [results, Tryd.results36, go_sem]) rfl ⟨by rw [HD.out]; rfl, HWq.out.now.2.2⟩
          · have HD : Hold (stuckAt d m 0 (segL l fr t) = stuckAt d m y (segL l (i + 1) t)) := ⟨by rw [HX.out, HS.out, HSY.out]; simp [hfl]⟩
            go_wp2
            go_roundw
            case rel => exact ⟨i + 1, y, by omega, by omega, by go_num, rfl, by omega, hyb2, HD.out, HMq.out⟩
            case measure => simp [intOf]; omega
        · obtain rfl : i = t + 1 := by omega
          have HD : Hold (stuckAt d m 0 (segL l fr t) = false) := ⟨by rw [HX.out, segL_nil]; rfl⟩
          have hnt : ¬ (((t + 1 : Nat) : Int) ≤ (t : Int)) := by omega
          go_wp2
          go_roundw
          case rel => exact ⟨m + 1, by omega, by go_num, fun k hk => by
            rcases Nat.lt_succ_iff_lt_or_eq.1 hk with h | rfl
            · exact HFS.out k h
            · exact HD.out, HM.out.trans HM2.out⟩
          case measure => simp [intOf]; omega
    · obtain rfl : m = d.bl.length := by omega
      have HD : Hold (stuckR d (segL l fr t) = none) := ⟨by
        unfold stuckR
        rw [List.find?_eq_none]
        intro j hj
        simp [HFS.out j (List.mem_range.1 hj)]⟩
      go_wp2
      exact bodyPost_ret (v := .tuple #[.int .i64 0, .bool false]) (by simp [results, Tryd.results36, go_sem]) rfl ⟨by rw [HD.out]; rfl, HW.out.now.2.2⟩
end Go.Proofs.YtdncppempgpooaaDoor

/- Several texts in one (a claim holds at most 60 files): each has its own words ahead of it. -/
import Derived.Test.YtogalmkeipigeaaRefS
import Derived.BigQuiet
import Derived.Test.YtogalmkeipigeaaMnS
import Derived.Laws.AppendOwnNone
set_option linter.unusedSimpArgs false
set_option linter.unusedVariables false

/- The document's inside and Goes: is a cell in a rectangle; does a line go through one, so that no piece has cells on both sides? -/
namespace Go.Proofs.Ytogalmkeipigeaa
open Go.RowKit

def insB (W i x0 y0 x1 y1 : Nat) : Bool := (decide (x0 ≤ i % W) && decide (i % W < x1)) && (decide (y0 ≤ i / W) && decide (i / W < y1))

set_option maxRecDepth 100000 in
set_option maxHeartbeats 1000000 in
theorem refIn_any (W : Nat) (H : Int) (ao : Option Addr) (n cap : Nat) (i x0 y0 x1 y1 : Nat) (hW : 1 ≤ W) (hW2 : W ≤ 12) (hi : i ≤ 1000) (hx1 : x1 ≤ 1000) (hy1 : y1 ≤ 1000) (w : World) :
    Calls Try.prog 60 #[cutV W H ao n cap, .int .i64 i, .int .i64 x0, .int .i64 y0, .int .i64 x1, .int .i64 y1] w fun e w' => e = .returned (.bool (insB W i x0 y0 x1 y1)) ∧ Mod noB w w' := by
  obtain ⟨x, hx⟩ : ∃ x, i % W = x := ⟨_, rfl⟩
  obtain ⟨y, hy⟩ : ∃ y, i / W = y := ⟨_, rfl⟩
  have hWpos : (0 : Int) < (W : Int) := by omega
  have hW0 : ¬ (W = 0) := by omega
  have htm : (i : Int).tmod (W : Int) = (x : Int) := by rw [Int.tmod_eq_emod_of_nonneg (by omega), ← hx]; rfl
  have htd : (i : Int).tdiv (W : Int) = (y : Int) := by rw [Int.tdiv_eq_ediv_of_nonneg (by omega), ← hy]; rfl
  have hxW : x < W := by rw [← hx]; exact Nat.mod_lt _ (by omega)
  have hyi : y ≤ i := by rw [← hy]; exact Nat.div_le_self _ _
  have HB : Hold (insB W i x0 y0 x1 y1 = ((decide (x0 ≤ x) && decide (x < x1)) && (decide (y0 ≤ y) && decide (y < y1)))) := ⟨by rw [insB, hx, hy]⟩
  clear hx hy
  by_cases c1 : x0 ≤ x ∧ x < x1
  · have Hin := Hold.mk (in_is x x0 ((x1 : Int) - 1) true (by simp; omega))
    have H1 : Hold ((decide (x0 ≤ x) && decide (x < x1)) = true) := ⟨by simp; exact c1⟩
    obtain ⟨b, hb⟩ : ∃ b, (decide (y0 ≤ y) && decide (y < y1)) = b := ⟨_, rfl⟩
    have H2 := Hold.mk hb
    have Hin2 := Hold.mk (in_is y y0 ((y1 : Int) - 1) b (by rw [← hb]; by_cases q1 : y0 ≤ y <;> by_cases q2 : y < y1 <;> simp [q1, q2] <;> omega))
    clear hb c1
    go_enter Try.func60, Try.ntmps60
    go_wp2_with (first
      | (go_at_call 59; refine (Hin.out _).mono ?_; rintro e w' ⟨rfl, rfl⟩; clear Hin)
      | (go_at_call 59; refine (Hin2.out _).mono ?_; rintro e w' ⟨rfl, rfl⟩))
    go_ret
    exact ⟨by rw [HB.out, H1.out, H2.out]; rfl, (Mod.refl _ _).alloc _⟩
  · have Hin := Hold.mk (in_is x x0 ((x1 : Int) - 1) false (by simp; omega))
    have H1 : Hold ((decide (x0 ≤ x) && decide (x < x1)) = false) := ⟨by simp; omega⟩
    clear c1
    go_enter Try.func60, Try.ntmps60
    go_wp2_with (go_at_call 59; refine (Hin.out _).mono ?_; rintro e w' ⟨rfl, rfl⟩; clear Hin)
    go_ret
    exact ⟨by rw [HB.out, H1.out]; rfl, (Mod.refl _ _).alloc _⟩

def crossB (W : Nat) (u : Bool) (q i k : Nat) : Bool := if u then decide (i % W < q) && decide (q ≤ k % W) else decide (i / W < q) && decide (q ≤ k / W)
def badB (W : Nat) (zs : List Int) (x0 y0 x1 y1 : Nat) (u : Bool) (q i k : Nat) : Bool :=
  ((decide (zs[i]?.getD 0 = zs[k]?.getD 0) && insB W i x0 y0 x1 y1) && insB W k x0 y0 x1 y1) && crossB W u q i k
/-- What the document's Goes returns. -/
def goesD (W : Nat) (zs : List Int) (x0 y0 x1 y1 : Nat) (u : Bool) (q : Nat) : Bool := (List.range zs.length).all fun i => (List.range zs.length).all fun k => !badB W zs x0 y0 x1 y1 u q i k
theorem goesD_yes {W : Nat} {zs : List Int} {x0 y0 x1 y1 : Nat} {u : Bool} {q : Nat} (h : ∀ i, i < zs.length → ∀ k, k < zs.length → badB W zs x0 y0 x1 y1 u q i k = false) : goesD W zs x0 y0 x1 y1 u q = true := by
  unfold goesD
  simp only [List.all_eq_true, List.mem_range, Bool.not_eq_true']
  exact h
theorem goesD_no {W : Nat} {zs : List Int} {x0 y0 x1 y1 : Nat} {u : Bool} {q i k : Nat} (hi : i < zs.length) (hk : k < zs.length) (h : badB W zs x0 y0 x1 y1 u q i k = true) : goesD W zs x0 y0 x1 y1 u q = false := by
  cases e : goesD W zs x0 y0 x1 y1 u q with
  | false => rfl
  | true =>
    unfold goesD at e
    simp only [List.all_eq_true, List.mem_range, Bool.not_eq_true'] at e
    rw [e i hi k hk] at h
    cases h

theorem IntsAt.cell {w : World} {b off : Nat} {zs : List Int} (h : IntsAt w (some ⟨b, off, none⟩) zs) {j : Nat} (hj : j < zs.length) : w.cell? ⟨b, off + j, none⟩ = some (.int .i64 (zs[j]?.getD 0)) := by
  obtain ⟨b', off', e, _, hc⟩ := h.lies (fun e => by simp [e] at hj)
  simp only [Option.some.injEq, Addr.mk.injEq, and_true] at e
  obtain ⟨rfl, rfl⟩ := e
  exact hc j hj

set_option maxRecDepth 100000 in
set_option maxHeartbeats 8000000 in
theorem refGoes_any {W H : Nat} {zs : List Int} (C : CutN W H zs) (ao : Option Addr) (cap : Nat) (x0 y0 x1 y1 : Nat) (u : Bool) (q : Nat) (hx1 : x1 ≤ 1000) (hy1 : y1 ≤ 1000) (w : World) (hs : IntsAt w ao zs) :
    Calls Try.prog 35 #[cutV W H ao zs.length cap, .int .i64 x0, .int .i64 y0, .int .i64 x1, .int .i64 y1, .bool u, .int .i64 q] w fun e w' => e = .returned (.bool (goesD W zs x0 y0 x1 y1 u q)) ∧ Mod noB w w' := by
  have HK := Hold.mk (box_facts (W := W) (H := H) (cap := cap) hs)
  have HM0 := Hold.mk ((Mod.refl noB w).alloc (.cells #[.int .i64 W, .int .i64 H, .slice ao zs.length cap] 24))
  have hn : zs.length ≤ 144 := by rw [C.len]; exact Nat.mul_le_mul C.w2 C.h2
  have w1 := C.w1
  have w2 := C.w2
  have HIn : Hold (∀ (i : Nat) (w1 : World), i < zs.length → Calls Try.prog 60 #[cutV W H ao zs.length cap, .int .i64 i, .int .i64 x0, .int .i64 y0, .int .i64 x1, .int .i64 y1] w1 fun e w' => e = .returned (.bool (insB W i x0 y0 x1 y1)) ∧ Mod noB w1 w') :=
    ⟨fun i w1' hi => refIn_any W H ao zs.length cap i x0 y0 x1 y1 w1 w2 (by omega) hx1 hy1 w1'⟩
  have hWpos : (0 : Int) < (W : Int) := by omega
  have hW0 : ¬ (W = 0) := by omega
  clear hs C hx1 hy1
  refine callsIn_wide (n := 3) |>.1 ?_
  refine callsIn_of_wp_marks Try.func35 rfl trivial ?_ rfl
  simp only [Try.ntmps35, List.size_toArray, List.length_cons, List.length_nil, Nat.reduceAdd, Nat.reduceSub, Array.replicate_succ, Array.replicate_zero, List.push_toArray, List.append_toArray, List.nil_append, List.cons_append]
  gi_wp2
  obtain ⟨W1, hW1⟩ : ∃ W1, w.alloc (.cells #[.int .i64 W, .int .i64 H, .slice ao zs.length cap] 24) = W1 := ⟨_, rfl⟩
  rw [hW1] at HK HM0 ⊢
  clear hW1
  gi_loopw [15] (fun i wr => ∃ ii : Nat, i = .int .i64 ii ∧ ii ≤ zs.length ∧ Hold (∀ j, j < ii → ∀ k, k < zs.length → badB W zs x0 y0 x1 y1 u q j k = false) ∧ Mod noB W1 wr) (fun i _ => zs.length - (intOf i).toNat)
  case atStart => exact ⟨0, rfl, Nat.zero_le _, ⟨fun j hj => by omega⟩, Mod.refl _ _⟩
  case round =>
    obtain ⟨ii, rfl, hii, HJ, hmr⟩ := hrel
    obtain ⟨c0, c1, c2, _⟩ := HK.out _ hmr
    have HMr := Hold.mk hmr
    clear hmr
    by_cases hlt : ii < zs.length
    · gi_wp2
      clear c0 c1 c2
      gi_loopw [16] (fun k wr => ∃ kk : Nat, k = .int .i64 kk ∧ kk ≤ zs.length ∧ Hold (∀ k, k < kk → badB W zs x0 y0 x1 y1 u q ii k = false) ∧ Mod noB W1 wr) (fun k _ => zs.length - (intOf k).toNat)
      case atStart => exact ⟨0, rfl, Nat.zero_le _, ⟨fun j hj => by omega⟩, HMr.out⟩
      case round =>
        obtain ⟨kk, rfl, hkk, HJ2, hmr2⟩ := hrel
        obtain ⟨c0, c1, c2, hI⟩ := HK.out _ hmr2
        have HMr2 := Hold.mk hmr2
        by_cases hltk : kk < zs.length
        · obtain ⟨bi, off, rfl, _, hc⟩ := hI.lies (fun e => by simp [e] at hlt)
          clear hI hmr2 hc
          have FIN : Hold (∀ W', Mod noB wr W' → W'.cell? ⟨w.heap.size, 0, none⟩ = some (.int .i64 W) ∧ W'.cell? ⟨w.heap.size, 1, none⟩ = some (.int .i64 H) ∧ W'.cell? ⟨w.heap.size, 2, none⟩ = some (.slice (some ⟨bi, off, none⟩) zs.length cap) ∧
              W'.cell? ⟨bi, off + ii, none⟩ = some (.int .i64 (zs[ii]?.getD 0)) ∧ W'.cell? ⟨bi, off + kk, none⟩ = some (.int .i64 (zs[kk]?.getD 0))) := ⟨fun W' h => by
            obtain ⟨c0, c1, c2, hI⟩ := HK.out _ (HMr2.out.trans h)
            exact ⟨c0, c1, c2, hI.cell hlt, hI.cell hltk⟩⟩
          obtain ⟨b0, hb0⟩ : ∃ b0, badB W zs x0 y0 x1 y1 u q ii kk = b0 := ⟨_, rfl⟩
          obtain ⟨cr, hcr⟩ : ∃ cr, crossB W u q ii kk = cr := ⟨_, rfl⟩
          have HB0 := Hold.mk hb0
          unfold badB at hb0
          rw [hcr] at hb0
          generalize zs[ii]?.getD 0 = zi at *
          generalize zs[kk]?.getD 0 = zk at *
          have hcase : ((zi != zk) = true ∧ b0 = false) ∨ ((zi != zk) = false ∧ insB W ii x0 y0 x1 y1 = false ∧ b0 = false) ∨ ((zi != zk) = false ∧ insB W ii x0 y0 x1 y1 = true ∧ insB W kk x0 y0 x1 y1 = false ∧ b0 = false) ∨ ((zi != zk) = false ∧ insB W ii x0 y0 x1 y1 = true ∧ insB W kk x0 y0 x1 y1 = true ∧ b0 = cr) := by
            subst hb0
            by_cases e : zi = zk
            · cases insB W ii x0 y0 x1 y1 <;> cases insB W kk x0 y0 x1 y1 <;> simp [e]
            · simp [e]
          have HCR := Hold.mk hcr
          clear hb0 hcr
          rcases hcase with ⟨hv1, hb0⟩ | ⟨hv1, hv2, hb0⟩ | ⟨hv1, hv2, hv3, hb0⟩ | ⟨hv1, hv2, hv3, hb0⟩
          rotate_left 3
          all_goals
            have HBF := Hold.mk (HB0.out.trans hb0)
            clear hb0 HB0
            gi_wp2
            clear c0 c1 c2
            refine region_quietC (fun _ => trivial) rfl wide_call mixed (by kernel_rfl) (by kernel_rfl) (fun W' => Mod noB wr W') ((Mod.refl _ _).drew) ?_
            repeat
              (first
                | go_big_quiet_skip
                | (go_big_quiet_want
                   go_simp
                   first
                     | go_big_quiet_on
                     | (apply Exists.intro
                        refine ⟨fun W' hC => ?_, ?_⟩
                        · obtain ⟨f0, f1, f2, f3, f4⟩ := FIN.out W' hC
                          first
                            | (go_at_call 60; refine (HIn.out _ _ (by assumption)).mono fun e w'' he => ⟨he.1, hC.trans he.2⟩)
                            | with_reducible rfl
                            | (go_simp; first | rfl | exact ⟨rfl, rfl⟩)
                        go_big_quiet_on)))
            refine wpQuiet_nil ?_
            intro Wq hq
            obtain ⟨c0, c1, c2, _⟩ := FIN.out Wq hq
            have HMq := Hold.mk (HMr2.out.trans hq)
            clear hq FIN
          rotate_left 1
          · gi_wp2
            go_roundw
            case rel => exact ⟨kk + 1, by go_num, by omega, ⟨fun j hj => by
              by_cases e : j = kk
              · subst e; exact HBF.out
              · exact HJ2.out j (by omega)⟩, HMq.out⟩
            case measure => simp [intOf]; omega
          · gi_wp2
            go_roundw
            case rel => exact ⟨kk + 1, by go_num, by omega, ⟨fun j hj => by
              by_cases e : j = kk
              · subst e; exact HBF.out
              · exact HJ2.out j (by omega)⟩, HMq.out⟩
            case measure => simp [intOf]; omega
          · gi_wp2
            go_roundw
            case rel => exact ⟨kk + 1, by go_num, by omega, ⟨fun j hj => by
              by_cases e : j = kk
              · subst e; exact HBF.out
              · exact HJ2.out j (by omega)⟩, HMq.out⟩
            case measure => simp [intOf]; omega
          · cases u with
            | true =>
              obtain ⟨xi, hxi⟩ : ∃ xi, ii % W = xi := ⟨_, rfl⟩
              obtain ⟨xk, hxk⟩ : ∃ xk, kk % W = xk := ⟨_, rfl⟩
              have ht1 : (ii : Int).tmod (W : Int) = (xi : Int) := by rw [Int.tmod_eq_emod_of_nonneg (by omega), ← hxi]; rfl
              have ht2 : (kk : Int).tmod (W : Int) = (xk : Int) := by rw [Int.tmod_eq_emod_of_nonneg (by omega), ← hxk]; rfl
              have hl1 : xi ≤ ii := by rw [← hxi]; exact Nat.mod_le _ _
              have hl2 : xk ≤ kk := by rw [← hxk]; exact Nat.mod_le _ _
              have HX : Hold (badB W zs x0 y0 x1 y1 true q ii kk = (decide (xi < q) && decide (q ≤ xk))) := ⟨HBF.out.trans (by rw [← HCR.out, ← hxi, ← hxk]; rfl)⟩
              clear hxi hxk HBF HCR
              by_cases d1 : (xi : Int) < (q : Int)
              · by_cases d2 : (q : Int) ≤ (xk : Int)
                · have HBT : Hold (badB W zs x0 y0 x1 y1 true q ii kk = true) := ⟨by rw [HX.out]; simp; omega⟩
                  gi_wp2
                  refine ⟨_, results_tmp rfl _ _ _, ?_, HM0.out.trans HMq.out⟩
                  rw [goesD_no hlt hltk HBT.out]
                  rfl
                · have HBT : Hold (badB W zs x0 y0 x1 y1 true q ii kk = false) := ⟨by rw [HX.out]; simp; omega⟩
                  gi_wp2
                  go_roundw
                  case rel => exact ⟨kk + 1, by go_num, by omega, ⟨fun j hj => by
                    by_cases e : j = kk
                    · subst e; exact HBT.out
                    · exact HJ2.out j (by omega)⟩, HMq.out⟩
                  case measure => simp [intOf]; omega
              · have HBT : Hold (badB W zs x0 y0 x1 y1 true q ii kk = false) := ⟨by rw [HX.out]; simp; omega⟩
                gi_wp2
                go_roundw
                case rel => exact ⟨kk + 1, by go_num, by omega, ⟨fun j hj => by
                  by_cases e : j = kk
                  · subst e; exact HBT.out
                  · exact HJ2.out j (by omega)⟩, HMq.out⟩
                case measure => simp [intOf]; omega
            | false =>
              obtain ⟨xi, hxi⟩ : ∃ xi, ii / W = xi := ⟨_, rfl⟩
              obtain ⟨xk, hxk⟩ : ∃ xk, kk / W = xk := ⟨_, rfl⟩
              have ht1 : (ii : Int).tdiv (W : Int) = (xi : Int) := by rw [Int.tdiv_eq_ediv_of_nonneg (by omega), ← hxi]; rfl
              have ht2 : (kk : Int).tdiv (W : Int) = (xk : Int) := by rw [Int.tdiv_eq_ediv_of_nonneg (by omega), ← hxk]; rfl
              have hl1 : xi ≤ ii := by rw [← hxi]; exact Nat.div_le_self _ _
              have hl2 : xk ≤ kk := by rw [← hxk]; exact Nat.div_le_self _ _
              have HX : Hold (badB W zs x0 y0 x1 y1 false q ii kk = (decide (xi < q) && decide (q ≤ xk))) := ⟨HBF.out.trans (by rw [← HCR.out, ← hxi, ← hxk]; rfl)⟩
              clear hxi hxk HBF HCR
              by_cases d1 : (xi : Int) < (q : Int)
              · by_cases d2 : (q : Int) ≤ (xk : Int)
                · have HBT : Hold (badB W zs x0 y0 x1 y1 false q ii kk = true) := ⟨by rw [HX.out]; simp; omega⟩
                  gi_wp2
                  refine ⟨_, results_tmp rfl _ _ _, ?_, HM0.out.trans HMq.out⟩
                  rw [goesD_no hlt hltk HBT.out]
                  rfl
                · have HBT : Hold (badB W zs x0 y0 x1 y1 false q ii kk = false) := ⟨by rw [HX.out]; simp; omega⟩
                  gi_wp2
                  go_roundw
                  case rel => exact ⟨kk + 1, by go_num, by omega, ⟨fun j hj => by
                    by_cases e : j = kk
                    · subst e; exact HBT.out
                    · exact HJ2.out j (by omega)⟩, HMq.out⟩
                  case measure => simp [intOf]; omega
              · have HBT : Hold (badB W zs x0 y0 x1 y1 false q ii kk = false) := ⟨by rw [HX.out]; simp; omega⟩
                gi_wp2
                go_roundw
                case rel => exact ⟨kk + 1, by go_num, by omega, ⟨fun j hj => by
                  by_cases e : j = kk
                  · subst e; exact HBT.out
                  · exact HJ2.out j (by omega)⟩, HMq.out⟩
                case measure => simp [intOf]; omega
        · obtain rfl : kk = zs.length := by omega
          clear hI hmr2
          gi_wp2
          go_roundw
          case rel => exact ⟨ii + 1, by go_num, by omega, ⟨fun j hj => by
            by_cases e : j = ii
            · subst e; exact HJ2.out
            · exact HJ.out j (by omega)⟩, HMr2.out⟩
          case measure => simp [intOf]; omega
    · obtain rfl : ii = zs.length := by omega
      gi_wp2
      refine ⟨_, results_tmp rfl _ _ _, ?_, HM0.out.trans HMr.out⟩
      rw [goesD_yes HJ.out]
      rfl
end Go.Proofs.Ytogalmkeipigeaa

/- The document's Goes and that of the saw are the same. -/
namespace Go.Proofs.Ytogalmkeipigeaa
open Go.RowKit

theorem cellsL_of_box {lt tp rt bt x y : Nat} (h1 : lt ≤ x) (h2 : x < rt) (h3 : tp ≤ y) (h4 : y < bt) : ((x : Int), (y : Int)) ∈ cellsL lt tp rt bt := by
  simp only [cellsL, List.mem_map, List.mem_range]
  refine ⟨(y - tp) * (rt - lt) + (x - lt), ?_, ?_⟩
  · have : (y - tp + 1) * (rt - lt) ≤ (bt - tp) * (rt - lt) := Nat.mul_le_mul_right _ (by omega)
    rw [Nat.succ_mul] at this
    omega
  · have e1 : ((y - tp) * (rt - lt) + (x - lt)) % (rt - lt) = x - lt := by
      rw [Nat.mul_comm, Nat.mul_add_mod]; exact Nat.mod_eq_of_lt (by omega)
    have e2 : ((y - tp) * (rt - lt) + (x - lt)) / (rt - lt) = y - tp := by
      rw [Nat.mul_comm, Nat.mul_add_div (by omega), Nat.div_eq_of_lt (by omega)]; rfl
    rw [e1, e2]
    exact Prod.ext (by simp only; omega) (by simp only; omega)
theorem insB_iff {W i x0 y0 x1 y1 : Nat} : insB W i x0 y0 x1 y1 = true ↔ (x0 ≤ i % W ∧ i % W < x1) ∧ y0 ≤ i / W ∧ i / W < y1 := by
  simp only [insB, Bool.and_eq_true, decide_eq_true_eq]
theorem numbersL_mem {W H : Nat} {zs : List Int} (C : CutN W H zs) {lt tp rt bt : Nat} (hr : rt ≤ W) (hb : bt ≤ H) (n : Int) :
    n ∈ numbersL (laidG W zs zs.length) lt tp rt bt ↔ ∃ i, i < zs.length ∧ zs[i]?.getD 0 = n ∧ insB W i lt tp rt bt = true := by
  unfold numbersL
  rw [List.mem_map]
  constructor
  · rintro ⟨p, hp, rfl⟩
    obtain ⟨b1, b2, b3, b4⟩ := cellsL_box hp
    obtain ⟨i, hi, rfl⟩ := C.of_in (p := p) ⟨by omega, by omega, by omega, by omega⟩
    refine ⟨i, hi, (C.gi hi).symm, insB_iff.2 ?_⟩
    simp only [cellOf] at b1 b2 b3 b4
    omega
  · rintro ⟨i, hi, rfl, h⟩
    obtain ⟨⟨b1, b2⟩, b3, b4⟩ := insB_iff.1 h
    exact ⟨cellOf W i, cellsL_of_box b1 b2 b3 b4, C.gi hi⟩

theorem goesD_iff {W : Nat} {zs : List Int} {x0 y0 x1 y1 : Nat} {u : Bool} {q : Nat} : goesD W zs x0 y0 x1 y1 u q = true ↔ ∀ i, i < zs.length → ∀ k, k < zs.length → badB W zs x0 y0 x1 y1 u q i k = false := by
  unfold goesD
  simp only [List.all_eq_true, List.mem_range, Bool.not_eq_true']
theorem goesB_iff {g : Int × Int → Option Int} {a b c d e f i j : Nat} : goesB g a b c d e f i j = true ↔ ∀ n, n ∈ numbersL g e f i j → n ∉ numbersL g a b c d := by
  unfold goesB
  simp only [List.all_eq_true, Bool.not_eq_true', decide_eq_false_iff_not]
theorem goes_across {W H : Nat} {zs : List Int} (C : CutN W H zs) {lt tp rt bt y : Nat} (hr : rt ≤ W) (hb : bt ≤ H) (h1 : tp ≤ y) (h2 : y ≤ bt) :
    goesB (laidG W zs zs.length) lt tp rt y lt y rt bt = goesD W zs lt tp rt bt false y := by
  rw [Bool.eq_iff_iff, goesB_iff, goesD_iff]
  constructor
  · intro h i hi k hk
    cases hbd : badB W zs lt tp rt bt false y i k with
    | false => rfl
    | true =>
      simp only [badB, crossB, Bool.and_eq_true, decide_eq_true_eq, Bool.false_eq_true, if_false] at hbd
      obtain ⟨⟨⟨e, hi2⟩, hk2⟩, hc1, hc2⟩ := hbd
      rw [insB_iff] at hi2 hk2
      exact absurd ((numbersL_mem C hr (by omega) _).2 ⟨i, hi, e, insB_iff.2 (by omega)⟩) (h _ ((numbersL_mem C hr hb _).2 ⟨k, hk, rfl, insB_iff.2 (by omega)⟩))
  · intro h n hn hn2
    obtain ⟨k, hk, rfl, hk2⟩ := (numbersL_mem C hr hb _).1 hn
    obtain ⟨i, hi, e, hi2⟩ := (numbersL_mem C hr (by omega) _).1 hn2
    rw [insB_iff] at hi2 hk2
    have := h i hi k hk
    have hbt : badB W zs lt tp rt bt false y i k = true := by
      simp only [badB, crossB, Bool.and_eq_true, decide_eq_true_eq, Bool.false_eq_true, if_false]
      exact ⟨⟨⟨e, insB_iff.2 (by omega)⟩, insB_iff.2 (by omega)⟩, by omega, by omega⟩
    rw [hbt] at this; cases this
theorem goes_upright {W H : Nat} {zs : List Int} (C : CutN W H zs) {lt tp rt bt x : Nat} (hr : rt ≤ W) (hb : bt ≤ H) (h1 : lt ≤ x) (h2 : x ≤ rt) :
    goesB (laidG W zs zs.length) lt tp x bt x tp rt bt = goesD W zs lt tp rt bt true x := by
  rw [Bool.eq_iff_iff, goesB_iff, goesD_iff]
  constructor
  · intro h i hi k hk
    cases hbd : badB W zs lt tp rt bt true x i k with
    | false => rfl
    | true =>
      simp only [badB, crossB, Bool.and_eq_true, decide_eq_true_eq, if_true] at hbd
      obtain ⟨⟨⟨e, hi2⟩, hk2⟩, hc1, hc2⟩ := hbd
      rw [insB_iff] at hi2 hk2
      exact absurd ((numbersL_mem C (by omega) hb _).2 ⟨i, hi, e, insB_iff.2 (by omega)⟩) (h _ ((numbersL_mem C hr hb _).2 ⟨k, hk, rfl, insB_iff.2 (by omega)⟩))
  · intro h n hn hn2
    obtain ⟨k, hk, rfl, hk2⟩ := (numbersL_mem C hr hb _).1 hn
    obtain ⟨i, hi, e, hi2⟩ := (numbersL_mem C (by omega) hb _).1 hn2
    rw [insB_iff] at hi2 hk2
    have := h i hi k hk
    have hbt : badB W zs lt tp rt bt true x i k = true := by
      simp only [badB, crossB, Bool.and_eq_true, decide_eq_true_eq, if_true]
      exact ⟨⟨⟨e, insB_iff.2 (by omega)⟩, insB_iff.2 (by omega)⟩, by omega, by omega⟩
    rw [hbt] at this; cases this

/-- Are all cells of a block of one piece: that of its first cell? -/
def oneD (W : Nat) (zs : List Int) (x0 y0 x1 y1 : Nat) (a : Int) : Bool := (List.range zs.length).all fun i => !insB W i x0 y0 x1 y1 || decide (zs[i]?.getD 0 = a)
theorem one_whole {W H : Nat} {zs : List Int} (C : CutN W H zs) {lt tp rt bt : Nat} (h1 : lt < rt) (h2 : tp < bt) (hr : rt ≤ W) (hb : bt ≤ H) :
    wholeB (numbersL (laidG W zs zs.length) lt tp rt bt) = oneD W zs lt tp rt bt (atG (laidG W zs zs.length) ((lt : Int), (tp : Int))) := by
  have hmem : atG (laidG W zs zs.length) ((lt : Int), (tp : Int)) ∈ numbersL (laidG W zs zs.length) lt tp rt bt := by
    unfold numbersL
    exact List.mem_map.2 ⟨_, cellsL_of_box (Nat.le_refl _) h1 (Nat.le_refl _) h2, rfl⟩
  rw [Bool.eq_iff_iff, wholeB_iff]
  simp only [oneD, List.all_eq_true, List.mem_range, Bool.or_eq_true, Bool.not_eq_true', decide_eq_true_eq]
  constructor
  · rintro ⟨_, a, ha⟩ i hi
    cases hins : insB W i lt tp rt bt with
    | false => exact .inl rfl
    | true => exact .inr ((ha _ ((numbersL_mem C hr hb _).2 ⟨i, hi, rfl, hins⟩)).trans (ha _ hmem).symm)
  · intro h
    refine ⟨fun e => (by rw [e] at hmem; cases hmem), atG (laidG W zs zs.length) ((lt : Int), (tp : Int)), fun n hn => ?_⟩
    obtain ⟨i, hi, rfl, hins⟩ := (numbersL_mem C hr hb _).1 hn
    rcases h i hi with h | h
    · rw [hins] at h; cases h
    · exact h
end Go.Proofs.Ytogalmkeipigeaa

/- The document's saw: the lines of a rectangle, and whether it can be sawn. -/
namespace Go.Proofs.Ytogalmkeipigeaa
open Go.RowKit

/-- What the document's saw returns: the lines of a block, and whether it can be sawn. -/
def sawD (g : Int × Int → Option Int) : Nat → Nat → Nat → Nat → Nat → List LineT × Bool
  | 0, _, _, _, _ => ([], false)
  | f + 1, lt, tp, rt, bt => if wholeB (numbersL g lt tp rt bt) then ([], true) else
    match nextL g lt tp rt bt with
    | none => ([], false)
    | some ((u, at', fr, to), (a, b, c, d), (a', b', c', d')) =>
      ((u, (at' : Int), (fr : Int), (to : Int)) :: ((sawD g f a b c d).1 ++ (sawD g f a' b' c' d').1), (sawD g f a b c d).2 && (sawD g f a' b' c' d').2)
theorem sawL_D (g : Int × Int → Option Int) : ∀ f lt tp rt bt : Nat, sawL g f lt tp rt bt = if (sawD g f lt tp rt bt).2 then some (sawD g f lt tp rt bt).1 else none := by
  intro f
  induction f with
  | zero => intro lt tp rt bt; rfl
  | succ f ih =>
    intro lt tp rt bt
    simp only [sawL, sawD]
    by_cases hw : wholeB (numbersL g lt tp rt bt) = true
    · simp only [if_pos hw]; rfl
    · simp only [if_neg hw]
      cases hn : nextL g lt tp rt bt with
      | none => rfl
      | some r =>
        obtain ⟨⟨u, at', fr, to⟩, ⟨a, b, c, d⟩, ⟨a', b', c', d'⟩⟩ := r
        dsimp only
        rw [ih a b c d, ih a' b' c' d']
        by_cases h1 : (sawD g f a b c d).2 = true <;> by_cases h2 : (sawD g f a' b' c' d').2 = true <;> simp [h1, h2]
theorem sawD_len {g : Int × Int → Option Int} : ∀ {f lt tp rt bt : Nat}, lt < rt → tp < bt → (sawD g f lt tp rt bt).1.length + 1 ≤ (rt - lt) * (bt - tp) := by
  intro f
  induction f with
  | zero => intro lt tp rt bt h1 h2; exact Nat.mul_pos (by omega) (by omega)
  | succ f ih =>
    intro lt tp rt bt h1 h2
    simp only [sawD]
    split
    · exact Nat.mul_pos (by omega) (by omega)
    · split
      · exact Nat.mul_pos (by omega) (by omega)
      · rename_i u at' fr to a b c d a' b' c' d' hn
        rcases nextL_in hn with ⟨y, hy1, hy2, e⟩ | ⟨x, hx1, hx2, e⟩
        · simp only [Prod.mk.injEq] at e
          obtain ⟨_, ⟨rfl, rfl, rfl, rfl⟩, rfl, rfl, rfl, rfl⟩ := e
          have q1 := ih h1 hy1
          have q2 := ih h1 hy2
          have q3 := area_h h1 hy1 hy2
          simp only [List.length_cons, List.length_append]
          omega
        · simp only [Prod.mk.injEq] at e
          obtain ⟨_, ⟨rfl, rfl, rfl, rfl⟩, rfl, rfl, rfl, rfl⟩ := e
          have q1 := ih hx1 h2
          have q2 := ih hx2 h2
          have q3 := area_v h2 hx1 hx2
          simp only [List.length_cons, List.length_append]
          omega

/-- A row of the call's own behind which another such row is appended, nil or not. -/
theorem wpList_append_row {P : Program} {w : World} {ops : Array Oper} {rest : List Oper} {o : Oper} {a : Act} {Q : Exit → Act → World → Prop} (hgd : o.guard = none) (s x : Operand) (t : TypeId)
    (ho : o.op = .call { callee := .builtin .append, args := #[s, x], argTypes := #[t, t] })
    (base : Nat) (e : TypeId) (i : TypeInfo) (z : Value) (size bytes : Nat) (ht : P.underlying t = some (.slice e)) (hi : P.info? e = some i) (hz : i.zero = some z)
    (hsize : i.size = size) (hby : i.bytes = bytes) (hzs : z.cells.size = size) (hsz : 0 < size)
    (v : Value) (n : Nat) (xs : List Value) (hs : a.eval s = v) (hown : w.ownsRow base e size v n xs)
    (vx : Value) (base2 m : Nat) (ys : List Value) (hx : a.eval x = vx) (hsrc : w.ownsRow base2 e size vx m ys) (h1 : ∀ u ∈ ys, u.oneCell' = true)
    (h63 : n + m ≤ maxLen) (hbytes : (n + m) * bytes ≤ 140737488355328) (hbase : base ≤ w.heap.size)
    (h : ∀ v' w', w'.ownsRow base e size v' (n + m) (xs ++ ys) → w.grownBy w' v.ownBlock → wpList P ops Q rest (a.put o.dst v') w') : wpList P ops Q (o :: rest) a w := by
  obtain ⟨hl, ⟨rfl, rfl⟩ | ⟨g, cap, cur, rfl, _, hg, hnc, _, hcs, hys⟩⟩ := hsrc
  · have hy : ys = [] := by rw [Nat.zero_mul] at hl; exact List.length_eq_zero_iff.1 hl
    subst hy
    refine wpList_append_own_none hgd s x t ho base e i size ht hi v n xs hs hown hx (h v w ?_ ⟨rfl, rfl, rfl, Nat.le_refl _, fun _ _ _ => rfl⟩)
    rw [List.append_nil]; exact hown
  · refine wpList_append_own w hgd s x t ho base e i z size bytes ht hi hz hsize hby hzs hsz v n xs hs hown ⟨g, 0, none⟩ m cap ys hx hl (fun j u hj => ?_) h1 h63 hbytes hbase (fun v' w' h2 h3 _ => h v' w' h2 h3)
    have ea : Addr.add ⟨g, 0, none⟩ j = ⟨g, j, none⟩ := by simp [Addr.add]; omega
    rw [ea]
    have hjl : j < m * size := by have := (List.getElem?_eq_some_iff.1 hj).1; omega
    rw [← hys, List.getElem?_take, if_pos hjl] at hj
    simp only [World.cell?, hg]
    simpa using hj
theorem lit_own (w : World) (cs : Array Value) (t : TypeId) (size : Nat) (hs : cs.size = size) : (w.alloc (.cells cs t)).ownsRow w.heap.size t size (.slice (some ⟨w.heap.size, 0, none⟩) 1 1) 1 cs.toList :=
  ⟨by simp [hs], .inr ⟨w.heap.size, 1, cs, rfl, Nat.le_refl _, World.alloc_heap_new w _, Nat.le_refl _, by decide, by simp [hs], by rw [Nat.one_mul, ← hs, ← Array.length_toList, List.take_length]⟩⟩
theorem lineCells_one (L : List LineT) : ∀ u ∈ lineCells L, u.oneCell' = true := by
  intro u hu
  unfold lineCells at hu
  rw [List.mem_flatMap] at hu
  obtain ⟨p, _, hp⟩ := hu
  simp only [List.mem_cons, List.not_mem_nil, or_false] at hp
  rcases hp with rfl | rfl | rfl | rfl <;> rfl

def oneTo (W : Nat) (zs : List Int) (x0 y0 x1 y1 : Nat) (a : Int) (n : Nat) : Bool := (List.range n).all fun i => !insB W i x0 y0 x1 y1 || decide (zs[i]?.getD 0 = a)
theorem oneTo_succ (W : Nat) (zs : List Int) (x0 y0 x1 y1 : Nat) (a : Int) (n : Nat) : oneTo W zs x0 y0 x1 y1 a (n + 1) = (oneTo W zs x0 y0 x1 y1 a n && (!insB W n x0 y0 x1 y1 || decide (zs[n]?.getD 0 = a))) := by
  simp [oneTo, List.range_succ]
def SawDOut (e : Ending) (w w' : World) (r : List LineT × Bool) : Prop := ∃ v, e = .returned (.tuple #[v, .bool r.2]) ∧ w'.ownsRow w.heap.size 61 4 v r.1.length (lineCells r.1) ∧ Mod noB w w'

set_option maxRecDepth 100000 in
set_option maxHeartbeats 8000000 in
theorem refSaw_any {W H : Nat} {zs : List Int} (C : CutN W H zs) (ao : Option Addr) (cap : Nat) : ∀ (f lt tp rt bt : Nat), lt < rt → rt ≤ W → tp < bt → bt ≤ H → (rt - lt) * (bt - tp) ≤ f → ∀ (w : World), IntsAt w ao zs →
    Calls Try.prog 57 #[cutV W H ao zs.length cap, .int .i64 lt, .int .i64 tp, .int .i64 rt, .int .i64 bt] w fun e w' => SawDOut e w w' (sawD (laidG W zs zs.length) f lt tp rt bt) := by
  intro f
  induction f with
  | zero => intro lt tp rt bt h1 _ h3 _ ha; have := Nat.mul_pos (show 0 < rt - lt by omega) (show 0 < bt - tp by omega); omega
  | succ f ih =>
    intro lt tp rt bt h1 h2 h3 h4 ha w hs
    have HIH := Hold.mk ih
    have HAr := Hold.mk ha
    have HC := Hold.mk C
    have HK := Hold.mk (box_facts (W := W) (H := H) (cap := cap) hs)
    have HM0 := Hold.mk ((Mod.refl noB w).alloc (.cells #[.int .i64 W, .int .i64 H, .slice ao zs.length cap] 24))
    have hn : zs.length ≤ 144 := by rw [C.len]; exact Nat.mul_le_mul C.w2 C.h2
    have w1 := C.w1
    have w2 := C.w2
    have hh2 := C.h2
    have HIn : Hold (∀ (i : Nat) (w1 : World), i < zs.length → Calls Try.prog 60 #[cutV W H ao zs.length cap, .int .i64 i, .int .i64 lt, .int .i64 tp, .int .i64 rt, .int .i64 bt] w1 fun e w' => e = .returned (.bool (insB W i lt tp rt bt)) ∧ Mod noB w1 w') :=
      ⟨fun i w1' hi => refIn_any W H ao zs.length cap i lt tp rt bt w1 w2 (by omega) (by omega) (by omega) w1'⟩
    have HAt : Hold (∀ w1 : World, IntsAt w1 ao zs → Calls Try.prog 34 #[cutV W H ao zs.length cap, .int .i64 lt, .int .i64 tp] w1 fun e w' => e = .returned (.int .i64 (atG (laidG W zs zs.length) ((lt : Int), (tp : Int)))) ∧ Mod noB w1 w') :=
      ⟨fun w1' h => refAt_any C ao cap lt tp ⟨by omega, by omega⟩ ⟨by omega, by omega⟩ w1' h⟩
    have HOne := Hold.mk (one_whole C h1 h3 h2 h4)
    generalize atG (laidG W zs zs.length) ((lt : Int), (tp : Int)) = a0 at *
    clear hs C ih ha
    go_enter Try.func57, Try.ntmps57
    go_wp2
    obtain ⟨W1, hW1⟩ : ∃ W1, w.alloc (.cells #[.int .i64 W, .int .i64 H, .slice ao zs.length cap] 24) = W1 := ⟨_, rfl⟩
    rw [hW1] at HK HM0 ⊢
    clear hW1
    go_loopw [12, 13] (fun one i wr => ∃ ii : Nat, i = .int .i64 ii ∧ ii ≤ zs.length ∧ one = .bool (oneTo W zs lt tp rt bt a0 ii) ∧ Mod noB W1 wr) (fun _ i _ => zs.length - (intOf i).toNat)
    case atStart => exact ⟨0, rfl, Nat.zero_le _, rfl, Mod.refl _ _⟩
    case round =>
      obtain ⟨ii, rfl, hii, rfl, hmr⟩ := hrel
      obtain ⟨c0, c1, c2, hI⟩ := HK.out _ hmr
      have HMr := Hold.mk hmr
      clear hmr
      by_cases hlt : ii < zs.length
      · obtain ⟨bi, off, rfl, _, hc⟩ := hI.lies (fun e => by simp [e] at hlt)
        clear hI hc
        have FIN : Hold (∀ W', Mod noB wr W' → W'.cell? ⟨w.heap.size, 0, none⟩ = some (.int .i64 W) ∧ W'.cell? ⟨w.heap.size, 1, none⟩ = some (.int .i64 H) ∧ W'.cell? ⟨w.heap.size, 2, none⟩ = some (.slice (some ⟨bi, off, none⟩) zs.length cap) ∧
            W'.cell? ⟨bi, off + ii, none⟩ = some (.int .i64 (zs[ii]?.getD 0)) ∧ IntsAt W' (some ⟨bi, off, none⟩) zs) := ⟨fun W' h => by
          obtain ⟨c0, c1, c2, hI⟩ := HK.out _ (HMr.out.trans h)
          exact ⟨c0, c1, c2, hI.cell hlt, hI⟩⟩
        have HS := Hold.mk (oneTo_succ W zs lt tp rt bt a0 ii)
        obtain ⟨b1, hb1⟩ : ∃ b1, oneTo W zs lt tp rt bt a0 (ii + 1) = b1 := ⟨_, rfl⟩
        have HB1 := Hold.mk hb1
        rw [HS.out] at hb1
        generalize oneTo W zs lt tp rt bt a0 ii = o at *
        generalize zs[ii]?.getD 0 = zi at *
        have hcase : (o = false ∧ b1 = false) ∨ (o = true ∧ insB W ii lt tp rt bt = false ∧ b1 = true) ∨ (o = true ∧ insB W ii lt tp rt bt = true ∧ b1 = (zi == a0)) := by
          subst hb1
          cases o <;> cases insB W ii lt tp rt bt <;> simp
          by_cases e : zi = a0 <;> simp [e]
        clear hb1 HS
        rcases hcase with ⟨rfl, rfl⟩ | ⟨rfl, hv2, rfl⟩ | ⟨rfl, hv2, hb⟩
        all_goals
          go_wp2
          clear c0 c1 c2
          refine (wpIn_wide (n := 3)).1 ?_
          refine region_quietC (n := 3) (fun _ => trivial) rfl wide_call mixed (by kernel_rfl) (by kernel_rfl) (fun W' => Mod noB wr W') ((Mod.refl _ _).drew) ?_
          repeat
            (first
              | go_big_quiet_skip
              | (go_big_quiet_want
                 go_simp
                 first
                   | go_big_quiet_on
                   | (apply Exists.intro
                      refine ⟨fun W' hC => ?_, ?_⟩
                      · obtain ⟨f0, f1, f2, f3, f4⟩ := FIN.out W' hC
                        first
                          | (go_at_call 60; refine (HIn.out _ _ (by assumption)).mono fun e w'' he => ⟨he.1, hC.trans he.2⟩)
                          | (go_at_call 34; refine (HAt.out _ f4).mono fun e w'' he => ⟨he.1, hC.trans he.2⟩)
                          | with_reducible rfl
                          | (clear f4; go_simp; first | rfl | exact ⟨rfl, rfl⟩)
                      go_big_quiet_on)))
          refine wpQuiet_nil ?_
          intro Wq hq
          have HMq := Hold.mk (HMr.out.trans hq)
          clear hq FIN
        all_goals
          go_wp2
          go_roundw
          case rel => exact ⟨ii + 1, by go_num, by omega, by first | (rw [HB1.out, hb]) | (rw [HB1.out]), HMq.out⟩
          case measure => simp [intOf]; omega
      · obtain rfl : ii = zs.length := by omega
        have hone : oneTo W zs lt tp rt bt a0 zs.length = wholeB (numbersL (laidG W zs zs.length) lt tp rt bt) := HOne.out.symm
        rw [hone]
        clear hone hI
        cases hwh : wholeB (numbersL (laidG W zs zs.length) lt tp rt bt) with
        | true =>
          have hs : sawD (laidG W zs zs.length) (f + 1) lt tp rt bt = ([], true) := by simp only [sawD]; rw [if_pos hwh]
          have HS := Hold.mk hs
          clear hs hwh
          go_wp2
          go_ret2
          rw [HS.out]
          exact ⟨_, rfl, ⟨rfl, .inl ⟨rfl, rfl⟩⟩, HM0.out.trans HMr.out⟩
        | false =>
          have HWH := Hold.mk hwh
          clear hwh HOne HAt HIn
          obtain ⟨g, hg⟩ : ∃ g, laidG W zs zs.length = g := ⟨_, rfl⟩
          have HGo : Hold (∀ (u : Bool) (q : Nat) (w1 : World), IntsAt w1 ao zs → Calls Try.prog 35 #[cutV W H ao zs.length cap, .int .i64 lt, .int .i64 tp, .int .i64 rt, .int .i64 bt, .bool u, .int .i64 q] w1 fun e w' => e = .returned (.bool (goesD W zs lt tp rt bt u q)) ∧ Mod noB w1 w') :=
            ⟨fun u q w1' h => refGoes_any HC.out ao cap lt tp rt bt u q (by omega) (by omega) w1' h⟩
          have HAc : Hold (∀ y, tp ≤ y → y ≤ bt → goesB g lt tp rt y lt y rt bt = goesD W zs lt tp rt bt false y) := ⟨fun y e1 e2 => by rw [← hg]; exact goes_across HC.out h2 h4 e1 e2⟩
          have HUp : Hold (∀ x, lt ≤ x → x ≤ rt → goesB g lt tp x bt x tp rt bt = goesD W zs lt tp rt bt true x) := ⟨fun x e1 e2 => by rw [← hg]; exact goes_upright HC.out h2 h4 e1 e2⟩
          rw [hg] at HIH HWH
          have HGG := Hold.mk hg
          clear hg
          obtain ⟨i0, hi, hz0, hz1, hz2⟩ := info_parts info61
          go_wp2
          clear c0 c1 c2
          go_loopw [14] (fun i wr => ∃ yy : Nat, i = .int .i64 yy ∧ tp + 1 ≤ yy ∧ yy ≤ bt ∧ Hold (∀ j, tp + 1 ≤ j → j < yy → goesB g lt tp rt j lt j rt bt = false) ∧ Mod noB W1 wr) (fun i _ => bt - (intOf i).toNat)
          case atStart => exact ⟨tp + 1, by go_num, Nat.le_refl _, by omega, ⟨fun j e1 e2 => by omega⟩, HMr.out⟩
          case round =>
            obtain ⟨yy, rfl, hy1, hy2, HJ, hmr2⟩ := hrel
            obtain ⟨c0, c1, c2, hI2⟩ := HK.out _ hmr2
            have HMr2 := Hold.mk hmr2
            clear hmr2
            by_cases hlt : yy < bt
            · have HG2 := Hold.mk (HGo.out false yy wr hI2)
              obtain ⟨b, hb⟩ : ∃ b, goesD W zs lt tp rt bt false yy = b := ⟨_, rfl⟩
              rw [hb] at HG2
              have HB : Hold (goesB g lt tp rt yy lt yy rt bt = b) := ⟨(HAc.out yy (by omega) (by omega)).trans hb⟩
              clear hb hI2
              cases b with
              | false =>
                go_wp2_with (go_at_call 35; refine HG2.out.mono ?_; rintro e w4 ⟨rfl, hM⟩; have HM4 := Hold.mk (HMr2.out.trans hM); clear hM c0 c1 c2)
                go_roundw
                case rel => exact ⟨yy + 1, by go_num, by omega, by omega, ⟨fun j e1 e2 => by
                  by_cases e : j = yy
                  · subst e; exact HB.out
                  · exact HJ.out j e1 (by omega)⟩, HM4.out⟩
                case measure => simp [intOf]; omega
              | true =>
                have hnx : nextL g lt tp rt bt = some ((false, yy, lt, rt), (lt, tp, rt, yy), (lt, yy, rt, bt)) := by
                  unfold nextL acrossAt
                  rw [firstAt_some (i := yy) hy1 (by omega) HB.out HJ.out]
                have hs : sawD g (f + 1) lt tp rt bt = ((false, (yy : Int), (lt : Int), (rt : Int)) :: ((sawD g f lt tp rt yy).1 ++ (sawD g f lt yy rt bt).1), (sawD g f lt tp rt yy).2 && (sawD g f lt yy rt bt).2) := by
                  simp only [sawD]; rw [if_neg (by rw [HWH.out]; simp), hnx]
                have hq3 := area_h (y := yy) h1 (show tp < yy by omega) hlt
                have harea := HAr.out
                have HI1 := Hold.mk (fun w1 => HIH.out lt tp rt yy h1 h2 (by omega) (by omega) (by omega) w1)
                have HI2 := Hold.mk (fun w1 => HIH.out lt yy rt bt h1 h2 hlt h4 (by omega) w1)
                have hl1 := sawD_len (g := g) (f := f) (lt := lt) (tp := tp) (rt := rt) (bt := yy) h1 (by omega)
                have hl2 := sawD_len (g := g) (f := f) (lt := lt) (tp := yy) (rt := rt) (bt := bt) h1 hlt
                have har : (rt - lt) * (bt - tp) ≤ 144 := Nat.le_trans (Nat.mul_le_mul (show rt - lt ≤ 12 by omega) (show bt - tp ≤ 12 by omega)) (by decide)
                generalize sawD g f lt tp rt yy = r1 at *
                generalize sawD g f lt yy rt bt = r2 at *
                obtain ⟨L1, b1⟩ := r1
                obtain ⟨L2, b2⟩ := r2
                simp only at hs hl1 hl2
                have hb1 : L1.length ≤ 144 := by omega
                have hb2 : L2.length ≤ 144 := by omega
                have HS := Hold.mk hs
                clear hs hnx hq3 harea hl1 hl2 har
                have hzs : (Value.agg #[.bool false, .int .i64 0, .int .i64 0, .int .i64 0]).cells.size = 4 := rfl
                cases b1
                all_goals
                  go_wp2_with (first
                    | (at_builtin; refine wpList_append_row rfl (.tmp 93) (.tmp 94) 42 rfl w6.heap.size 61 i0 (.agg #[.bool false, .int .i64 0, .int .i64 0, .int .i64 0]) 4 32 Try.underlying42 hi hz0 hz1 hz2 rfl (by decide) _ _ _ rfl HW7.out.1 v6 w5.heap.size L2.length (lineCells L2) rfl HW7.out.2.1 (lineCells_one L2) (by unfold maxLen; omega) (by omega) HW7.out.2.2.size ?_; intro v8 w8 hown hgr; have HW8 := Hold.mk (And.intro hown hgr); clear hown hgr)
                    | (at_builtin; refine wpList_append_row rfl (.tmp 91) (.tmp 92) 42 rfl w6.heap.size 61 i0 (.agg #[.bool false, .int .i64 0, .int .i64 0, .int .i64 0]) 4 32 Try.underlying42 hi hz0 hz1 hz2 rfl (by decide) _ 1 [.bool false, .int .i64 yy, .int .i64 lt, .int .i64 rt] rfl (lit_own w6 #[.bool false, .int .i64 yy, .int .i64 lt, .int .i64 rt] 61 4 rfl) v5 w4.heap.size L1.length (lineCells L1) rfl (own_mod HW6.out.2.1 ((Mod.refl noB w6).alloc _)) (lineCells_one L1) (by unfold maxLen; omega) (by omega) (by simp) ?_; intro v7 w7 hown hgr
                       have hm67 : Mod noB w6 w7 := ((Mod.refl noB w6).alloc (.cells #[.bool false, .int .i64 yy, .int .i64 lt, .int .i64 rt] 61)).then (Mod.of_grownBy (T := fun k => k = w6.heap.size) hgr (fun r hr _ => (by have h : some w6.heap.size = some r := hr; simpa using h.symm))) (fun i h1 h2 => by omega)
                       have HW7 := Hold.mk (And.intro hown (And.intro (own_mod HW6.out.2.2 hm67) hm67)); clear hown hgr hm67)
                    | (go_at_call 57; refine (HI2.out w5 HW5.out.2.2).mono ?_; rintro e w6 ⟨v6, rfl, hown, hM⟩; have HW6 := Hold.mk (And.intro (HW5.out.1.trans hM) (And.intro (own_mod HW5.out.2.1 hM) hown)); clear hown hM c0 c1 c2)
                    | (go_at_call 57; refine (HI1.out w4 HM4.out.2).mono ?_; rintro e w5 ⟨v5, rfl, hown, hM⟩; clear c0 c1 c2; obtain ⟨c0, c1, c2, hI⟩ := HK.out _ (HM4.out.1.trans hM); have HW5 := Hold.mk (And.intro (HM4.out.1.trans hM) (And.intro hown hI)); clear hown hM hI)
                    | (go_at_call 35; refine HG2.out.mono ?_; rintro e w4 ⟨rfl, hM⟩; clear c0 c1 c2; obtain ⟨c0, c1, c2, hI⟩ := HK.out _ (HMr2.out.trans hM); have HM4 := Hold.mk (And.intro (HMr2.out.trans hM) hI); clear hM hI))
                  go_ret2
                  rw [HGG.out, HS.out]
                  have hmw7 : Mod noB w w7 := (HM0.out.trans HW6.out.1).trans HW7.out.2.2
                  have hsz := (HM0.out.trans HW6.out.1).size
                  refine ⟨_, rfl, ?_, hmw7.then (Mod.of_grownBy (T := fun k => w6.heap.size ≤ k) HW8.out.2 (fun r hr _ => own_ge HW7.out.1 hr)) (fun i h1 h2 => by omega)⟩
                  have hown := own_mono HW8.out.1 hsz
                  have e1 : lineCells ((false, (yy : Int), (lt : Int), (rt : Int)) :: (L1 ++ L2)) = [Value.bool false, .int .i64 yy, .int .i64 lt, .int .i64 rt] ++ lineCells L1 ++ lineCells L2 := by simp [lineCells]
                  have e2 : ((false, (yy : Int), (lt : Int), (rt : Int)) :: (L1 ++ L2)).length = 1 + L1.length + L2.length := by simp; omega
                  rw [e1, e2]
                  exact hown
            · have hyb : bt = yy := by omega
              subst hyb
              have HNA : Hold (acrossAt g lt tp rt bt = none) := ⟨by unfold acrossAt; exact firstAt_none (fun i e1 e2 => HJ.out i e1 (by omega))⟩
              clear hI2 HJ hlt hy2
              go_wp2
              clear c0 c1 c2
              go_loopw [19] (fun i wr => ∃ xx : Nat, i = .int .i64 xx ∧ lt + 1 ≤ xx ∧ xx ≤ rt ∧ Hold (∀ j, lt + 1 ≤ j → j < xx → goesB g lt tp j bt j tp rt bt = false) ∧ Mod noB W1 wr) (fun i _ => rt - (intOf i).toNat)
              case atStart => exact ⟨lt + 1, by go_num, Nat.le_refl _, by omega, ⟨fun j e1 e2 => by omega⟩, HMr2.out⟩
              case round =>
                obtain ⟨xx, rfl, hy1, hy2, HJ, hmr3⟩ := hrel
                obtain ⟨c0, c1, c2, hI3⟩ := HK.out _ hmr3
                have HMr3 := Hold.mk hmr3
                clear hmr3
                by_cases hlt : xx < rt
                · have HG2 := Hold.mk (HGo.out true xx wr hI3)
                  obtain ⟨b, hb⟩ : ∃ b, goesD W zs lt tp rt bt true xx = b := ⟨_, rfl⟩
                  rw [hb] at HG2
                  have HB : Hold (goesB g lt tp xx bt xx tp rt bt = b) := ⟨(HUp.out xx (by omega) (by omega)).trans hb⟩
                  clear hb hI3
                  cases b with
                  | false =>
                    go_wp2_with (go_at_call 35; refine HG2.out.mono ?_; rintro e w4 ⟨rfl, hM⟩; have HM4 := Hold.mk (HMr3.out.trans hM); clear hM c0 c1 c2)
                    go_roundw
                    case rel => exact ⟨xx + 1, by go_num, by omega, by omega, ⟨fun j e1 e2 => by
                      by_cases e : j = xx
                      · subst e; exact HB.out
                      · exact HJ.out j e1 (by omega)⟩, HM4.out⟩
                    case measure => simp [intOf]; omega
                  | true =>
                    have hnx : nextL g lt tp rt bt = some ((true, xx, tp, bt), (lt, tp, xx, bt), (xx, tp, rt, bt)) := by
                      unfold nextL uprightAt
                      rw [HNA.out, firstAt_some (i := xx) hy1 (by omega) HB.out HJ.out]
                    have hs : sawD g (f + 1) lt tp rt bt = ((true, (xx : Int), (tp : Int), (bt : Int)) :: ((sawD g f lt tp xx bt).1 ++ (sawD g f xx tp rt bt).1), (sawD g f lt tp xx bt).2 && (sawD g f xx tp rt bt).2) := by
                      simp only [sawD]; rw [if_neg (by rw [HWH.out]; simp), hnx]
                    have hq3 := area_v (x := xx) h3 (show lt < xx by omega) hlt
                    have harea := HAr.out
                    have HI1 := Hold.mk (fun w1 => HIH.out lt tp xx bt (by omega) (by omega) h3 h4 (by omega) w1)
                    have HI2 := Hold.mk (fun w1 => HIH.out xx tp rt bt hlt h2 h3 h4 (by omega) w1)
                    have hl1 := sawD_len (g := g) (f := f) (lt := lt) (tp := tp) (rt := xx) (bt := bt) (by omega) h3
                    have hl2 := sawD_len (g := g) (f := f) (lt := xx) (tp := tp) (rt := rt) (bt := bt) hlt h3
                    have har : (rt - lt) * (bt - tp) ≤ 144 := Nat.le_trans (Nat.mul_le_mul (show rt - lt ≤ 12 by omega) (show bt - tp ≤ 12 by omega)) (by decide)
                    generalize sawD g f lt tp xx bt = r1 at *
                    generalize sawD g f xx tp rt bt = r2 at *
                    obtain ⟨L1, b1⟩ := r1
                    obtain ⟨L2, b2⟩ := r2
                    simp only at hs hl1 hl2
                    have hb1 : L1.length ≤ 144 := by omega
                    have hb2 : L2.length ≤ 144 := by omega
                    have HS := Hold.mk hs
                    clear hs hnx hq3 harea hl1 hl2 har
                    have hzs : (Value.agg #[.bool false, .int .i64 0, .int .i64 0, .int .i64 0]).cells.size = 4 := rfl
                    cases b1
                    all_goals
                      go_wp2_with (first
                        | (at_builtin; refine wpList_append_row rfl (.tmp 138) (.tmp 139) 42 rfl w6.heap.size 61 i0 (.agg #[.bool false, .int .i64 0, .int .i64 0, .int .i64 0]) 4 32 Try.underlying42 hi hz0 hz1 hz2 rfl (by decide) _ _ _ rfl HW7.out.1 v6 w5.heap.size L2.length (lineCells L2) rfl HW7.out.2.1 (lineCells_one L2) (by unfold maxLen; omega) (by omega) HW7.out.2.2.size ?_; intro v8 w8 hown hgr; have HW8 := Hold.mk (And.intro hown hgr); clear hown hgr)
                        | (at_builtin; refine wpList_append_row rfl (.tmp 136) (.tmp 137) 42 rfl w6.heap.size 61 i0 (.agg #[.bool false, .int .i64 0, .int .i64 0, .int .i64 0]) 4 32 Try.underlying42 hi hz0 hz1 hz2 rfl (by decide) _ 1 [.bool true, .int .i64 xx, .int .i64 tp, .int .i64 bt] rfl (lit_own w6 #[.bool true, .int .i64 xx, .int .i64 tp, .int .i64 bt] 61 4 rfl) v5 w4.heap.size L1.length (lineCells L1) rfl (own_mod HW6.out.2.1 ((Mod.refl noB w6).alloc _)) (lineCells_one L1) (by unfold maxLen; omega) (by omega) (by simp) ?_; intro v7 w7 hown hgr
                           have hm67 : Mod noB w6 w7 := ((Mod.refl noB w6).alloc (.cells #[.bool true, .int .i64 xx, .int .i64 tp, .int .i64 bt] 61)).then (Mod.of_grownBy (T := fun k => k = w6.heap.size) hgr (fun r hr _ => (by have h : some w6.heap.size = some r := hr; simpa using h.symm))) (fun i h1 h2 => by omega)
                           have HW7 := Hold.mk (And.intro hown (And.intro (own_mod HW6.out.2.2 hm67) hm67)); clear hown hgr hm67)
                        | (go_at_call 57; refine (HI2.out w5 HW5.out.2.2).mono ?_; rintro e w6 ⟨v6, rfl, hown, hM⟩; have HW6 := Hold.mk (And.intro (HW5.out.1.trans hM) (And.intro (own_mod HW5.out.2.1 hM) hown)); clear hown hM c0 c1 c2)
                        | (go_at_call 57; refine (HI1.out w4 HM4.out.2).mono ?_; rintro e w5 ⟨v5, rfl, hown, hM⟩; clear c0 c1 c2; obtain ⟨c0, c1, c2, hI⟩ := HK.out _ (HM4.out.1.trans hM); have HW5 := Hold.mk (And.intro (HM4.out.1.trans hM) (And.intro hown hI)); clear hown hM hI)
                        | (go_at_call 35; refine HG2.out.mono ?_; rintro e w4 ⟨rfl, hM⟩; clear c0 c1 c2; obtain ⟨c0, c1, c2, hI⟩ := HK.out _ (HMr3.out.trans hM); have HM4 := Hold.mk (And.intro (HMr3.out.trans hM) hI); clear hM hI))
                      go_ret2
                      rw [HGG.out, HS.out]
                      have hmw7 : Mod noB w w7 := (HM0.out.trans HW6.out.1).trans HW7.out.2.2
                      have hsz := (HM0.out.trans HW6.out.1).size
                      refine ⟨_, rfl, ?_, hmw7.then (Mod.of_grownBy (T := fun k => w6.heap.size ≤ k) HW8.out.2 (fun r hr _ => own_ge HW7.out.1 hr)) (fun i h1 h2 => by omega)⟩
                      have hown := own_mono HW8.out.1 hsz
                      have e1 : lineCells ((true, (xx : Int), (tp : Int), (bt : Int)) :: (L1 ++ L2)) = [Value.bool true, .int .i64 xx, .int .i64 tp, .int .i64 bt] ++ lineCells L1 ++ lineCells L2 := by simp [lineCells]
                      have e2 : ((true, (xx : Int), (tp : Int), (bt : Int)) :: (L1 ++ L2)).length = 1 + L1.length + L2.length := by simp; omega
                      rw [e1, e2]
                      exact hown
                · have hyb : rt = xx := by omega
                  subst hyb
                  have hs : sawD g (f + 1) lt tp rt bt = ([], false) := by
                    simp only [sawD]; rw [if_neg (by rw [HWH.out]; simp)]
                    unfold nextL
                    rw [HNA.out, show uprightAt g lt tp rt bt = none by unfold uprightAt; exact firstAt_none (fun i e1 e2 => HJ.out i e1 (by omega))]
                  have HS := Hold.mk hs
                  clear hs hI3
                  go_wp2
                  go_ret2
                  rw [HGG.out, HS.out]
                  exact ⟨_, rfl, ⟨rfl, .inl ⟨rfl, rfl⟩⟩, HM0.out.trans HMr3.out⟩
end Go.Proofs.Ytogalmkeipigeaa

/- The document's Saw: the program's. -/
namespace Go.Proofs.Ytogalmkeipigeaa
open Go.RowKit

set_option maxRecDepth 100000 in
set_option maxHeartbeats 2000000 in
theorem refSaw_no (W H : Int) (ao : Option Addr) (zs : List Int) (cap : Nat) (w : World) (hs : IntsAt w ao zs) (h : (checkR W H zs).2 ≠ 0) :
    Calls Try.prog 25 #[cutV W H ao zs.length cap] w fun e w' => SawsOut e w w' (sawR W H zs) := by
  have hR : sawR W H zs = ([], (checkR W H zs).2) := by unfold sawR; rw [if_pos h]
  rw [hR]
  have HO := Hold.mk (refCheck_any W H ao zs cap _ (hs.alloc (.cells #[.int .i64 W, .int .i64 H, .slice ao zs.length cap] 24)))
  clear hR
  generalize (checkR W H zs).2 = e at *
  generalize (checkR W H zs).1 = e1 at *
  have he : (e != 0) = true := by simpa using h
  have HM0 := Hold.mk ((Mod.refl noB w).alloc (.cells #[.int .i64 W, .int .i64 H, .slice ao zs.length cap] 24))
  clear hs h
  go_enter Try.func25, Try.ntmps25
  go_wp2_with (go_at_call 15; refine HO.out.mono ?_; rintro e w1 ⟨rfl, hM1⟩; have HM1 := Hold.mk hM1; clear hM1)
  go_ret2
  exact ⟨_, rfl, own_none _ _ _ _, HM0.out.trans HM1.out⟩

set_option maxRecDepth 100000 in
set_option maxHeartbeats 2000000 in
theorem refSaw_yes {W H : Nat} {zs : List Int} (C : CutN W H zs) (ao : Option Addr) (cap : Nat) (w : World) (hs : IntsAt w ao zs) (h : (checkR W H zs).2 = 0) :
    Calls Try.prog 25 #[cutV W H ao zs.length cap] w fun e w' => SawsOut e w w' (sawR W H zs) := by
  have hR : sawR W H zs = match sawL (laidG W zs zs.length) (W * H) 0 0 W H with | none => ([], 11) | some L => (L, 0) := by
    unfold sawR; rw [if_neg (fun h' => h' h)]; rfl
  rw [hR, sawL_D]
  clear hR
  have HO := refCheck_any W H ao zs cap _ (hs.alloc (.cells #[.int .i64 W, .int .i64 H, .slice ao zs.length cap] 24))
  rw [(checkR_ok h).2] at HO
  replace HO := Hold.mk HO
  have HB := Hold.mk (box_facts (W := W) (H := H) (cap := cap) hs)
  have HM0 := Hold.mk ((Mod.refl noB w).alloc (.cells #[.int .i64 W, .int .i64 H, .slice ao zs.length cap] 24))
  have hw1 := C.w1
  have hh1 := C.h1
  have HS := Hold.mk (fun w1 => refSaw_any C ao cap (W * H) 0 0 W H (by omega) (Nat.le_refl _) (by omega) (Nat.le_refl _) (Nat.le_refl _) w1)
  generalize sawD (laidG W zs zs.length) (W * H) 0 0 W H = r at *
  obtain ⟨L, b⟩ := r
  clear hs h C
  cases b
  all_goals
    go_enter Try.func25, Try.ntmps25
    go_wp2_with (first
      | (go_at_call 15; refine HO.out.mono ?_; rintro e w1 ⟨rfl, hM1⟩; obtain ⟨c0, c1, c2, hI⟩ := HB.out w1 hM1; have HM1 := Hold.mk (And.intro hM1 hI); clear hM1 hI)
      | (go_at_call 57; refine (HS.out w1 HM1.out.2).mono ?_; rintro e w2 ⟨v2, rfl, hown, hM⟩; have HM2 := Hold.mk (And.intro hown (HM1.out.1.trans hM)); clear hown hM c0 c1 c2))
    go_ret2
  · exact ⟨_, rfl, own_none _ _ _ _, HM0.out.trans HM2.out.2⟩
  · exact ⟨_, rfl, own_mono HM2.out.1 (HM0.out.trans HM1.out.1).size, HM0.out.trans HM2.out.2⟩
end Go.Proofs.Ytogalmkeipigeaa

/- place: a pairing is whole. -/
import Derived.Test.YtnjbamikfjdofaaPlaceA
set_option linter.unusedSimpArgs false
set_option linter.unusedVariables false
namespace Go.Proofs.Ytnjbamikfjdofaa
open Go.RowKit Go.Shelf
attribute [local go_sem] Oper.semAt_some

/-- What the loop does with what is handed over to it. -/
def YieldH (n0 l B0 : Nat) (T : Nat → Prop) (L : List (List Int)) (J Jx : List Held → World → Prop) : Prop :=
  ∀ pre x rest W1, L = pre.map Prod.fst ++ x.1 :: rest → J pre W1 → B0 ≤ W1.heap.size → OwnV B0 W1 x → (∀ p ∈ pre, ∀ r, p.2.ownBlock = some r → x.2.ownBlock ≠ some r) → YieldAt Fence.wide n0 Try.prog l #[x.2] W1 fun e W' =>
      (e = .returned (.bool true) ∧ J (pre ++ [x]) W' ∧ Mod T W1 W') ∨ (e = .returned (.bool false) ∧ Jx (pre ++ [x]) W' ∧ Mod T W1 W')
theorem YieldH.at {n0 n1 l B0 : Nat} {T : Nat → Prop} {L : List (List Int)} {J Jx : List Held → World → Prop} (h : YieldH n0 l B0 T L J Jx) : YieldH n1 l B0 T L J Jx := fun pre x rest W1 h1 h2 h3 h4 h5 => by
  obtain ⟨fn, tmps, assign, body, hy, hR⟩ := h pre x rest W1 h1 h2 h3 h4 h5
  exact ⟨fn, tmps, assign, body, hy, roundIn_any rfl hR⟩

theorem yield_two {e : Ending} {A B M : Prop} (h : (e = .returned (.bool true) ∧ A ∧ M) ∨ (e = .returned (.bool false) ∧ B ∧ M)) : ∃ bb : Bool, e = .returned (.bool bb) ∧ Hold (M ∧ (bb = true → A) ∧ (bb = false → B)) := by
  rcases h with ⟨rfl, a, m⟩ | ⟨rfl, a, m⟩
  · exact ⟨true, rfl, ⟨⟨m, fun _ => a, nofun⟩⟩⟩
  · exact ⟨false, rfl, ⟨⟨m, nofun, fun _ => a⟩⟩⟩

/-- How place ends. -/
def PPost (b : PBlocks) (n : Nat) (goes : List (List Int)) (KC : Nat → Prop) (J Jx : List Held → World → Prop) (done : List Held) (PL : List (List Int)) (pre : List Int) (W : World) (e : Ending) (W' : World) : Prop :=
  W.heap.size ≤ W'.heap.size ∧ ((e = .returned (.bool true) ∧ ∃ vs v', vs.map Prod.fst = PL ∧ PS b n goes KC pre v' W' ∧ DoneOK b (done ++ vs) v' W' ∧ J (done ++ vs) W') ∨ (e = .returned (.bool false) ∧ ∃ vs, vs.map Prod.fst <+: PL ∧ Jx (done ++ vs) W'))

theorem own_slice {B : Nat} {W : World} {pre : List Int} {v : Value} (h : OwnV B W (pre, v)) : ∃ ao cap, v = .slice ao pre.length cap := by
  obtain ⟨hl, ⟨hv, hx⟩ | ⟨g, cap, cur, hv, _⟩⟩ := h
  · simp only at hv hx
    have : pre = [] := by simpa using hx
    subst this
    exact ⟨none, 0, hv⟩
  · exact ⟨_, cap, hv⟩

theorem PS.mod {b : PBlocks} {n : Nat} {goes : List (List Int)} {KC : Nat → Prop} {pre : List Int} {v : Value} {W W' : World} (G : PGood b n goes KC) {T : Nat → Prop} (h : PS b n goes KC pre v W) (hm : Mod T W W')
    (h1 : ¬ T b.bl) (h2 : ¬ T b.mb) (h3 : ∀ k, KC k → ¬ T k) (h4 : ∀ r, v.ownBlock = some r → ¬ T r) : PS b n goes KC pre v W' :=
  ⟨hm.at h.l h1, h.own.same (fun r hr => hm.block r (h.own.cells hr).2.1 (h4 r hr)), h.tk.same (hm.block _ h.tk.lt h2), G.keep _ _ h.pc (fun k hk => hm.block k (Nat.lt_of_lt_of_le (G.kb k hk) h.sz) (h3 k hk)) hm.size, Nat.le_trans h.sz hm.size⟩

theorem own_fresh {W w1 : World} {pre : List Int} {v : Value} (h : OwnV W.heap.size w1 (pre, v)) {r : Nat} (hr : v.ownBlock = some r) : W.heap.size ≤ r ∧ r < w1.heap.size := ⟨(h.cells hr).1, (h.cells hr).2.1⟩

theorem zero_end {b : PBlocks} {n : Nat} {goes : List (List Int)} {KC : Nat → Prop} (G : PGood b n goes KC) {J Jx : List Held → World → Prop} {B0 : Nat} (hB0 : B0 ≤ b.bl ∧ B0 ≤ b.mb ∧ B0 ≤ b.B) {T : Nat → Prop} (hT : ∀ k, T k → k < B0 ∧ ¬ KC k)
    {pre : List Int} {v v' : Value} {done : List Held} {W w1 W3 : World} {bb : Bool} (hS : PS b n goes KC pre v W) (hD : DoneOK b done v W) (hM : Mod noB W w1) (hO : OwnV W.heap.size w1 (pre, v'))
    (hB : Mod T w1 W3 ∧ (bb = true → J (done ++ [(pre, v')]) W3) ∧ (bb = false → Jx (done ++ [(pre, v')]) W3)) : PPost b n goes KC J Jx done [pre] pre W (.returned (.bool bb)) W3 := by
  obtain ⟨hT3, h1, h2⟩ := hB
  have hS1 := hS.mod G hM id id (fun _ _ => id) (fun _ _ => id)
  refine ⟨Nat.le_trans hM.size hT3.size, ?_⟩
  cases bb with
  | true =>
    refine .inl ⟨rfl, [(pre, v')], v, rfl, hS1.mod G hT3 (fun h => by have := (hT _ h).1; omega) (fun h => by have := (hT _ h).1; omega) (fun k hk h => (hT k h).2 hk) (fun r hr h => by have := (hT _ h).1; have := (hS.own.cells hr).1; omega), ?_, h1 rfl⟩
    intro p hp r hr
    rcases List.mem_append.1 hp with hp | hp
    · obtain ⟨a1, a2, a3⟩ := hD p hp r hr
      exact ⟨a1, by have := hM.size; have := hT3.size; omega, a3⟩
    · obtain rfl : p = (pre, v') := by simpa using hp
      obtain ⟨c1, c2⟩ := own_fresh hO hr
      refine ⟨Nat.le_trans hS.sz c1, Nat.lt_of_lt_of_le c2 hT3.size, fun he => ?_⟩
      have := (hS.own.cells he).2.1
      omega
  | false => exact .inr ⟨rfl, [(pre, v')], List.prefix_refl _, h2 rfl⟩

set_option maxRecDepth 100000 in
set_option maxHeartbeats 4000000 in
theorem place_zero (b : PBlocks) (n : Nat) (goes : List (List Int)) (KC : Nat → Prop) (G : PGood b n goes KC) (J Jx : List Held → World → Prop) (B0 : Nat) (hB0 : B0 ≤ b.bl ∧ B0 ≤ b.mb ∧ B0 ≤ b.B) (hJ : StableV B0 J) (hJx : StableV B0 Jx) (T : Nat → Prop) (hT : ∀ k, T k → k < B0 ∧ ¬ KC k)
    (L : List (List Int)) (n0 : Nat) (hY : YieldH n0 b.l B0 T L J Jx) (pre : List Int) (v : Value) (done : List Held) (W : World) (hn : pre.length = n) (hS : PS b n goes KC pre v W) (hD : DoneOK b done v W) (hj : J done W) (hL : ∃ rest, L = done.map Prod.fst ++ ([pre] ++ rest)) (N : Nat) :
    CallsIn Fence.wide (N + 1) Try.prog 87 b.lb W (PPost b n goes KC J Jx done [pre] pre W) := by
  obtain ⟨ao, cap, rfl⟩ := own_slice hS.own
  have ht := hS.pc.t
  have hl0 := cellsAt hS.l 0
  have hy0 := hS.pc.y
  have hpl : pre.length ≤ 1000 := by have := G.n8; omega
  have HY := Hold.mk (hY.at (n1 := N))
  have HS := Hold.mk hS
  have HD := Hold.mk hD
  have HJ := Hold.mk hj
  have HL := Hold.mk hL
  have HG := Hold.mk G
  have HT := Hold.mk hT
  have HB0 := Hold.mk hB0
  clear hY hS hD hj hL G hT hB0
  subst hn
  refine callsIn_of_wp Try.func87 rfl trivial ?_ rfl
  simp only [Try.ntmps87, List.size_toArray, List.length_cons, List.length_nil, Nat.reduceAdd, Nat.reduceSub, Array.replicate_succ, Array.replicate_zero, List.push_toArray, List.append_toArray, List.nil_append, List.cons_append]
  gi_wp2
  gi_region_with (first
    | (refine ⟨trivial, ?_⟩; gi_at_call 88; refine (callsIn_wide.2 (clone_any (pre, .slice ao pre.length cap) b.B W.drew HS.out.own hpl)).mono ?_; rintro e w1 ⟨v', rfl, hO, hM⟩
       have HO := Hold.mk hO
       have HM := Hold.mk hM
       obtain ⟨fn, tmps, assign, body, hy, hR⟩ := HY.out done (pre, v') HL.out.choose w1 HL.out.choose_spec (hJ _ _ _ HJ.out ⟨hM.os, hM.tape, hM.output, hM.size, fun k hk _ => hM.block k hk id⟩) (Nat.le_trans (Nat.le_trans HB0.out.2.2 HS.out.sz) hM.size) (OwnV.mono hO (Nat.le_trans HB0.out.2.2 HS.out.sz)) (fun p hp r hr he => by have := (HD.out p hp r hr).2.1; have := (own_fresh (W := W.drew) hO he).1; have e : W.drew.heap.size = W.heap.size := rfl; omega)
       have hy1 := (HS.out.mod HG.out ((Mod.refl noB W).drew.trans hM) id id (fun _ _ => id) (fun _ _ => id)).pc.y
       clear hO hM)
    | (refine hR.mono ?_; rintro e W3 h3; obtain ⟨bb, rfl, HB⟩ := yield_two h3; clear h3))
  all_goals
    gi_wp2
    go_ret
    exact zero_end HG.out HB0.out HT.out HS.out HD.out ((Mod.refl noB W).drew.trans HM.out) HO.out HB.out
end Go.Proofs.Ytnjbamikfjdofaa

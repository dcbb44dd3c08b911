/- awake: the document's example holds. -/
import Derived.Test.YtdncppempgpooaaDoorRvJ
import Derived.Test.YtdncppempgpooaaDoorRuH
set_option linter.unusedSimpArgs false
set_option linter.unusedVariables false
namespace Go.Proofs.YtdncppempgpooaaDoor
open Go.RowKit Go.Shelf

theorem follow_any (B : Nat) (ao : Option Addr) (cap : Nat) (d : Dye) (lo : Option Addr) (lcap : Nat) (l : List (Int × Int)) (po : Option Addr) (pcap : Nat) (p : List Int) (w : World) (hI : InB B w ao d lo l) (hp : IntsAt w po p) :
    Calls Tryd.prog 18 #[dyV ao d.bl.length cap d, .slice lo l.length lcap, .slice po p.length pcap] w (Four (followE d l p) w) := by
  cases h : (dieB d && stintsB l) with
  | false => exact follow_bad B ao cap d lo lcap l po pcap p w hI hp h
  | true =>
    simp only [Bool.and_eq_true] at h
    cases h3 : planB d l p with
    | false => exact follow_none B ao cap d lo lcap l po pcap p w hI hp h.1 h.2 h3
    | true => exact follow_some B ao cap d lo lcap l po pcap p w hI hp h.1 h.2 h3

abbrev InX (B : Nat) (ab sb : Nat) (W : World) : Prop := InB B W (some ⟨ab, 0, none⟩) dyeX (some ⟨sb, 0, none⟩) stintsX
theorem callOff {B ab sb : Nat} {w : World} (h : InX B ab sb w) : Calls Tryd.prog 14 #[.agg #[.slice (some ⟨ab, 0, none⟩) 2 2, .int .i64 40, .int .i64 10, .int .i64 3], .int .i64 0, .int .i64 10] w fun e w' => e = .returned (.tuple #[spV (20, 35), .int .i64 0]) ∧ Mod noB w w' :=
  (off_any B (some ⟨ab, 0, none⟩) 2 dyeX 0 10 w h.le h.bl).mono fun e w' hh => by rw [TwoRes, exOff] at hh; exact hh
theorem callLasts {B ab sb : Nat} {w : World} (h : InX B ab sb w) : Calls Tryd.prog 16 #[.agg #[.slice (some ⟨ab, 0, none⟩) 2 2, .int .i64 40, .int .i64 10, .int .i64 3], .int .i64 1, .int .i64 40] w fun e w' => e = .returned (.tuple #[spV (36, 7000), .int .i64 0]) ∧ Mod noB w w' :=
  (lasts_all B (some ⟨ab, 0, none⟩) 2 dyeX 1 40 w h.le h.bl).mono fun e w' hh => by rw [TwoRes, exLasts] at hh; exact hh
theorem callFollow {B ab sb : Nat} {w : World} (h : InX B ab sb w) {po : Option Addr} {pcap : Nat} (hp : IntsAt w po [1, 1, 1]) : Calls Tryd.prog 18 #[.agg #[.slice (some ⟨ab, 0, none⟩) 2 2, .int .i64 40, .int .i64 10, .int .i64 3], .slice (some ⟨sb, 0, none⟩) 4 4, .slice po 3 pcap] w fun e w' => e = .returned (.tuple #[.int .i64 39, .int .i64 4, .int .i64 0, .int .i64 0]) ∧ Mod noB w w' :=
  (follow_any B (some ⟨ab, 0, none⟩) 2 dyeX (some ⟨sb, 0, none⟩) 4 stintsX po pcap [1, 1, 1] w h hp).mono fun e w' hh => by rw [Four, exFollow] at hh; exact hh
theorem callFollow2 {B ab sb : Nat} {w : World} (h : InX B ab sb w) {po : Option Addr} {pcap : Nat} (hp : IntsAt w po [1, 0, 1]) : Calls Tryd.prog 18 #[.agg #[.slice (some ⟨ab, 0, none⟩) 2 2, .int .i64 40, .int .i64 10, .int .i64 3], .slice (some ⟨sb, 0, none⟩) 4 4, .slice po 3 pcap] w fun e w' => e = .returned (.tuple #[.int .i64 0, .int .i64 2, .int .i64 0, .int .i64 11]) ∧ Mod noB w w' :=
  (follow_any B (some ⟨ab, 0, none⟩) 2 dyeX (some ⟨sb, 0, none⟩) 4 stintsX po pcap [1, 0, 1] w h hp).mono fun e w' hh => by rw [Four, exFollow2] at hh; exact hh
theorem callPlan {B ab sb : Nat} {w : World} (h : InX B ab sb w) : Calls Tryd.prog 25 #[.agg #[.slice (some ⟨ab, 0, none⟩) 2 2, .int .i64 40, .int .i64 10, .int .i64 3], .slice (some ⟨sb, 0, none⟩) 4 4] w fun e w' => ∃ a1 k1, e = .returned (.tuple #[.slice a1 3 k1, .int .i64 39, .int .i64 0]) ∧ IntsAt w' a1 [1, 1, 1] ∧ Mod noB w w' :=
  (plan_any B (some ⟨ab, 0, none⟩) 2 dyeX (some ⟨sb, 0, none⟩) 4 stintsX w h).mono fun e w' hh => by
    rw [PlanOut, exPlan] at hh
    obtain ⟨a1, k1, he, hi, _, _, hm⟩ := hh
    exact ⟨a1, k1, he, hi, hm⟩
theorem spans_own {w : World} {base n : Nat} {v : Value} {L : List (Int × Int)} (h : w.ownsRow base 28 2 v n (spanL L)) (hn : L.length = n) (hs : L.length ≤ 1000000000000) : ∃ ao cap, v = .slice ao n cap ∧ ListAt w.heap.size w 2 spC ao L := by
  obtain ⟨ao, cap, rfl⟩ := own_form h
  have h0 := h
  refine ⟨ao, cap, rfl, fun hne => ?_, hs⟩
  obtain ⟨_, ⟨_, hz⟩ | ⟨g, cap', cur, hv, _, hh, _⟩⟩ := h
  · have := List.length_pos_iff.2 hne; omega
  · cases hv
    refine ⟨g, 0, rfl, at_ltS hh, fun k x hx j hj => ?_⟩
    have hk := (List.getElem?_eq_some_iff.1 hx).1
    rw [Nat.zero_add, h0.cellAt (k * 2 + j) (by omega)]
    have : ∀ (L : List (Int × Int)) (k : Nat) (x : Int × Int), L[k]? = some x → ∀ j, j < 2 → (spanL L)[k * 2 + j]? = (spC x)[j]? := by
      intro L
      induction L with
      | nil => intro k x h; simp at h
      | cons y L ih =>
        intro k x h j hj
        have e : spanL (y :: L) = .int .i64 y.1 :: .int .i64 y.2 :: spanL L := rfl
        cases k with
        | zero =>
          simp at h; subst h
          rcases (by omega : j = 0 ∨ j = 1) with rfl | rfl <;> rfl
        | succ k =>
          rw [e, show (k + 1) * 2 + j = k * 2 + j + 1 + 1 by omega]
          exact ih k x (by simpa using h) j hj
    exact this L k x hx j hj
theorem callProof {B ab sb : Nat} {w : World} (h : InX B ab sb w) : Calls Tryd.prog 20 #[.agg #[.slice (some ⟨ab, 0, none⟩) 2 2, .int .i64 40, .int .i64 10, .int .i64 3], .slice (some ⟨sb, 0, none⟩) 4 4] w fun e w' => ∃ a1 k1 a2 k2, e = .returned (.tuple #[.slice a1 3 k1, .slice a2 3 k2, .int .i64 0]) ∧ ListAt w'.heap.size w' 2 spC a1 [(0, 1), (1, 2), (2, 3)] ∧ IntsAt w' a2 [0, 0, 0] ∧ Mod noB w w' :=
  (proof_any B (some ⟨ab, 0, none⟩) 2 dyeX (some ⟨sb, 0, none⟩) 4 stintsX w h).mono fun e w' hh => by
    rw [ProofOut, exProof] at hh
    obtain ⟨vR, vB, he, o1, o2, hm⟩ := hh
    obtain ⟨a1, k1, rfl, i1⟩ := spans_own o1 rfl (by decide)
    obtain ⟨a2, k2, rfl, i2, _⟩ := ints_of_owns o2 rfl (by decide)
    exact ⟨a1, k1, a2, k2, he, i1, i2, hm⟩
theorem callInts {ao bo : Option Addr} {L : List Int} {n m c d : Nat} (hn : n = L.length) (hm : m = L.length) {w : World} (ha : IntsAt w ao L) (hb : IntsAt w bo L) : Calls Tryd.prog 23 #[.slice ao n c, .slice bo m d] w fun e w' => e = .returned (.bool true) ∧ Mod noB w w' := by
  subst hn; subst hm
  exact (ints_any ao bo L L c d w ha hb).mono fun e w' hh => by simpa using hh
theorem callSpans {ao bo : Option Addr} {L : List (Int × Int)} {n m c d : Nat} (hn : n = L.length) (hm : m = L.length) {w : World} (ha : ListAt w.heap.size w 2 spC ao L) (hb : ListAt w.heap.size w 2 spC bo L) : Calls Tryd.prog 22 #[.slice ao n c, .slice bo m d] w fun e w' => e = .returned (.bool true) ∧ Mod noB w w' := by
  subst hn; subst hm
  exact (spans_any ao bo L L c d w ha hb).mono fun e w' hh => by simpa using hh
theorem spans_lit {w : World} {b : Nat} (h : w.heap[b]? = some (.cells #[.int .i64 0, .int .i64 1, .int .i64 1, .int .i64 2, .int .i64 2, .int .i64 3] 28)) : ListAt w.heap.size w 2 spC (some ⟨b, 0, none⟩) [(0, 1), (1, 2), (2, 3)] :=
  ⟨fun _ => ⟨b, 0, rfl, at_ltS h, fun k x hx j hj => by
    rw [cellsAt h]
    rcases (by have := (List.getElem?_eq_some_iff.1 hx).1; simp at this; omega : k = 0 ∨ k = 1 ∨ k = 2) with rfl | rfl | rfl
    all_goals
      simp only [List.getElem?_cons_zero, List.getElem?_cons_succ, Option.some.injEq] at hx
      subst hx
      rcases (by omega : j = 0 ∨ j = 1) with rfl | rfl <;> rfl⟩, by decide⟩
theorem kept_spans {w : World} {ao : Option Addr} {L : List (Int × Int)} (h : ListAt w.heap.size w 2 spC ao L) : Kept w (fun W => ListAt W.heap.size W 2 spC ao L) := fun W hm => (h.low (Low.ofN hm (Nat.le_refl _))).mono hm.size
theorem info28s : (Tryd.prog.info? 28).map (·.size) = some 2 := by kernel_rfl
end Go.Proofs.YtdncppempgpooaaDoor

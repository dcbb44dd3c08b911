/- FitPairings: what a pairing is, and that all pairings come in order; the two closures. -/
import Derived.Test.YtnjbamikfjdofaaPairsA
import Derived.Test.YtnjbamikfjdofaaExam
import Derived.Test.YtnjbamikfjdofaaAlive
import Derived.Laws.BitsLemmas
import Derived.Deep.DeepCutAuto
import Derived.Deep.CutRange
set_option linter.unusedSimpArgs false
set_option linter.unusedVariables false
namespace Go.Proofs.Ytnjbamikfjdofaa
section
open Go.RowKit

/-- One list of numbers comes before another one. -/
def lessB : List Int → List Int → Bool
  | x :: a, y :: b => if x = y then lessB a b else decide (x < y)
  | _, _ => false
theorem lessB_self (a : List Int) : lessB a a = false := by
  induction a with
  | nil => rfl
  | cons x a ih => simp [lessB, ih]
theorem lessB_asymm : ∀ (a b : List Int), lessB a b = true → lessB b a = false := by
  intro a
  induction a with
  | nil => intro b h; cases b <;> simp [lessB] at h
  | cons x a ih =>
    intro b h
    cases b with
    | nil => rfl
    | cons y b =>
      unfold lessB at h ⊢
      by_cases e : x = y
      · rw [if_pos e] at h; rw [if_pos e.symm]; exact ih b h
      · rw [if_neg e] at h; rw [if_neg (Ne.symm e)]
        simp only [decide_eq_true_eq] at h
        simp only [decide_eq_false_iff_not]; omega
theorem lessB_pre (pre a b : List Int) : lessB (pre ++ a) (pre ++ b) = lessB a b := by
  induction pre with
  | nil => rfl
  | cons x pre ih => simp [lessB, ih]

theorem mem_pairsL {goes : List (List Int)} : ∀ (m : Nat) (pre l : List Int), l ∈ pairsL goes m pre ↔ ∃ rest : List Int, l = pre ++ rest ∧ rest.length = m ∧ ∀ i, i < m → (l[pre.length + i]?.getD 0) ∈ (goes[pre.length + i]?.getD []) ∧ (l[pre.length + i]?.getD 0) ∉ l.take (pre.length + i) := by
  intro m
  induction m with
  | zero =>
    intro pre l
    simp only [pairsL, List.mem_singleton]
    constructor
    · rintro rfl; exact ⟨[], by simp, rfl, fun i h => by omega⟩
    · rintro ⟨rest, rfl, h, _⟩
      rw [List.length_eq_zero_iff.1 h]; simp
  | succ m ih =>
    intro pre l
    simp only [pairsL, List.mem_flatMap]
    constructor
    · rintro ⟨h, hh, hl⟩
      split at hl
      · cases hl
      · rename_i hn
        obtain ⟨rest, rfl, hr, hall⟩ := (ih _ _).1 hl
        refine ⟨h :: rest, by simp, by simp [hr], fun i hi => ?_⟩
        rcases Nat.eq_zero_or_pos i with rfl | hp
        · have e1 : ((pre ++ [h] ++ rest)[pre.length + 0]?.getD 0) = h := by simp
          have e2 : (pre ++ [h] ++ rest).take (pre.length + 0) = pre := by simp
          rw [e1, e2]; exact ⟨hh, hn⟩
        · have := hall (i - 1) (by omega)
          rw [List.length_append, List.length_singleton, show pre.length + 1 + (i - 1) = pre.length + i by omega] at this
          exact this
    · rintro ⟨rest, rfl, hr, hall⟩
      cases rest with
      | nil => simp at hr
      | cons h rest =>
        have h0 := hall 0 (by omega)
        have e1 : ((pre ++ h :: rest)[pre.length + 0]?.getD 0) = h := by simp
        have e2 : (pre ++ h :: rest).take (pre.length + 0) = pre := by simp
        rw [e1, e2] at h0
        refine ⟨h, h0.1, ?_⟩
        rw [if_neg h0.2]
        refine (ih _ _).2 ⟨rest, by simp, by simpa using hr, fun i hi => ?_⟩
        have := hall (i + 1) (by omega)
        rw [List.length_append, List.length_singleton, show pre.length + 1 + i = pre.length + (i + 1) by omega]
        exact this

theorem pairsL_order {goes : List (List Int)} (hg : ∀ i : Nat, (goes[i]?.getD []).Pairwise (fun x y : Int => x < y)) : ∀ (m : Nat) (pre : List Int), (pairsL goes m pre).Pairwise fun a b => lessB a b = true := by
  intro m
  induction m with
  | zero => intro pre; simp [pairsL]
  | succ m ih =>
    intro pre
    simp only [pairsL]
    rw [List.pairwise_flatMap]
    refine ⟨fun h hh => ?_, ?_⟩
    · split
      · exact List.Pairwise.nil
      · exact ih _
    · refine (hg pre.length).imp fun {h h'} hlt a ha b hb => ?_
      split at ha
      · cases ha
      split at hb
      · cases hb
      obtain ⟨r, rfl, _, _⟩ := (mem_pairsL _ _ _).1 ha
      obtain ⟨r', rfl, _, _⟩ := (mem_pairsL _ _ _).1 hb
      rw [List.append_assoc, List.append_assoc, lessB_pre]
      simp [lessB, hlt, Int.ne_of_lt hlt]

theorem mem_indices {f : Int → Bool} {L : List Int} {h : Int} : h ∈ indicesR f L ↔ ∃ k : Nat, k < L.length ∧ f (L[k]?.getD 0) = true ∧ (k : Int) = h := by
  unfold indicesR indicesTo
  simp only [List.mem_map, List.mem_filter, List.mem_range, and_assoc]
theorem indices_order (f : Int → Bool) (L : List Int) : (indicesR f L).Pairwise (fun x y : Int => x < y) := by
  unfold indicesR indicesTo
  rw [List.pairwise_map]
  refine (List.Pairwise.filter _ List.pairwise_lt_range).imp fun h => ?_
  omega
theorem maybeZ {z : Int} (h : z = 0 ∨ z = 1 ∨ z = 2) : maybe z = true ↔ z ≠ 0 := by rcases h with rfl | rfl | rfl <;> decide
theorem fitZ (p : Ply) (a b : Edg) : fitR p a b = 0 ∨ fitR p a b = 1 ∨ fitR p a b = 2 := by
  unfold fitR least3
  split
  · split
    · exact .inl rfl
    · split
      · exact .inr (.inr rfl)
      · exact .inr (.inl rfl)
  · exact .inl rfl
abbrev noE : Edg := ⟨0, (0, 0), (0, 0), (0, 0)⟩
theorem mem_goes {p : Ply} {tabs holes : List Edg} {i : Nat} (hi : i < tabs.length) {h : Int} : h ∈ ((goesL p tabs holes)[i]?.getD []) ↔ 0 ≤ h ∧ h < holes.length ∧ fitR p (tabs[i]?.getD noE) (holes[h.toNat]?.getD noE) ≠ 0 := by
  unfold goesL
  rw [List.getElem?_map, List.getElem?_eq_getElem hi]
  simp only [Option.map_some, Option.getD_some]
  rw [mem_indices]
  constructor
  · rintro ⟨k, hk, hf, rfl⟩
    rw [foundL_len] at hk
    have e : (foundL p tabs[i] holes)[k]?.getD 0 = fitR p tabs[i] holes[k] := by unfold foundL; rw [List.getElem?_map, List.getElem?_eq_getElem hk]; rfl
    rw [e, maybeZ (fitZ _ _ _)] at hf
    refine ⟨by omega, by omega, ?_⟩
    rw [Int.toNat_natCast, List.getElem?_eq_getElem hk]
    exact hf
  · rintro ⟨h0, h1, hf⟩
    have hk : h.toNat < holes.length := by omega
    refine ⟨h.toNat, by rw [foundL_len]; exact hk, ?_, by omega⟩
    have e : (foundL p tabs[i] holes)[h.toNat]?.getD 0 = fitR p tabs[i] holes[h.toNat] := by unfold foundL; rw [List.getElem?_map, List.getElem?_eq_getElem hk]; rfl
    rw [e, maybeZ (fitZ _ _ _)]
    rw [List.getElem?_eq_getElem hk] at hf
    exact hf
theorem goes_order (p : Ply) (tabs holes : List Edg) (i : Nat) : ((goesL p tabs holes)[i]?.getD []).Pairwise (fun x y : Int => x < y) := by
  unfold goesL
  rw [List.getElem?_map]
  cases tabs[i]? with
  | none => exact List.Pairwise.nil
  | some t => exact indices_order _ _

/-- The tab at this place has a hole of its own, which fits it, or may. -/
def okAt (p : Ply) (tabs holes : List Edg) (l : List Int) (i : Nat) : Bool :=
  ((decide (0 ≤ l[i]?.getD 0) && decide (l[i]?.getD 0 < holes.length)) && !((l.take i).contains (l[i]?.getD 0))) && !(fitR p (tabs[i]?.getD noE) (holes[(l[i]?.getD 0).toNat]?.getD noE) == 0)
/-- It is a pairing of sides that may fit. -/
def mayB (p : Ply) (tabs holes : List Edg) (l : List Int) : Bool := (List.range l.length).all (okAt p tabs holes l)

theorem may_iff {p : Ply} {tabs holes : List Edg} {l : List Int} (hl : l.length = tabs.length) : mayB p tabs holes l = true ↔ l ∈ allPairs p tabs holes := by
  unfold mayB allPairs
  rw [mem_pairsL, List.all_eq_true]
  have key : ∀ i, i < tabs.length → (okAt p tabs holes l i = true ↔ (l[i]?.getD 0) ∈ ((goesL p tabs holes)[i]?.getD []) ∧ (l[i]?.getD 0) ∉ l.take i) := by
    intro i hi
    rw [mem_goes hi]
    unfold okAt
    simp only [Bool.and_eq_true, Bool.not_eq_true', decide_eq_true_eq, beq_eq_false_iff_ne, List.contains_eq_mem, decide_eq_false_iff_not, ne_eq]
    constructor
    · rintro ⟨⟨⟨a, b⟩, c⟩, d⟩; exact ⟨⟨a, b, d⟩, c⟩
    · rintro ⟨⟨a, b, d⟩, c⟩; exact ⟨⟨⟨a, b⟩, c⟩, d⟩
  constructor
  · intro h
    refine ⟨l, by simp, hl, fun i hi => ?_⟩
    have := (key i hi).1 (h i (List.mem_range.2 (by omega)))
    simpa using this
  · rintro ⟨rest, _, _, h⟩ i hi
    have hi' : i < tabs.length := by have := List.mem_range.1 hi; omega
    exact (key i hi').2 (by simpa using h i hi')
theorem all_order (p : Ply) (tabs holes : List Edg) : (allPairs p tabs holes).Pairwise fun a b => lessB a b = true := pairsL_order (goes_order p tabs holes) _ _
theorem all_len {p : Ply} {tabs holes : List Edg} {l : List Int} (h : l ∈ allPairs p tabs holes) : l.length = tabs.length := by
  obtain ⟨rest, rfl, hr, _⟩ := (mem_pairsL _ _ _).1 h
  simpa using hr

/-- What is asked of the first two pairings, and of another one. -/
structure TwoOk (p : Ply) (tabs holes : List Edg) (L1 L2 L3 : List Int) : Prop where
  n1 : L1.length = tabs.length
  m1 : mayB p tabs holes L1 = true
  n2 : L2 ≠ [] → L2.length = tabs.length
  m2 : L2 ≠ [] → mayB p tabs holes L2 = true ∧ lessB L1 L2 = true
  t1 : mayB p tabs holes L3 = true → lessB L3 L1 = false
  t2 : mayB p tabs holes L3 = true → lessB L1 L3 = true → L2 ≠ [] ∧ lessB L3 L2 = false
  t3 : L2 = [] → L3 ≠ L1 → mayB p tabs holes L3 = false

theorem two_ok {p : Ply} {tabs holes : List Edg} {L1 L2 L3 : List Int} {er : Int} (h : firstTwo (allPairs p tabs holes) = (L1, L2, er)) (he : er = 0) (h3 : L3.length = tabs.length) : TwoOk p tabs holes L1 L2 L3 := by
  have ho := all_order p tabs holes
  have hm := fun (l : List Int) (hl : l.length = tabs.length) => may_iff (p := p) (holes := holes) hl
  have hlen := fun (l : List Int) (hl : l ∈ allPairs p tabs holes) => all_len hl
  generalize allPairs p tabs holes = A at *
  match A, h with
  | [], h => simp only [firstTwo, Prod.mk.injEq] at h; omega
  | [a], h =>
    simp only [firstTwo, Prod.mk.injEq] at h
    obtain ⟨rfl, rfl, _⟩ := h
    have ha := hlen a (by simp)
    have h3m : mayB p tabs holes L3 = true → L3 = a := fun hh => by have := (hm L3 h3).1 hh; simpa using this
    refine ⟨ha, (hm a ha).2 (by simp), fun h => absurd rfl h, fun h => absurd rfl h, fun hh => by rw [h3m hh]; exact lessB_self _, (fun hh hl => by rw [h3m hh, lessB_self] at hl; cases hl), fun _ hne => ?_⟩
    rw [Bool.eq_false_iff]
    exact fun hh => hne (h3m hh)
  | a :: b :: rest, h =>
    simp only [firstTwo, Prod.mk.injEq] at h
    obtain ⟨rfl, rfl, _⟩ := h
    have ha := hlen a (by simp)
    have hb := hlen b (by simp)
    rw [List.pairwise_cons, List.pairwise_cons] at ho
    have hab := ho.1 b (by simp)
    have hne : b ≠ [] := by rintro rfl; cases a <;> simp [lessB] at hab
    refine ⟨ha, (hm a ha).2 (by simp), fun _ => hb, fun _ => ⟨(hm b hb).2 (by simp), hab⟩, fun hh => ?_, fun hh hl => ⟨hne, ?_⟩, fun h => absurd h hne⟩
    · rcases List.mem_cons.1 ((hm L3 h3).1 hh) with rfl | hr
      · exact lessB_self _
      · exact lessB_asymm _ _ (ho.1 _ hr)
    · rcases List.mem_cons.1 ((hm L3 h3).1 hh) with rfl | hr
      · rw [lessB_self] at hl; cases hl
      · rcases List.mem_cons.1 hr with rfl | hr
        · exact lessB_self _
        · exact lessB_asymm _ _ (ho.2.1 _ hr)
theorem none_ok {p : Ply} {tabs holes : List Edg} {L1 L2 L3 : List Int} {er : Int} (h : firstTwo (allPairs p tabs holes) = (L1, L2, er)) (he : er = 4) (h3 : L3.length = tabs.length) : mayB p tabs holes L3 = false ∧ L1 = [] ∧ L2 = [] := by
  have hm := may_iff (p := p) (holes := holes) h3
  generalize allPairs p tabs holes = A at *
  match A, h with
  | [], h =>
    simp only [firstTwo, Prod.mk.injEq] at h
    refine ⟨?_, h.1.symm, h.2.1.symm⟩
    rw [Bool.eq_false_iff]
    intro hh
    have := hm.1 hh
    cases this
  | [a], h => simp only [firstTwo, Prod.mk.injEq] at h; omega
  | a :: b :: rest, h => simp only [firstTwo, Prod.mk.injEq] at h; omega
/-- Where a list of distinct places is no pairing, some tab does not fit its hole. -/
theorem bad_at {p : Ply} {tabs holes : List Edg} {L3 : List Int} (hn : L3.Nodup) (hb : ∀ x ∈ L3, 0 ≤ x ∧ x < holes.length) (hm : mayB p tabs holes L3 = false) : ∃ i, i < L3.length ∧ fitR p (tabs[i]?.getD noE) (holes[(L3[i]?.getD 0).toNat]?.getD noE) = 0 := by
  unfold mayB at hm
  rw [List.all_eq_false] at hm
  obtain ⟨i, hi, hk⟩ := hm
  have hi := List.mem_range.1 hi
  refine ⟨i, hi, ?_⟩
  have hx := hb _ (List.getElem_mem hi)
  have e : L3[i]?.getD 0 = L3[i] := by rw [List.getElem?_eq_getElem hi]; rfl
  have hnd : L3[i] ∉ L3.take i := by
    intro hmem
    obtain ⟨j, hj, hjj⟩ := List.mem_iff_getElem.1 hmem
    rw [List.length_take] at hj
    rw [List.getElem_take] at hjj
    exact List.pairwise_iff_getElem.1 hn j i (by omega) hi (by omega) hjj
  unfold okAt at hk
  rw [e, decide_eq_true hx.1, decide_eq_true hx.2] at hk
  have hc : (L3.take i).contains L3[i] = false := by simpa using hnd
  rw [hc] at hk
  rw [e]
  simpa using hk
end

section
open Go.RowKit Go.Shelf

theorem lessB_drop {a b : List Int} {k : Nat} (h1 : k < a.length) (h2 : k < b.length) : lessB (a.drop k) (b.drop k) = if a[k]?.getD 0 = b[k]?.getD 0 then lessB (a.drop (k + 1)) (b.drop (k + 1)) else decide (a[k]?.getD 0 < b[k]?.getD 0) := by
  rw [List.drop_eq_getElem_cons h1, List.drop_eq_getElem_cons h2, List.getElem?_eq_getElem h1, List.getElem?_eq_getElem h2]
  rfl

theorem ints_cell {w : World} {ao : Option Addr} {L : List Int} (h : IntsAt w ao L) {k : Nat} (hk : k < L.length) : ∃ b off, ao = some ⟨b, off, none⟩ ∧ b < w.heap.size ∧ w.cell? ⟨b, off + k, none⟩ = some (.int .i64 (L[k]?.getD 0)) := by
  obtain ⟨b, off, e, hb, hc⟩ := h.lies (by rintro rfl; simp at hk)
  exact ⟨b, off, e, hb, hc k hk⟩

set_option maxRecDepth 100000 in
set_option maxHeartbeats 4000000 in
theorem before_any (ao bo : Option Addr) (A B : List Int) (c d : Nat) (w : World) (hlen : A.length = B.length) (hs : A.length ≤ 1000) (ha : IntsAt w ao A) (hb : IntsAt w bo B) :
    Calls Try.prog 45 #[.slice ao A.length c, .slice bo B.length d] w fun e w' => e = .returned (.bool (lessB A B)) ∧ Mod noB w w' := by
  have HA := Hold.mk (And.intro ha hb)
  have HLEN := Hold.mk hlen
  clear ha hb hlen
  go_enter Try.func45, Try.ntmps45
  go_wp2
  go_loopw [8] (fun i wr => ∃ k : Nat, k ≤ A.length ∧ i = .int .i64 k ∧ Hold (Mod noB w wr ∧ lessB A B = lessB (A.drop k) (B.drop k))) (fun i _ => A.length - (intOf i).toNat)
  case atStart => exact ⟨0, by omega, rfl, ⟨Mod.refl _ _, rfl⟩⟩
  case round =>
    obtain ⟨k, hk, rfl, HK⟩ := hrel
    by_cases hlt : k < A.length
    · obtain ⟨x, e1⟩ : ∃ x, A[k]?.getD 0 = x := ⟨_, rfl⟩
      obtain ⟨y, e2⟩ : ∃ y, B[k]?.getD 0 = y := ⟨_, rfl⟩
      have hltB : k < B.length := by have := HLEN.out; omega
      obtain ⟨b1, f1, rfl, hb1, hc1⟩ := ints_cell (HA.out.1.mod HK.out.1) hlt
      obtain ⟨b2, f2, rfl, hb2, hc2⟩ := ints_cell (HA.out.2.mod HK.out.1) hltB
      rw [e1] at hc1
      rw [e2] at hc2
      have HD := Hold.mk (lessB_drop hlt hltB)
      rw [e1, e2] at HD
      clear e1 e2
      by_cases he : x = y
      · subst he
        have HD2 : Hold (lessB A B = lessB (A.drop (k + 1)) (B.drop (k + 1))) := ⟨by rw [HK.out.2, HD.out, if_pos rfl]⟩
        clear HD
        go_wp2_with fail
        go_region
        go_wp2_with fail
        go_roundw
        case rel => exact ⟨k + 1, by omega, by go_num, ⟨HK.out.1.drew, HD2.out⟩⟩
        case measure => simp [intOf]; omega
      · have hne : (x != y) = true := by simpa using he
        have HD2 : Hold (lessB A B = decide (x < y)) := ⟨by rw [HK.out.2, HD.out, if_neg he]⟩
        clear HD
        go_wp2_with fail
        go_region
        go_wp2_with fail
        go_region
        go_wp2_with fail
        go_ret
        exact ⟨by rw [HD2.out]; rfl, HK.out.1.drew.drew⟩
    · obtain rfl : k = A.length := by omega
      have HE : Hold (lessB A B = false) := ⟨by rw [HK.out.2, HLEN.out, List.drop_length, ← HLEN.out, List.drop_length]; rfl⟩
      go_wp2_with fail
      go_ret
      exact ⟨by rw [HE.out]; rfl, HK.out.1⟩
end

section
open Go.RowKit Go.Shelf

theorem wraps_small (n : Int) (h0 : 0 ≤ n) (h1 : n < 2 ^ 9) : IntKind.i64.wrap n = n := IntWalk.i64_in _ (by omega)
theorem bit_and {u y : Nat} (hu : u < 256) : bits .and .i64 ((u : Int) / 2 ^ y) 1 = if u.testBit y then 1 else 0 := by
  have e : (u : Int) / 2 ^ y = ((u / 2 ^ y : Nat) : Int) := by simp
  have hlt : u / 2 ^ y < 2 ^ 9 := Nat.lt_of_le_of_lt (Nat.div_le_self _ _) (by omega)
  rw [e, show (1 : Int) = ((1 : Nat) : Int) from rfl, (bits_nat .i64 9 (by decide) wraps_small (u / 2 ^ y) 1 hlt (by decide)).1, Nat.and_one_is_mod, Nat.testBit_eq_decide_div_mod_eq]
  have := Nat.mod_two_eq_zero_or_one (u / 2 ^ y)
  rcases this with h | h <;> simp [h]
theorem bit_or {u y : Nat} (hu : u < 256) (hy : y < 8) : bits .or .i64 (u : Int) (2 ^ y) = ((u ||| 2 ^ y : Nat) : Int) := by
  have e : ((2 : Int) ^ y) = ((2 ^ y : Nat) : Int) := by simp
  rw [e]
  exact (bits_nat .i64 9 (by decide) wraps_small u (2 ^ y) (by omega) (Nat.pow_lt_pow_right (by decide) (by omega))).2
theorem pow_small {y : Nat} (hy : y < 8) : wrap64 (2 ^ y) = 2 ^ y := by
  rcases (by omega : y = 0 ∨ y = 1 ∨ y = 2 ∨ y = 3 ∨ y = 4 ∨ y = 5 ∨ y = 6 ∨ y = 7) with rfl | rfl | rfl | rfl | rfl | rfl | rfl | rfl <;> first | rfl | decide +kernel
theorem bit_lt {u y : Nat} (hu : u < 256) (hy : y < 8) : u ||| 2 ^ y < 256 := Nat.or_lt_two_pow (n := 8) (by omega) (Nat.pow_lt_pow_right (by decide) hy)
theorem bit_is (u y j : Nat) : (u ||| 2 ^ y).testBit j = (u.testBit j || decide (j = y)) := by
  rw [Nat.testBit_or, Nat.testBit_two_pow]
  by_cases h : j = y
  · subst h; simp
  · simp [h, Ne.symm h]

def MK (p : Ply) (tabs holes : List Edg) (tt ho ao : Option Addr) (ct ch : Nat) (L : List Int) (pb tb hb : Nat) (w w' : World) : Prop :=
  (((Mod noB w w' ∧ w'.heap[pb]? = some (.cells (plC p) 25)) ∧ w'.heap[tb]? = some (.cells #[.slice tt tabs.length ct] 42)) ∧ w'.heap[hb]? = some (.cells #[.slice ho holes.length ch] 42)) ∧ (EdgesAt w' tt tabs ∧ EdgesAt w' ho holes ∧ IntsAt w' ao L)

/-- All is well up to this place, and here it is not. -/
theorem may_no {p : Ply} {tabs holes : List Edg} {L : List Int} {k : Nat} (hk : k < L.length) (h : okAt p tabs holes L k = false) : mayB p tabs holes L = false := by
  unfold mayB
  rw [List.all_eq_false]
  exact ⟨k, List.mem_range.2 hk, by rw [h]; simp⟩
theorem may_yes {p : Ply} {tabs holes : List Edg} {L : List Int} (h : ∀ j, j < L.length → okAt p tabs holes L j = true) : mayB p tabs holes L = true := by
  unfold mayB
  rw [List.all_eq_true]
  exact fun j hj => h j (List.mem_range.1 hj)
theorem edge_cell {w : World} {ao : Option Addr} {es : List Edg} (h : EdgesAt w ao es) {k : Nat} (hk : k < es.length) : ∃ b off, ao = some ⟨b, off, none⟩ ∧ b < w.heap.size ∧ EdgeAt w b (off + k * 7) (es[k]?.getD noE) := by
  obtain ⟨b, off, e, hb, hc⟩ := h.lies (by rintro rfl; simp at hk)
  exact ⟨b, off, e, hb, hc k _ (by rw [List.getElem?_eq_getElem hk]; rfl)⟩
theorem take_mem {L : List Int} {k : Nat} (hk : k < L.length) (j : Int) : j ∈ L.take (k + 1) ↔ j ∈ L.take k ∨ j = L[k]?.getD 0 := by
  rw [List.take_succ_eq_append_getElem hk, List.mem_append, List.mem_singleton, List.getElem?_eq_getElem hk]; rfl

set_option maxRecDepth 100000 in
set_option maxHeartbeats 4000000 in
theorem may_any (p : Ply) (tabs holes : List Edg) (tt ho ao : Option Addr) (ct ch c : Nat) (L : List Int) (pb tb hb : Nat) (w : World) (hlen : L.length = tabs.length) (h8 : tabs.length ≤ 8) (hh8 : holes.length ≤ 8)
    (hF : Hold (∀ (a b : Edg) (w : World), a ∈ tabs → b ∈ holes → Calls Try.prog 15 #[plV p, edV a, edV b] w fun e w' => e = .returned (.tuple #[.int .i64 (fitR p a b), .int .i64 0]) ∧ Mod noB w w'))
    (HM : Hold (Kept w (MK p tabs holes tt ho ao ct ch L pb tb hb w))) :
    Calls Try.prog 44 #[.slice ao L.length c, .pointer (some ⟨hb, 0, none⟩), .pointer (some ⟨pb, 0, none⟩), .pointer (some ⟨tb, 0, none⟩)] w fun e w' => e = .returned (.bool (mayB p tabs holes L)) ∧ Mod noB w w' := by
  have HLEN := Hold.mk hlen
  clear hlen
  go_enter Try.func44, Try.ntmps44
  go_wp2
  go_loopw [6, 13] (fun us i wr => ∃ (k u : Nat), k ≤ L.length ∧ u < 256 ∧ i = .int .i64 k ∧ us = .int .i64 u ∧ Hold (Kept wr (MK p tabs holes tt ho ao ct ch L pb tb hb w) ∧ (∀ j : Nat, j < 8 → (u.testBit j = true ↔ (j : Int) ∈ L.take k)) ∧ ∀ j, j < k → okAt p tabs holes L j = true)) (fun _ i _ => L.length - (intOf i).toNat)
  case atStart => exact ⟨0, 0, by omega, by omega, rfl, rfl, ⟨HM.out, fun j _ => by simp, fun j h => by omega⟩⟩
  case round =>
    obtain ⟨k, u, hk, hu, rfl, rfl, HK⟩ := hrel
    by_cases hlt : k < L.length
    · obtain ⟨x, e1⟩ : ∃ x, L[k]?.getD 0 = x := ⟨_, rfl⟩
      obtain ⟨b1, f1, rfl, hb1, hc1⟩ := ints_cell HK.out.1.now.2.2.2 hlt
      rw [e1] at hc1
      have hhb := cellsAt HK.out.1.now.1.2 0
      have hhl := (Array.getElem?_eq_some_iff.1 HK.out.1.now.1.2).1
      have HE := Hold.mk e1
      clear e1
      by_cases x0 : x < 0
      · have HB : Hold (mayB p tabs holes L = false) := ⟨may_no hlt (by unfold okAt; rw [HE.out, decide_eq_false (by omega)]; rfl)⟩
        go_wp2_with fail
        go_ret
        exact ⟨by rw [HB.out]; rfl, HK.out.1.now.1.1.1.1⟩
      by_cases x1 : (holes.length : Int) ≤ x
      · have HB : Hold (mayB p tabs holes L = false) := ⟨may_no hlt (by unfold okAt; rw [HE.out, decide_eq_false (p := x < holes.length) (by omega), Bool.and_false]; rfl)⟩
        go_wp2_with fail
        go_ret
        exact ⟨by rw [HB.out]; rfl, HK.out.1.now.1.1.1.1⟩
      obtain ⟨y, rfl⟩ : ∃ y : Nat, x = y := ⟨x.toNat, by omega⟩
      have hy : y < holes.length := by omega
      have HA := bit_and (u := u) (y := y) hu
      cases ht : u.testBit y with
      | true =>
        have HB : Hold (mayB p tabs holes L = false) := ⟨may_no hlt (by
          have hm := (HK.out.2.1 y (by omega)).1 ht
          unfold okAt
          rw [HE.out]
          have hc : (L.take k).contains (y : Int) = true := by simpa using hm
          rw [hc]
          simp)⟩
        rw [ht, if_pos rfl] at HA
        clear ht
        go_wp2_with fail
        go_ret
        exact ⟨by rw [HB.out]; rfl, HK.out.1.now.1.1.1.1⟩
      | false =>
        have HN : Hold ((y : Int) ∉ L.take k) := ⟨fun h => by have := (HK.out.2.1 y (by omega)).2 h; rw [ht] at this; cases this⟩
        rw [ht, if_neg (by simp)] at HA
        clear ht
        have HO := bit_or (u := u) (y := y) hu (by omega)
        have HW : wrap64 (2 ^ y) = 2 ^ y := pow_small (by omega)
        have hu2 := bit_lt (u := u) (y := y) hu (by omega)
        have HU : Hold (∀ j : Nat, j < 8 → ((u ||| 2 ^ y).testBit j = true ↔ (j : Int) ∈ L.take (k + 1))) := ⟨fun j hj => by
          rw [bit_is, take_mem hlt, HE.out, Bool.or_eq_true, decide_eq_true_eq, HK.out.2.1 j hj]
          exact or_congr Iff.rfl ⟨fun h => by omega, fun h => by omega⟩⟩
        go_upto_region 8 with fail
        clear HA HO HW
        generalize (u ||| 2 ^ y) = u2 at *
        have hltT : k < tabs.length := by have := HLEN.out; omega
        obtain ⟨bt, ft, rfl, hbt, hEt⟩ := edge_cell HK.out.1.now.2.1 hltT
        obtain ⟨bh, fh, rfl, hbh, hEh⟩ := edge_cell HK.out.1.now.2.2.1 hy
        have HTA : Hold (tabs[k]?.getD noE ∈ tabs ∧ holes[y]?.getD noE ∈ holes) := ⟨by rw [List.getElem?_eq_getElem hltT]; exact List.getElem_mem hltT, by rw [List.getElem?_eq_getElem hy]; exact List.getElem_mem hy⟩
        have HOK : Hold (okAt p tabs holes L k = !(fitR p (tabs[k]?.getD noE) (holes[y]?.getD noE) == 0)) := ⟨by
          unfold okAt
          have hc : (L.take k).contains (y : Int) = false := by simpa using HN.out
          rw [HE.out, hc, decide_eq_true (by omega), decide_eq_true (by omega), Int.toNat_natCast]; simp⟩
        have HFT : Hold (∀ w, Calls Try.prog 15 #[plV p, edV (tabs[k]?.getD noE), edV (holes[y]?.getD noE)] w fun e w' => e = .returned (.tuple #[.int .i64 (fitR p (tabs[k]?.getD noE) (holes[y]?.getD noE)), .int .i64 0]) ∧ Mod noB w w') := ⟨fun w => hF.out _ _ w HTA.out.1 HTA.out.2⟩
        have HTC : Hold (EdgeAt wr bt (ft + k * 7) (tabs[k]?.getD noE)) := ⟨hEt⟩
        have HXC : Hold (EdgeAt wr bh (fh + y * 7) (holes[y]?.getD noE)) := ⟨hEh⟩
        clear hEt hEh hc1 hhb
        generalize tabs[k]?.getD noE = ta at *
        generalize holes[y]?.getD noE = hx at *
        obtain ⟨F, hFF⟩ : ∃ F, fitR p ta hx = F := ⟨_, rfl⟩
        rw [hFF] at HOK HFT
        clear hFF
        refine region_quietP (by kernel_rfl) (by kernel_rfl) (fun W' => Mod noB wr W') ((Mod.refl _ _).drew) ?_
        repeat
          (first
            | go_big_quiet_skip
            | (go_big_quiet_want
               go_simp
               first
                 | go_big_quiet_on
                 | (apply Exists.intro
                    refine ⟨fun W' hC => ?_, ?_⟩
                    · obtain ⟨p0, p1, p2, p3, p4⟩ := PlayAt.of (HK.out.1 W' hC).1.1.1.2
                      have tbx := cellsAt (HK.out.1 W' hC).1.1.2 0
                      have hbx := cellsAt (HK.out.1 W' hC).1.2 0
                      obtain ⟨t0, t1, t2, t3, t4, t5, t6⟩ := HTC.out.same (hC.block bt hbt id)
                      obtain ⟨x0, x1, x2, x3, x4, x5, x6⟩ := HXC.out.same (hC.block bh hbh id)
                      first
                        | (go_at_call 15; (with_reducible refine (HFT.out _).mono ?_); exact fun e w'' he => ⟨he.1, hC.trans he.2⟩)
                        | with_reducible rfl
                        | (go_simp; first | rfl | exact ⟨rfl, rfl⟩)
                    go_big_quiet_on)
                 | (refine ⟨⟨_, fun _ _ => rfl⟩, ?_⟩; go_big_quiet_on)))
        refine wpQuiet_nil ?_
        intro Wq hq
        have HQ := Hold.mk hq
        clear hq
        by_cases hF0 : F = 0
        · have HB : Hold (mayB p tabs holes L = false) := ⟨may_no hlt (by rw [HOK.out, hF0]; rfl)⟩
          subst hF0
          go_wp2_with fail
          go_ret
          exact ⟨by rw [HB.out]; rfl, HK.out.1.now.1.1.1.1.trans HQ.out⟩
        · have hF1 : (F == 0) = false := by simpa using hF0
          have HOK2 : Hold (okAt p tabs holes L k = true) := ⟨by rw [HOK.out, hF1]; rfl⟩
          clear hF0
          go_wp2_with fail
          go_roundw
          case rel => exact ⟨k + 1, u2, by omega, hu2, by go_num, rfl, ⟨HK.out.1.later HQ.out, HU.out, fun j hj => by
            rcases Nat.lt_or_ge j k with h | h
            · exact HK.out.2.2 j h
            · obtain rfl : j = k := by omega
              exact HOK2.out⟩⟩
          case measure => simp [intOf]; omega
    · obtain rfl : k = L.length := by omega
      have HB : Hold (mayB p tabs holes L = true) := ⟨may_yes HK.out.2.2⟩
      have tbx := cellsAt HK.out.1.now.1.1.2 0
      have tbl := (Array.getElem?_eq_some_iff.1 HK.out.1.now.1.1.2).1
      have hle : (tabs.length : Int) = L.length := by rw [HLEN.out]
      rw [← HLEN.out] at tbx
      clear hle
      go_wp2_with fail
      go_ret
      exact ⟨by rw [HB.out]; simp, HK.out.1.now.1.1.1.1⟩
end
end Go.Proofs.Ytnjbamikfjdofaa

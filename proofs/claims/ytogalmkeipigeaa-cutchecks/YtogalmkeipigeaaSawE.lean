/- saw: the lines of a block, behind those done before. -/
import Derived.Test.YtogalmkeipigeaaSawD
import Derived.Test.YtogalmkeipigeaaSame
set_option linter.unusedSimpArgs false
set_option linter.unusedVariables false
namespace Go.Proofs.Ytogalmkeipigeaa
open Go.RowKit Go.Shelf

abbrev LineT := Bool × Int × Int × Int
/-- The lines of a block; none: it cannot be sawn. -/
def sawL (g : Int × Int → Option Int) : Nat → Nat → Nat → Nat → Nat → Option (List LineT)
  | 0, _, _, _, _ => none
  | f + 1, lt, tp, rt, bt => if wholeB (numbersL g lt tp rt bt) then some [] else
    match nextL g lt tp rt bt with
    | none => none
    | some ((u, at', fr, to), (a, b, c, d), (a', b', c', d')) => match sawL g f a b c d with
      | none => none
      | some L1 => match sawL g f a' b' c' d' with
        | none => none
        | some L2 => some ((u, (at' : Int), (fr : Int), (to : Int)) :: (L1 ++ L2))

theorem firstAt_in {p : Nat → Bool} : ∀ {n a i : Nat}, firstAt p a n = some i → a ≤ i ∧ i < a + n := by
  intro n
  induction n with
  | zero => intro a i h; cases h
  | succ n ih =>
    intro a i h
    simp only [firstAt] at h
    split at h
    · cases h; omega
    · have := ih h; omega
theorem nextL_in {g : Int × Int → Option Int} {lt tp rt bt : Nat} {r} (h : nextL g lt tp rt bt = some r) :
    (∃ y, tp < y ∧ y < bt ∧ r = ((false, y, lt, rt), (lt, tp, rt, y), (lt, y, rt, bt))) ∨ (∃ x, lt < x ∧ x < rt ∧ r = ((true, x, tp, bt), (lt, tp, x, bt), (x, tp, rt, bt))) := by
  unfold nextL at h
  split at h
  · rename_i y hy
    cases h
    have := firstAt_in hy
    exact .inl ⟨y, by omega, by omega, rfl⟩
  · split at h
    · rename_i x hx
      cases h
      have := firstAt_in hx
      exact .inr ⟨x, by omega, by omega, rfl⟩
    · cases h
theorem area_h {l r t y b : Nat} (h1 : l < r) (h2 : t < y) (h3 : y < b) : (r - l) * (y - t) + (r - l) * (b - y) = (r - l) * (b - t) ∧ 0 < (r - l) * (y - t) ∧ 0 < (r - l) * (b - y) := by
  refine ⟨?_, Nat.mul_pos (by omega) (by omega), Nat.mul_pos (by omega) (by omega)⟩
  rw [← Nat.mul_add]; congr 1; omega
theorem area_v {l r t x b : Nat} (h1 : t < b) (h2 : l < x) (h3 : x < r) : (x - l) * (b - t) + (r - x) * (b - t) = (r - l) * (b - t) ∧ 0 < (x - l) * (b - t) ∧ 0 < (r - x) * (b - t) := by
  refine ⟨?_, Nat.mul_pos (by omega) (by omega), Nat.mul_pos (by omega) (by omega)⟩
  rw [← Nat.add_mul]; congr 1; omega

theorem sawL_len {g : Int × Int → Option Int} : ∀ {f lt tp rt bt : Nat} {L : List LineT}, lt < rt → tp < bt → sawL g f lt tp rt bt = some L → L.length + 1 ≤ (rt - lt) * (bt - tp) := by
  intro f
  induction f with
  | zero => intro lt tp rt bt L _ _ h; cases h
  | succ f ih =>
    intro lt tp rt bt L h1 h2 h
    simp only [sawL] at h
    split at h
    · cases h; exact Nat.mul_pos (by omega) (by omega)
    · split at h
      · cases h
      · rename_i u at' fr to a b c d a' b' c' d' hn
        split at h
        · cases h
        · rename_i L1 hL1
          split at h
          · cases h
          · rename_i L2 hL2
            cases h
            rcases nextL_in hn with ⟨y, hy1, hy2, e⟩ | ⟨x, hx1, hx2, e⟩
            · simp only [Prod.mk.injEq] at e
              obtain ⟨_, ⟨rfl, rfl, rfl, rfl⟩, rfl, rfl, rfl, rfl⟩ := e
              have q1 := ih h1 hy1 hL1
              have q2 := ih h1 hy2 hL2
              have q3 := area_h h1 hy1 hy2
              simp only [List.length_cons, List.length_append]
              omega
            · simp only [Prod.mk.injEq] at e
              obtain ⟨_, ⟨rfl, rfl, rfl, rfl⟩, rfl, rfl, rfl, rfl⟩ := e
              have q1 := ih hx1 h2 hL1
              have q2 := ih hx2 h2 hL2
              have q3 := area_v h2 hx1 hx2
              simp only [List.length_cons, List.length_append]
              omega

/-- Of what lay, rows of lines from base on may have turned, and nothing else. -/
def R61 (base : Nat) (w w' : World) : Prop := Mod (fun k => base ≤ k ∧ ∃ cur, w.heap[k]? = some (.cells cur 61)) w w'
theorem R61.of {base : Nat} {w w' : World} (h : Mod noB w w') : R61 base w w' := h.wider (fun _ _ h => h.elim)
theorem R61.at {base : Nat} {w w' : World} (h : R61 base w w') {k : Nat} {o : Obj} (hk : w.heap[k]? = some o) (ho : ∀ cur, o ≠ .cells cur 61) : w'.heap[k]? = some o :=
  Mod.at h hk (by rintro ⟨_, cur, hc⟩; rw [hk] at hc; exact ho cur (by simpa using hc))
theorem R61.trans {base : Nat} {w w1 w2 : World} (h : R61 base w w1) (k : R61 base w1 w2) : R61 base w w2 :=
  Mod.then h k (fun i hi hT => by
    obtain ⟨hb, cur, hc⟩ := hT
    refine ⟨hb, ?_⟩
    apply Classical.byContradiction
    intro hno
    have e := Mod.block h i hi (fun ht => hno ht.2)
    exact hno ⟨cur, e.symm.trans hc⟩)
theorem R61.none {w w' : World} (h : R61 w.heap.size w w') : Mod noB w w' :=
  Mod.then (T := noB) (Mod.refl noB w) h (fun i hi hT => absurd hi (Nat.not_lt.2 hT.1))
theorem R61.map {base : Nat} {w w' : World} (h : R61 base w w') {mb : Nat} {g : Int × Int → Option Int} (hm : MapIs Try.prog 106 cellV w mb g) : MapIs Try.prog 106 cellV w' mb g := by
  have hm' := hm
  obtain ⟨es, c, hb, _⟩ := hm
  exact hm'.same ((h.at hb (fun cur e => by cases e)).trans hb.symm)
theorem R61.own {base : Nat} {w w' : World} {v : Value} {n : Nat} {xs : List Value} (hown : w.ownsRow base 61 4 v n xs) (hg : w.grownBy w' v.ownBlock) : R61 base w w' := by
  refine ⟨hg.os, hg.tape, hg.output, hg.size, fun i hi hT => hg.block i hi (fun e => hT ?_)⟩
  obtain ⟨_, ⟨rfl, _⟩ | ⟨g, cap, cur, rfl, hb, hh, _⟩⟩ := hown
  · cases e
  · have : some g = some i := e.symm
    cases this
    exact ⟨hb, cur, hh⟩
theorem own_mod {base e size n : Nat} {w w' : World} {v : Value} {xs : List Value} (h : w.ownsRow base e size v n xs) (hm : Mod noB w w') : w'.ownsRow base e size v n xs := by
  obtain ⟨h1, h2 | ⟨g, cap, cur, hv, hb, hh, hr⟩⟩ := h
  · exact ⟨h1, .inl h2⟩
  · exact ⟨h1, .inr ⟨g, cap, cur, hv, hb, hm.at hh id, hr⟩⟩

/-- What saw returns. -/
def SawOut (base : Nat) (D : List LineT) (e : Ending) (w w' : World) : Option (List LineT) → Prop
  | some L => ∃ v', e = .returned (.tuple #[v', .bool true]) ∧ w'.ownsRow base 61 4 v' (D ++ L).length (lineCells (D ++ L)) ∧ R61 base w w'
  | none => e = .returned (.tuple #[.slice none 0 0, .bool false]) ∧ R61 base w w'

theorem info61 : (Try.prog.info? 61).map (fun i => (i.zero, i.size, i.bytes)) = some (some (.agg #[.bool false, .int .i64 0, .int .i64 0, .int .i64 0]), 4, 32) := by kernel_rfl

set_option maxRecDepth 100000 in
set_option maxHeartbeats 4000000 in
theorem saw_any (g : Int × Int → Option Int) (W H : Nat) (G : Grid g W H) (N : Int) (mb : Nat) : ∀ (f lt tp rt bt : Nat), lt < rt → rt ≤ W → tp < bt → bt ≤ H → (rt - lt) * (bt - tp) ≤ f →
    ∀ (base : Nat) (w : World) (v : Value) (D : List LineT), base ≤ w.heap.size → w.ownsRow base 61 4 v D.length (lineCells D) → D.length + (rt - lt) * (bt - tp) ≤ 1000 → MapIs Try.prog 106 cellV w mb g →
      Calls Try.prog 56 #[picV W H N mb, blockV lt tp rt bt, v] w fun e w' => SawOut base D e w w' (sawL g f lt tp rt bt) := by
  intro f
  induction f with
  | zero => intro lt tp rt bt h1 _ h3 _ ha; have := Nat.mul_pos (show 0 < rt - lt by omega) (show 0 < bt - tp by omega); omega
  | succ f ih =>
    intro lt tp rt bt h1 h2 h3 h4 ha base w v D hbase hown hD hm
    have HIH := Hold.mk ih
    have HA := Hold.mk (And.intro ha hD)
    have HOW := Hold.mk hown
    have HM := Hold.mk hm
    have HG := Hold.mk G
    obtain ⟨va, vc, hv⟩ := own_slice hown
    clear ih ha hD hown hm G
    subst hv
    have HM0 := Hold.mk (((Mod.refl noB w).alloc (.cells #[.int .i64 W, .int .i64 H, .int .i64 N, .map (some mb)] 71)).alloc (.cells #[.int .i64 lt, .int .i64 tp, .int .i64 rt, .int .i64 bt] 97))
    have HWH := Hold.mk (whole_is g W H HG.out N mb lt tp rt bt (by omega) h2 (by omega) h4 _ (HM.out.same (HM0.out.block mb HM.out.lt id)))
    have HBL : Hold (∀ w', Mod noB ((w.alloc (.cells #[.int .i64 W, .int .i64 H, .int .i64 N, .map (some mb)] 71)).alloc (.cells #[.int .i64 lt, .int .i64 tp, .int .i64 rt, .int .i64 bt] 97)) w' →
        w'.heap[w.heap.size]? = some (.cells #[.int .i64 W, .int .i64 H, .int .i64 N, .map (some mb)] 71) ∧ w'.heap[w.heap.size + 1]? = some (.cells #[.int .i64 lt, .int .i64 tp, .int .i64 rt, .int .i64 bt] 97)) := ⟨fun w' h => by
      rw [allocL2] at h
      exact ⟨h.at (allocL_at [.cells #[.int .i64 W, .int .i64 H, .int .i64 N, .map (some mb)] 71, .cells #[.int .i64 lt, .int .i64 tp, .int .i64 rt, .int .i64 bt] 97] w 0 _ rfl) id, h.at (allocL_at [.cells #[.int .i64 W, .int .i64 H, .int .i64 N, .map (some mb)] 71, .cells #[.int .i64 lt, .int .i64 tp, .int .i64 rt, .int .i64 bt] 97] w 1 _ rfl) id⟩⟩
    cases hwh : wholeB (numbersL g lt tp rt bt) with
    | true =>
      rw [hwh] at HWH
      have hs : sawL g (f + 1) lt tp rt bt = some [] := by simp only [sawL]; rw [if_pos hwh]
      rw [hs]
      clear hs hwh
      go_enter Try.func56, Try.ntmps56
      go_wp2_with (go_at_call 78; refine HWH.out.mono ?_; rintro e w1 ⟨rfl, hM1⟩; have HM1 := Hold.mk hM1; clear hM1)
      go_ret2
      refine ⟨_, rfl, ?_, R61.of (HM0.out.trans HM1.out)⟩
      rw [List.append_nil]
      exact own_mod HOW.out (HM0.out.trans HM1.out)
    | false =>
      rw [hwh] at HWH
      have HWB := Hold.mk hwh
      clear hwh
      cases hnx : nextL g lt tp rt bt with
      | none =>
        have hs : sawL g (f + 1) lt tp rt bt = none := by simp only [sawL]; rw [if_neg (by rw [HWB.out]; simp), hnx]
        rw [hs]
        have HNX := Hold.mk hnx
        clear hs hnx
        go_enter Try.func56, Try.ntmps56
        go_wp2_with (first
          | (go_at_call 78; refine HWH.out.mono ?_; rintro e w1 ⟨rfl, hM1⟩
             obtain ⟨p0, p1, p2, p3⟩ := picAt_of (HBL.out _ hM1).1
             have hbb := (HBL.out _ hM1).2
             have b0 : w1.cell? ⟨w.heap.size + 1, 0, none⟩ = some (.int .i64 lt) := (by simp [World.cell?, hbb])
             have b1 : w1.cell? ⟨w.heap.size + 1, 1, none⟩ = some (.int .i64 tp) := (by simp [World.cell?, hbb])
             have b2 : w1.cell? ⟨w.heap.size + 1, 2, none⟩ = some (.int .i64 rt) := (by simp [World.cell?, hbb])
             have b3 : w1.cell? ⟨w.heap.size + 1, 3, none⟩ = some (.int .i64 bt) := (by simp [World.cell?, hbb])
             have HM1 := Hold.mk hM1
             clear hM1 hbb)
          | (go_at_call 79; refine (next_is g W H HG.out N mb lt tp rt bt h1 h2 h3 h4 w1 (HM.out.same ((HM0.out.trans HM1.out).block mb HM.out.lt id))).mono ?_; rintro e w2 ⟨hno, hM2⟩; rw [HNX.out] at hno; obtain rfl := hno; have HM2 := Hold.mk hM2; clear hM2))
        go_ret2
        exact ⟨rfl, R61.of (((HM0.out.trans HM1.out).trans HM2.out).alloc _)⟩
      | some r =>
        obtain ⟨⟨u, at', fr, to⟩, ⟨a, b, c, d⟩, a', b', c', d'⟩ := r
        have hin : a < c ∧ c ≤ W ∧ b < d ∧ d ≤ H ∧ a' < c' ∧ c' ≤ W ∧ b' < d' ∧ d' ≤ H ∧ (c - a) * (d - b) + (c' - a') * (d' - b') = (rt - lt) * (bt - tp) ∧ 0 < (c - a) * (d - b) ∧ 0 < (c' - a') * (d' - b') := by
          rcases nextL_in hnx with ⟨y, hy1, hy2, e⟩ | ⟨x, hx1, hx2, e⟩
          · simp only [Prod.mk.injEq] at e
            obtain ⟨_, ⟨rfl, rfl, rfl, rfl⟩, rfl, rfl, rfl, rfl⟩ := e
            exact ⟨h1, h2, hy1, by omega, h1, h2, hy2, h4, area_h h1 hy1 hy2⟩
          · simp only [Prod.mk.injEq] at e
            obtain ⟨_, ⟨rfl, rfl, rfl, rfl⟩, rfl, rfl, rfl, rfl⟩ := e
            exact ⟨hx1, by omega, h3, h4, hx2, h2, h3, h4, area_v h3 hx1 hx2⟩
        have hs : sawL g (f + 1) lt tp rt bt = match sawL g f a b c d with
          | none => none
          | some L1 => match sawL g f a' b' c' d' with
            | none => none
            | some L2 => some ((u, (at' : Int), (fr : Int), (to : Int)) :: (L1 ++ L2)) := by
          simp only [sawL]; rw [if_neg (by rw [HWB.out]; simp), hnx]
        have HNX := Hold.mk hnx
        have HIN := Hold.mk hin
        have hDl : D.length ≤ 1000 := by have := HA.out.2; omega
        obtain ⟨i0, hi, hz0, hz1, hz2⟩ := info_parts info61
        have H1 := Hold.mk (fun (w4 : World) (v4 : Value) (hb : base ≤ w4.heap.size) (ho : w4.ownsRow base 61 4 v4 (D ++ [(u, (at' : Int), (fr : Int), (to : Int))]).length (lineCells (D ++ [(u, (at' : Int), (fr : Int), (to : Int))]))) (hm4 : MapIs Try.prog 106 cellV w4 mb g) =>
          HIH.out a b c d HIN.out.1 HIN.out.2.1 HIN.out.2.2.1 HIN.out.2.2.2.1 (by have := HIN.out.2.2.2.2.2.2.2.2; have := HA.out.1; omega) base w4 v4 (D ++ [(u, (at' : Int), (fr : Int), (to : Int))]) hb ho (by have := HIN.out.2.2.2.2.2.2.2.2; have := HA.out.2; rw [List.length_append]; simp only [List.length_cons, List.length_nil]; omega) hm4)
        clear hnx hin
        rw [hs]
        clear hs
        cases ho1 : sawL g f a b c d with
        | none =>
          rw [ho1] at H1
          simp only
          clear ho1
          go_enter Try.func56, Try.ntmps56
          go_wp2_with (first
            | (go_at_call 78; refine HWH.out.mono ?_; rintro e w1 ⟨rfl, hM1⟩
               obtain ⟨p0, p1, p2, p3⟩ := picAt_of (HBL.out _ hM1).1
               have hbb := (HBL.out _ hM1).2
               have b0 : w1.cell? ⟨w.heap.size + 1, 0, none⟩ = some (.int .i64 lt) := (by simp [World.cell?, hbb])
               have b1 : w1.cell? ⟨w.heap.size + 1, 1, none⟩ = some (.int .i64 tp) := (by simp [World.cell?, hbb])
               have b2 : w1.cell? ⟨w.heap.size + 1, 2, none⟩ = some (.int .i64 rt) := (by simp [World.cell?, hbb])
               have b3 : w1.cell? ⟨w.heap.size + 1, 3, none⟩ = some (.int .i64 bt) := (by simp [World.cell?, hbb])
               have HM1 := Hold.mk hM1
               clear hM1 hbb)
            | (go_at_call 79; refine (next_is g W H HG.out N mb lt tp rt bt h1 h2 h3 h4 w1 (HM.out.same ((HM0.out.trans HM1.out).block mb HM.out.lt id))).mono ?_; rintro e w2 ⟨hno, hM2⟩; rw [HNX.out] at hno; obtain rfl := hno; have HM2 := Hold.mk hM2; clear hM2 p0 p1 p2 p3 b0 b1 b2 b3))
          obtain ⟨w3, hw3⟩ : ∃ w3, w2.alloc (.cells #[.bool u, .int .i64 at', .int .i64 fr, .int .i64 to, .int .i64 a, .int .i64 b, .int .i64 c, .int .i64 d, .int .i64 a', .int .i64 b', .int .i64 c', .int .i64 d'] 121) = w3 := ⟨_, rfl⟩
          rw [hw3]
          have HM3 : Hold (Mod noB w2 w3) := ⟨by rw [← hw3]; exact (Mod.refl _ _).alloc _⟩
          have HS3 : Hold (w3.heap[w2.heap.size]? = some (.cells #[.bool u, .int .i64 at', .int .i64 fr, .int .i64 to, .int .i64 a, .int .i64 b, .int .i64 c, .int .i64 d, .int .i64 a', .int .i64 b', .int .i64 c', .int .i64 d'] 121)) := ⟨by rw [← hw3]; exact World.alloc_heap_new _ _⟩
          clear hw3
          have HMW := Hold.mk (((HM0.out.trans HM1.out).trans HM2.out).trans HM3.out)
          have HP3 := Hold.mk (HBL.out _ ((HM1.out.trans HM2.out).trans HM3.out)).1
          have HIM : Hold (∀ w', R61 base w3 w' → (fun w' => Hold (R61 base w3 w') ∧ (w'.cell? ⟨w.heap.size, 0, none⟩ = some (.int .i64 W) ∧ w'.cell? ⟨w.heap.size, 1, none⟩ = some (.int .i64 H) ∧ w'.cell? ⟨w.heap.size, 2, none⟩ = some (.int .i64 N) ∧ w'.cell? ⟨w.heap.size, 3, none⟩ = some (.map (some mb))) ∧ w'.cell? ⟨w2.heap.size, 0, none⟩ = some (.bool u) ∧ w'.cell? ⟨w2.heap.size, 1, none⟩ = some (.int .i64 at') ∧ w'.cell? ⟨w2.heap.size, 2, none⟩ = some (.int .i64 fr) ∧ w'.cell? ⟨w2.heap.size, 3, none⟩ = some (.int .i64 to) ∧ w'.cell? ⟨w2.heap.size, 4, none⟩ = some (.int .i64 a) ∧ w'.cell? ⟨w2.heap.size, 5, none⟩ = some (.int .i64 b) ∧ w'.cell? ⟨w2.heap.size, 6, none⟩ = some (.int .i64 c) ∧ w'.cell? ⟨w2.heap.size, 7, none⟩ = some (.int .i64 d) ∧ w'.cell? ⟨w2.heap.size, 8, none⟩ = some (.int .i64 a') ∧ w'.cell? ⟨w2.heap.size, 9, none⟩ = some (.int .i64 b') ∧ w'.cell? ⟨w2.heap.size, 10, none⟩ = some (.int .i64 c') ∧ w'.cell? ⟨w2.heap.size, 11, none⟩ = some (.int .i64 d')) w') := ⟨fun w' h => by
            have e1 := h.at HP3.out (fun cur e => by cases e)
            have e2 := h.at HS3.out (fun cur e => by cases e)
            refine ⟨⟨h⟩, picAt_of e1, ?_, ?_, ?_, ?_, ?_, ?_, ?_, ?_, ?_, ?_, ?_, ?_⟩ <;> simp [World.cell?, e2]⟩
          have hb3 : base ≤ w3.heap.size := by have := HMW.out.size; omega
          refine wp_region_noPanic ?_
          refine wp_region_held_drew (S := (fun w' => Hold (R61 base w3 w') ∧ (w'.cell? ⟨w.heap.size, 0, none⟩ = some (.int .i64 W) ∧ w'.cell? ⟨w.heap.size, 1, none⟩ = some (.int .i64 H) ∧ w'.cell? ⟨w.heap.size, 2, none⟩ = some (.int .i64 N) ∧ w'.cell? ⟨w.heap.size, 3, none⟩ = some (.map (some mb))) ∧ w'.cell? ⟨w2.heap.size, 0, none⟩ = some (.bool u) ∧ w'.cell? ⟨w2.heap.size, 1, none⟩ = some (.int .i64 at') ∧ w'.cell? ⟨w2.heap.size, 2, none⟩ = some (.int .i64 fr) ∧ w'.cell? ⟨w2.heap.size, 3, none⟩ = some (.int .i64 to) ∧ w'.cell? ⟨w2.heap.size, 4, none⟩ = some (.int .i64 a) ∧ w'.cell? ⟨w2.heap.size, 5, none⟩ = some (.int .i64 b) ∧ w'.cell? ⟨w2.heap.size, 6, none⟩ = some (.int .i64 c) ∧ w'.cell? ⟨w2.heap.size, 7, none⟩ = some (.int .i64 d) ∧ w'.cell? ⟨w2.heap.size, 8, none⟩ = some (.int .i64 a') ∧ w'.cell? ⟨w2.heap.size, 9, none⟩ = some (.int .i64 b') ∧ w'.cell? ⟨w2.heap.size, 10, none⟩ = some (.int .i64 c') ∧ w'.cell? ⟨w2.heap.size, 11, none⟩ = some (.int .i64 d'))) mixed (HIM.out _ (R61.of (Mod.refl _ _).drew)) (fun hHeld => ?_)
          have HD : Hold (Mod noB w3 w3.drew) := ⟨(Mod.refl _ _).drew⟩
          generalize hwd : w3.drew = wd at *
          clear hwd
          have hbd : base ≤ wd.heap.size := by have := HD.out.size; omega
          refine wpAnyH_take (i := 0) (oi := { dst := some 23, op := Op.load 71 (Operand.tmp 3), type := 71, pos := "saw.go:114", after := #[], guard := none }) (v := ?_) rfl (by kernel_rfl) (by kernel_rfl) (by kernel_rfl) (fun _ _ _ h => h) (Or.inl ⟨by rfl, ?_⟩) (by assumption) ?_
          rotate_left
          · intro w hSw
            (try dsimp only at hSw)
            go_simp
            first | done | with_reducible rfl
          try simp only [Act.put, List.setIfInBounds_toArray, List.set_cons_zero, List.set_cons_succ]
          refine wpAnyH_take (i := 1) (oi := { dst := some 24, op := Op.fieldAddr 121 (Operand.tmp 8) 1, type := 0, pos := "saw.go:114", after := #[], guard := none }) (v := ?_) rfl (by kernel_rfl) (by kernel_rfl) (by kernel_rfl) (fun _ _ _ h => h) (Or.inl ⟨by rfl, ?_⟩) (by assumption) ?_
          rotate_left
          · intro w hSw
            (try dsimp only at hSw)
            go_simp
            first | done | with_reducible rfl
          try simp only [Act.put, List.setIfInBounds_toArray, List.set_cons_zero, List.set_cons_succ]
          refine wpAnyH_take (i := 2) (oi := { dst := some 25, op := Op.load 97 (Operand.tmp 24), type := 97, pos := "saw.go:114", after := #[{ on := 1, ground := Ground.data }], guard := none }) (v := ?_) rfl (by kernel_rfl) (by kernel_rfl) (by kernel_rfl) (fun _ _ _ h => h) (Or.inl ⟨by rfl, ?_⟩) (by assumption) ?_
          rotate_left
          · intro w hSw
            (try dsimp only at hSw)
            go_simp
            first | done | with_reducible rfl
          try simp only [Act.put, List.setIfInBounds_toArray, List.set_cons_zero, List.set_cons_succ]
          refine wpAnyH_take (i := 3) (oi := { dst := some 26, op := Op.move (Operand.tmp 2), type := 42, pos := "saw.go:114", after := #[], guard := none }) (v := ?_) rfl (by kernel_rfl) (by kernel_rfl) (by kernel_rfl) (fun _ _ _ h => h) (Or.inl ⟨by rfl, ?_⟩) (by assumption) ?_
          rotate_left
          · intro w hSw
            (try dsimp only at hSw)
            go_simp
            first | done | with_reducible rfl
          try simp only [Act.put, List.setIfInBounds_toArray, List.set_cons_zero, List.set_cons_succ]
          refine wpAnyH_take (i := 4) (oi := { dst := some 27, op := Op.fieldAddr 121 (Operand.tmp 8) 0, type := 0, pos := "saw.go:114", after := #[], guard := none }) (v := ?_) rfl (by kernel_rfl) (by kernel_rfl) (by kernel_rfl) (fun _ _ _ h => h) (Or.inl ⟨by rfl, ?_⟩) (by assumption) ?_
          rotate_left
          · intro w hSw
            (try dsimp only at hSw)
            go_simp
            first | done | with_reducible rfl
          try simp only [Act.put, List.setIfInBounds_toArray, List.set_cons_zero, List.set_cons_succ]
          refine wpAnyH_take (i := 5) (oi := { dst := some 28, op := Op.load 61 (Operand.tmp 27), type := 61, pos := "saw.go:114", after := #[{ on := 4, ground := Ground.data }], guard := none }) (v := ?_) rfl (by kernel_rfl) (by kernel_rfl) (by kernel_rfl) (fun _ _ _ h => h) (Or.inl ⟨by rfl, ?_⟩) (by assumption) ?_
          rotate_left
          · intro w hSw
            (try dsimp only at hSw)
            go_simp
            first | done | with_reducible rfl
          try simp only [Act.put, List.setIfInBounds_toArray, List.set_cons_zero, List.set_cons_succ]
          refine wpAnyH_ready (rs := [6]) (by kernel_rfl) (by simp) (AllReadyH.cons (o := { dst := some 29, op := Op.buildSlice 42 1 #[(0, Operand.tmp 28)], type := 42, pos := "saw.go:114", after := #[{ on := 5, ground := Ground.data }], guard := none }) rfl (fun K hK => ?_) AllReadyH.nil)
          go_simp
          refine hK.out _ _ ?_ (fun hHeld => ?_)
          · exact HIM.out _ (R61.of (HD.out.alloc _))
          clear hK K
          try simp only [Act.put, List.setIfInBounds_toArray, List.set_cons_zero, List.set_cons_succ]
          have hnw := World.alloc_heap_new wd (.cells #[.bool u, .int .i64 at', .int .i64 fr, .int .i64 to] 61)
          have HNW := Hold.mk (fun j q (hj : [Value.bool u, .int .i64 at', .int .i64 fr, .int .i64 to][j]? = some q) => (show (wd.alloc (.cells #[.bool u, .int .i64 at', .int .i64 fr, .int .i64 to] 61)).cell? (Addr.add ⟨wd.heap.size, 0, none⟩ j) = some q from by
            have ea : Addr.add ⟨wd.heap.size, 0, none⟩ j = ⟨wd.heap.size, j, none⟩ := by simp [Addr.add]; omega
            rw [ea]
            simp only [World.cell?, hnw]
            rcases j with _ | _ | _ | _ | j
            · simpa using hj
            · simpa using hj
            · simpa using hj
            · simpa using hj
            · simp at hj))
          clear hnw
          refine wpAnyH_ready (rs := [7]) (by kernel_rfl) (by simp) (AllReadyH.cons (o := { dst := some 30, op := Op.call { callee := Callee.builtin Builtin.append, args := #[Operand.tmp 26, Operand.tmp 29], argTypes := #[42, 42] }, type := 42, pos := "saw.go:114", after := #[{ on := 3, ground := Ground.data }, { on := 6, ground := Ground.data }], guard := none }) rfl (fun K hK => ?_) AllReadyH.nil)
          rw [if_pos (by rfl)]
          refine wp_append_own _ (.tmp 26) (.tmp 29) 42 rfl base 61 i0 _ 4 32 Try.underlying42 hi hz0 hz1 hz2 rfl (by decide) _ D.length (lineCells D) rfl ((own_mod HOW.out (HMW.out.trans HD.out)).alloc _) ⟨wd.heap.size, 0, none⟩ 1 1 [.bool u, .int .i64 at', .int .i64 fr, .int .i64 to] rfl rfl HNW.out (by simp [Value.oneCell']) (by unfold maxLen; omega) (by omega) (by simp; omega) ?_
          intro v4 w4 hown4 hgr _
          have hr4 : R61 base w3 w4 := (R61.of (HD.out.alloc _)).trans (R61.own ((own_mod HOW.out (HMW.out.trans HD.out)).alloc _) hgr)
          have hown4' : w4.ownsRow base 61 4 v4 (D ++ [(u, (at' : Int), (fr : Int), (to : Int))]).length (lineCells (D ++ [(u, (at' : Int), (fr : Int), (to : Int))])) := by
            have e : lineCells (D ++ [(u, (at' : Int), (fr : Int), (to : Int))]) = lineCells D ++ [.bool u, .int .i64 at', .int .i64 fr, .int .i64 to] := by simp [lineCells]
            rw [e, List.length_append]
            exact hown4
          have HR4 := Hold.mk (And.intro hr4 hown4')
          have hb4 : base ≤ w4.heap.size := by have := Mod.size hr4; omega
          clear hown4 hgr hr4 hown4'
          refine hK.out _ _ ?_ (fun hHeld => ?_)
          · exact HIM.out _ HR4.out.1
          clear hK K
          try simp only [Act.put, List.setIfInBounds_toArray, List.set_cons_zero, List.set_cons_succ]
          refine wpAnyH_ready (rs := [8]) (by kernel_rfl) (by simp) (AllReadyH.cons (o := { dst := some 31, op := Op.call { callee := Callee.value (Operand.func 56), args := #[Operand.tmp 23, Operand.tmp 25, Operand.tmp 30], argTypes := #[71, 97, 42] }, type := 94, pos := "saw.go:114", after := #[{ on := 0, ground := Ground.data }, { on := 2, ground := Ground.data }, { on := 7, ground := Ground.data }, { on := 7, ground := Ground.chain }], guard := none }) rfl (fun K hK => ?_) AllReadyH.nil)
          go_simp
          go_at_call 56; refine (H1.out w4 v4 hb4 HR4.out.2 (HR4.out.1.map (HM.out.same (HMW.out.block mb HM.out.lt id)))).mono ?_; rintro e w5 ⟨rfl, hR5⟩
          have HR5 := Hold.mk (HR4.out.1.trans hR5)
          clear hR5
          go_wp2_with fail
          refine hK.out _ _ ?_ (fun hHeld => ?_)
          · exact HIM.out _ HR5.out
          clear hK K
          try simp only [Act.put, List.setIfInBounds_toArray, List.set_cons_zero, List.set_cons_succ]
          refine wpAnyH_take (i := 9) (oi := { dst := some 22, op := Op.move (Operand.tmp 31), type := 94, pos := "saw.go:114", after := #[{ on := 8, ground := Ground.data }], guard := none }) (v := ?_) rfl (by kernel_rfl) (by kernel_rfl) (by kernel_rfl) (fun _ _ _ h => h) (Or.inl ⟨by rfl, ?_⟩) (by assumption) ?_
          rotate_left
          · intro w hSw
            (try dsimp only at hSw)
            go_simp
            first | done | with_reducible rfl
          try simp only [Act.put, List.setIfInBounds_toArray, List.set_cons_zero, List.set_cons_succ]
          refine wpAnyH_take (i := 10) (oi := { dst := some 32, op := Op.extract (Operand.tmp 22) 0, type := 42, pos := "saw.go:114", after := #[{ on := 9, ground := Ground.data }], guard := none }) (v := ?_) rfl (by kernel_rfl) (by kernel_rfl) (by kernel_rfl) (fun _ _ _ h => h) (Or.inl ⟨by rfl, ?_⟩) (by assumption) ?_
          rotate_left
          · intro w hSw
            (try dsimp only at hSw)
            go_simp
            first | done | with_reducible rfl
          try simp only [Act.put, List.setIfInBounds_toArray, List.set_cons_zero, List.set_cons_succ]
          refine wpAnyH_take (i := 11) (oi := { dst := some 33, op := Op.extract (Operand.tmp 22) 1, type := 4, pos := "saw.go:114", after := #[{ on := 9, ground := Ground.data }, { on := 12, ground := Ground.gcOnly Departure.lateStores }], guard := none }) (v := ?_) rfl (by kernel_rfl) (by kernel_rfl) (by kernel_rfl) (fun _ _ _ h => h) (Or.inl ⟨by rfl, ?_⟩) (by assumption) ?_
          rotate_left
          · intro w hSw
            (try dsimp only at hSw)
            go_simp
            first | done | with_reducible rfl
          try simp only [Act.put, List.setIfInBounds_toArray, List.set_cons_zero, List.set_cons_succ]
          refine wpAnyH_take (i := 12) (oi := { dst := some 2, op := Op.assign (Operand.tmp 32), type := 42, pos := "saw.go:114", after := #[{ on := 10, ground := Ground.data }, { on := 8, ground := Ground.chain }, { on := 0, ground := Ground.phase }, { on := 1, ground := Ground.phase }, { on := 2, ground := Ground.phase }, { on := 3, ground := Ground.phase }, { on := 4, ground := Ground.phase }, { on := 5, ground := Ground.phase }, { on := 6, ground := Ground.phase }, { on := 7, ground := Ground.phase }, { on := 8, ground := Ground.phase }, { on := 9, ground := Ground.phase }, { on := 10, ground := Ground.phase }, { on := 11, ground := Ground.textOnly Departure.lateStores }], guard := none }) (v := ?_) rfl (by kernel_rfl) (by kernel_rfl) (by kernel_rfl) (fun _ _ _ h => h) (Or.inl ⟨by rfl, ?_⟩) (by assumption) ?_
          rotate_left
          · intro w hSw
            (try dsimp only at hSw)
            go_simp
            first | done | with_reducible rfl
          try simp only [Act.put, List.setIfInBounds_toArray, List.set_cons_zero, List.set_cons_succ]
          refine wpAnyH_take (i := 13) (oi := { dst := some 9, op := Op.assign (Operand.tmp 33), type := 4, pos := "saw.go:114", after := #[{ on := 11, ground := Ground.data }, { on := 12, ground := Ground.chain }, { on := 0, ground := Ground.phase }, { on := 1, ground := Ground.phase }, { on := 2, ground := Ground.phase }, { on := 3, ground := Ground.phase }, { on := 4, ground := Ground.phase }, { on := 5, ground := Ground.phase }, { on := 6, ground := Ground.phase }, { on := 7, ground := Ground.phase }, { on := 8, ground := Ground.phase }, { on := 9, ground := Ground.phase }, { on := 10, ground := Ground.phase }, { on := 11, ground := Ground.phase }, { on := 12, ground := Ground.phase }], guard := none }) (v := ?_) rfl (by kernel_rfl) (by kernel_rfl) (by kernel_rfl) (fun _ _ _ h => h) (Or.inl ⟨by rfl, ?_⟩) (by assumption) ?_
          rotate_left
          · intro w hSw
            (try dsimp only at hSw)
            go_simp
            first | done | with_reducible rfl
          try simp only [Act.put, List.setIfInBounds_toArray, List.set_cons_zero, List.set_cons_succ]
          refine wpAnyH_done (by kernel_rfl) ?_ _
          refine NoPanic.normal ?_
          clear hHeld
          go_wp2
          go_ret2
          exact ⟨rfl, (R61.of HMW.out).trans HR5.out⟩
        | some L1 =>
          rw [ho1] at H1
          have hl1 := sawL_len HIN.out.1 HIN.out.2.2.1 ho1
          have H2 := Hold.mk (fun (w4 : World) (v4 : Value) (hb : base ≤ w4.heap.size) (ho : w4.ownsRow base 61 4 v4 (D ++ [(u, (at' : Int), (fr : Int), (to : Int))] ++ L1).length (lineCells (D ++ [(u, (at' : Int), (fr : Int), (to : Int))] ++ L1))) (hm4 : MapIs Try.prog 106 cellV w4 mb g) =>
            HIH.out a' b' c' d' HIN.out.2.2.2.2.1 HIN.out.2.2.2.2.2.1 HIN.out.2.2.2.2.2.2.1 HIN.out.2.2.2.2.2.2.2.1 (by have := HIN.out.2.2.2.2.2.2.2.2; have := HA.out.1; omega) base w4 v4 (D ++ [(u, (at' : Int), (fr : Int), (to : Int))] ++ L1) hb ho (by have := HIN.out.2.2.2.2.2.2.2.2; have := HA.out.2; rw [List.length_append, List.length_append]; simp only [List.length_cons, List.length_nil]; omega) hm4)
          simp only
          clear ho1
          cases ho2 : sawL g f a' b' c' d' with
          | none =>
            rw [ho2] at H2
            simp only
            clear ho2
            go_enter Try.func56, Try.ntmps56
            go_wp2_with (first
              | (go_at_call 78; refine HWH.out.mono ?_; rintro e w1 ⟨rfl, hM1⟩
                 obtain ⟨p0, p1, p2, p3⟩ := picAt_of (HBL.out _ hM1).1
                 have hbb := (HBL.out _ hM1).2
                 have b0 : w1.cell? ⟨w.heap.size + 1, 0, none⟩ = some (.int .i64 lt) := (by simp [World.cell?, hbb])
                 have b1 : w1.cell? ⟨w.heap.size + 1, 1, none⟩ = some (.int .i64 tp) := (by simp [World.cell?, hbb])
                 have b2 : w1.cell? ⟨w.heap.size + 1, 2, none⟩ = some (.int .i64 rt) := (by simp [World.cell?, hbb])
                 have b3 : w1.cell? ⟨w.heap.size + 1, 3, none⟩ = some (.int .i64 bt) := (by simp [World.cell?, hbb])
                 have HM1 := Hold.mk hM1
                 clear hM1 hbb)
              | (go_at_call 79; refine (next_is g W H HG.out N mb lt tp rt bt h1 h2 h3 h4 w1 (HM.out.same ((HM0.out.trans HM1.out).block mb HM.out.lt id))).mono ?_; rintro e w2 ⟨hno, hM2⟩; rw [HNX.out] at hno; obtain rfl := hno; have HM2 := Hold.mk hM2; clear hM2 p0 p1 p2 p3 b0 b1 b2 b3))
            obtain ⟨w3, hw3⟩ : ∃ w3, w2.alloc (.cells #[.bool u, .int .i64 at', .int .i64 fr, .int .i64 to, .int .i64 a, .int .i64 b, .int .i64 c, .int .i64 d, .int .i64 a', .int .i64 b', .int .i64 c', .int .i64 d'] 121) = w3 := ⟨_, rfl⟩
            rw [hw3]
            have HM3 : Hold (Mod noB w2 w3) := ⟨by rw [← hw3]; exact (Mod.refl _ _).alloc _⟩
            have HS3 : Hold (w3.heap[w2.heap.size]? = some (.cells #[.bool u, .int .i64 at', .int .i64 fr, .int .i64 to, .int .i64 a, .int .i64 b, .int .i64 c, .int .i64 d, .int .i64 a', .int .i64 b', .int .i64 c', .int .i64 d'] 121)) := ⟨by rw [← hw3]; exact World.alloc_heap_new _ _⟩
            clear hw3
            have HMW := Hold.mk (((HM0.out.trans HM1.out).trans HM2.out).trans HM3.out)
            have HP3 := Hold.mk (HBL.out _ ((HM1.out.trans HM2.out).trans HM3.out)).1
            have HIM : Hold (∀ w', R61 base w3 w' → (fun w' => Hold (R61 base w3 w') ∧ (w'.cell? ⟨w.heap.size, 0, none⟩ = some (.int .i64 W) ∧ w'.cell? ⟨w.heap.size, 1, none⟩ = some (.int .i64 H) ∧ w'.cell? ⟨w.heap.size, 2, none⟩ = some (.int .i64 N) ∧ w'.cell? ⟨w.heap.size, 3, none⟩ = some (.map (some mb))) ∧ w'.cell? ⟨w2.heap.size, 0, none⟩ = some (.bool u) ∧ w'.cell? ⟨w2.heap.size, 1, none⟩ = some (.int .i64 at') ∧ w'.cell? ⟨w2.heap.size, 2, none⟩ = some (.int .i64 fr) ∧ w'.cell? ⟨w2.heap.size, 3, none⟩ = some (.int .i64 to) ∧ w'.cell? ⟨w2.heap.size, 4, none⟩ = some (.int .i64 a) ∧ w'.cell? ⟨w2.heap.size, 5, none⟩ = some (.int .i64 b) ∧ w'.cell? ⟨w2.heap.size, 6, none⟩ = some (.int .i64 c) ∧ w'.cell? ⟨w2.heap.size, 7, none⟩ = some (.int .i64 d) ∧ w'.cell? ⟨w2.heap.size, 8, none⟩ = some (.int .i64 a') ∧ w'.cell? ⟨w2.heap.size, 9, none⟩ = some (.int .i64 b') ∧ w'.cell? ⟨w2.heap.size, 10, none⟩ = some (.int .i64 c') ∧ w'.cell? ⟨w2.heap.size, 11, none⟩ = some (.int .i64 d')) w') := ⟨fun w' h => by
              have e1 := h.at HP3.out (fun cur e => by cases e)
              have e2 := h.at HS3.out (fun cur e => by cases e)
              refine ⟨⟨h⟩, picAt_of e1, ?_, ?_, ?_, ?_, ?_, ?_, ?_, ?_, ?_, ?_, ?_, ?_⟩ <;> simp [World.cell?, e2]⟩
            have hb3 : base ≤ w3.heap.size := by have := HMW.out.size; omega
            refine wp_region_noPanic ?_
            refine wp_region_held_drew (S := (fun w' => Hold (R61 base w3 w') ∧ (w'.cell? ⟨w.heap.size, 0, none⟩ = some (.int .i64 W) ∧ w'.cell? ⟨w.heap.size, 1, none⟩ = some (.int .i64 H) ∧ w'.cell? ⟨w.heap.size, 2, none⟩ = some (.int .i64 N) ∧ w'.cell? ⟨w.heap.size, 3, none⟩ = some (.map (some mb))) ∧ w'.cell? ⟨w2.heap.size, 0, none⟩ = some (.bool u) ∧ w'.cell? ⟨w2.heap.size, 1, none⟩ = some (.int .i64 at') ∧ w'.cell? ⟨w2.heap.size, 2, none⟩ = some (.int .i64 fr) ∧ w'.cell? ⟨w2.heap.size, 3, none⟩ = some (.int .i64 to) ∧ w'.cell? ⟨w2.heap.size, 4, none⟩ = some (.int .i64 a) ∧ w'.cell? ⟨w2.heap.size, 5, none⟩ = some (.int .i64 b) ∧ w'.cell? ⟨w2.heap.size, 6, none⟩ = some (.int .i64 c) ∧ w'.cell? ⟨w2.heap.size, 7, none⟩ = some (.int .i64 d) ∧ w'.cell? ⟨w2.heap.size, 8, none⟩ = some (.int .i64 a') ∧ w'.cell? ⟨w2.heap.size, 9, none⟩ = some (.int .i64 b') ∧ w'.cell? ⟨w2.heap.size, 10, none⟩ = some (.int .i64 c') ∧ w'.cell? ⟨w2.heap.size, 11, none⟩ = some (.int .i64 d'))) mixed (HIM.out _ (R61.of (Mod.refl _ _).drew)) (fun hHeld => ?_)
            have HD : Hold (Mod noB w3 w3.drew) := ⟨(Mod.refl _ _).drew⟩
            generalize hwd : w3.drew = wd at *
            clear hwd
            have hbd : base ≤ wd.heap.size := by have := HD.out.size; omega
            refine wpAnyH_take (i := 0) (oi := { dst := some 23, op := Op.load 71 (Operand.tmp 3), type := 71, pos := "saw.go:114", after := #[], guard := none }) (v := ?_) rfl (by kernel_rfl) (by kernel_rfl) (by kernel_rfl) (fun _ _ _ h => h) (Or.inl ⟨by rfl, ?_⟩) (by assumption) ?_
            rotate_left
            · intro w hSw
              (try dsimp only at hSw)
              go_simp
              first | done | with_reducible rfl
            try simp only [Act.put, List.setIfInBounds_toArray, List.set_cons_zero, List.set_cons_succ]
            refine wpAnyH_take (i := 1) (oi := { dst := some 24, op := Op.fieldAddr 121 (Operand.tmp 8) 1, type := 0, pos := "saw.go:114", after := #[], guard := none }) (v := ?_) rfl (by kernel_rfl) (by kernel_rfl) (by kernel_rfl) (fun _ _ _ h => h) (Or.inl ⟨by rfl, ?_⟩) (by assumption) ?_
            rotate_left
            · intro w hSw
              (try dsimp only at hSw)
              go_simp
              first | done | with_reducible rfl
            try simp only [Act.put, List.setIfInBounds_toArray, List.set_cons_zero, List.set_cons_succ]
            refine wpAnyH_take (i := 2) (oi := { dst := some 25, op := Op.load 97 (Operand.tmp 24), type := 97, pos := "saw.go:114", after := #[{ on := 1, ground := Ground.data }], guard := none }) (v := ?_) rfl (by kernel_rfl) (by kernel_rfl) (by kernel_rfl) (fun _ _ _ h => h) (Or.inl ⟨by rfl, ?_⟩) (by assumption) ?_
            rotate_left
            · intro w hSw
              (try dsimp only at hSw)
              go_simp
              first | done | with_reducible rfl
            try simp only [Act.put, List.setIfInBounds_toArray, List.set_cons_zero, List.set_cons_succ]
            refine wpAnyH_take (i := 3) (oi := { dst := some 26, op := Op.move (Operand.tmp 2), type := 42, pos := "saw.go:114", after := #[], guard := none }) (v := ?_) rfl (by kernel_rfl) (by kernel_rfl) (by kernel_rfl) (fun _ _ _ h => h) (Or.inl ⟨by rfl, ?_⟩) (by assumption) ?_
            rotate_left
            · intro w hSw
              (try dsimp only at hSw)
              go_simp
              first | done | with_reducible rfl
            try simp only [Act.put, List.setIfInBounds_toArray, List.set_cons_zero, List.set_cons_succ]
            refine wpAnyH_take (i := 4) (oi := { dst := some 27, op := Op.fieldAddr 121 (Operand.tmp 8) 0, type := 0, pos := "saw.go:114", after := #[], guard := none }) (v := ?_) rfl (by kernel_rfl) (by kernel_rfl) (by kernel_rfl) (fun _ _ _ h => h) (Or.inl ⟨by rfl, ?_⟩) (by assumption) ?_
            rotate_left
            · intro w hSw
              (try dsimp only at hSw)
              go_simp
              first | done | with_reducible rfl
            try simp only [Act.put, List.setIfInBounds_toArray, List.set_cons_zero, List.set_cons_succ]
            refine wpAnyH_take (i := 5) (oi := { dst := some 28, op := Op.load 61 (Operand.tmp 27), type := 61, pos := "saw.go:114", after := #[{ on := 4, ground := Ground.data }], guard := none }) (v := ?_) rfl (by kernel_rfl) (by kernel_rfl) (by kernel_rfl) (fun _ _ _ h => h) (Or.inl ⟨by rfl, ?_⟩) (by assumption) ?_
            rotate_left
            · intro w hSw
              (try dsimp only at hSw)
              go_simp
              first | done | with_reducible rfl
            try simp only [Act.put, List.setIfInBounds_toArray, List.set_cons_zero, List.set_cons_succ]
            refine wpAnyH_ready (rs := [6]) (by kernel_rfl) (by simp) (AllReadyH.cons (o := { dst := some 29, op := Op.buildSlice 42 1 #[(0, Operand.tmp 28)], type := 42, pos := "saw.go:114", after := #[{ on := 5, ground := Ground.data }], guard := none }) rfl (fun K hK => ?_) AllReadyH.nil)
            go_simp
            refine hK.out _ _ ?_ (fun hHeld => ?_)
            · exact HIM.out _ (R61.of (HD.out.alloc _))
            clear hK K
            try simp only [Act.put, List.setIfInBounds_toArray, List.set_cons_zero, List.set_cons_succ]
            have hnw := World.alloc_heap_new wd (.cells #[.bool u, .int .i64 at', .int .i64 fr, .int .i64 to] 61)
            have HNW := Hold.mk (fun j q (hj : [Value.bool u, .int .i64 at', .int .i64 fr, .int .i64 to][j]? = some q) => (show (wd.alloc (.cells #[.bool u, .int .i64 at', .int .i64 fr, .int .i64 to] 61)).cell? (Addr.add ⟨wd.heap.size, 0, none⟩ j) = some q from by
              have ea : Addr.add ⟨wd.heap.size, 0, none⟩ j = ⟨wd.heap.size, j, none⟩ := by simp [Addr.add]; omega
              rw [ea]
              simp only [World.cell?, hnw]
              rcases j with _ | _ | _ | _ | j
              · simpa using hj
              · simpa using hj
              · simpa using hj
              · simpa using hj
              · simp at hj))
            clear hnw
            refine wpAnyH_ready (rs := [7]) (by kernel_rfl) (by simp) (AllReadyH.cons (o := { dst := some 30, op := Op.call { callee := Callee.builtin Builtin.append, args := #[Operand.tmp 26, Operand.tmp 29], argTypes := #[42, 42] }, type := 42, pos := "saw.go:114", after := #[{ on := 3, ground := Ground.data }, { on := 6, ground := Ground.data }], guard := none }) rfl (fun K hK => ?_) AllReadyH.nil)
            rw [if_pos (by rfl)]
            refine wp_append_own _ (.tmp 26) (.tmp 29) 42 rfl base 61 i0 _ 4 32 Try.underlying42 hi hz0 hz1 hz2 rfl (by decide) _ D.length (lineCells D) rfl ((own_mod HOW.out (HMW.out.trans HD.out)).alloc _) ⟨wd.heap.size, 0, none⟩ 1 1 [.bool u, .int .i64 at', .int .i64 fr, .int .i64 to] rfl rfl HNW.out (by simp [Value.oneCell']) (by unfold maxLen; omega) (by omega) (by simp; omega) ?_
            intro v4 w4 hown4 hgr _
            have hr4 : R61 base w3 w4 := (R61.of (HD.out.alloc _)).trans (R61.own ((own_mod HOW.out (HMW.out.trans HD.out)).alloc _) hgr)
            have hown4' : w4.ownsRow base 61 4 v4 (D ++ [(u, (at' : Int), (fr : Int), (to : Int))]).length (lineCells (D ++ [(u, (at' : Int), (fr : Int), (to : Int))])) := by
              have e : lineCells (D ++ [(u, (at' : Int), (fr : Int), (to : Int))]) = lineCells D ++ [.bool u, .int .i64 at', .int .i64 fr, .int .i64 to] := by simp [lineCells]
              rw [e, List.length_append]
              exact hown4
            have HR4 := Hold.mk (And.intro hr4 hown4')
            have hb4 : base ≤ w4.heap.size := by have := Mod.size hr4; omega
            clear hown4 hgr hr4 hown4'
            refine hK.out _ _ ?_ (fun hHeld => ?_)
            · exact HIM.out _ HR4.out.1
            clear hK K
            try simp only [Act.put, List.setIfInBounds_toArray, List.set_cons_zero, List.set_cons_succ]
            refine wpAnyH_ready (rs := [8]) (by kernel_rfl) (by simp) (AllReadyH.cons (o := { dst := some 31, op := Op.call { callee := Callee.value (Operand.func 56), args := #[Operand.tmp 23, Operand.tmp 25, Operand.tmp 30], argTypes := #[71, 97, 42] }, type := 94, pos := "saw.go:114", after := #[{ on := 0, ground := Ground.data }, { on := 2, ground := Ground.data }, { on := 7, ground := Ground.data }, { on := 7, ground := Ground.chain }], guard := none }) rfl (fun K hK => ?_) AllReadyH.nil)
            go_simp
            go_at_call 56; refine (H1.out w4 v4 hb4 HR4.out.2 (HR4.out.1.map (HM.out.same (HMW.out.block mb HM.out.lt id)))).mono ?_; rintro e w5 ⟨v5, rfl, hown5, hR5⟩
            have HR5 := Hold.mk (HR4.out.1.trans hR5)
            have HO5 := Hold.mk hown5
            clear hR5 hown5
            go_wp2_with fail
            refine hK.out _ _ ?_ (fun hHeld => ?_)
            · exact HIM.out _ HR5.out
            clear hK K
            try simp only [Act.put, List.setIfInBounds_toArray, List.set_cons_zero, List.set_cons_succ]
            refine wpAnyH_take (i := 9) (oi := { dst := some 22, op := Op.move (Operand.tmp 31), type := 94, pos := "saw.go:114", after := #[{ on := 8, ground := Ground.data }], guard := none }) (v := ?_) rfl (by kernel_rfl) (by kernel_rfl) (by kernel_rfl) (fun _ _ _ h => h) (Or.inl ⟨by rfl, ?_⟩) (by assumption) ?_
            rotate_left
            · intro w hSw
              (try dsimp only at hSw)
              go_simp
              first | done | with_reducible rfl
            try simp only [Act.put, List.setIfInBounds_toArray, List.set_cons_zero, List.set_cons_succ]
            refine wpAnyH_take (i := 10) (oi := { dst := some 32, op := Op.extract (Operand.tmp 22) 0, type := 42, pos := "saw.go:114", after := #[{ on := 9, ground := Ground.data }], guard := none }) (v := ?_) rfl (by kernel_rfl) (by kernel_rfl) (by kernel_rfl) (fun _ _ _ h => h) (Or.inl ⟨by rfl, ?_⟩) (by assumption) ?_
            rotate_left
            · intro w hSw
              (try dsimp only at hSw)
              go_simp
              first | done | with_reducible rfl
            try simp only [Act.put, List.setIfInBounds_toArray, List.set_cons_zero, List.set_cons_succ]
            refine wpAnyH_take (i := 11) (oi := { dst := some 33, op := Op.extract (Operand.tmp 22) 1, type := 4, pos := "saw.go:114", after := #[{ on := 9, ground := Ground.data }, { on := 12, ground := Ground.gcOnly Departure.lateStores }], guard := none }) (v := ?_) rfl (by kernel_rfl) (by kernel_rfl) (by kernel_rfl) (fun _ _ _ h => h) (Or.inl ⟨by rfl, ?_⟩) (by assumption) ?_
            rotate_left
            · intro w hSw
              (try dsimp only at hSw)
              go_simp
              first | done | with_reducible rfl
            try simp only [Act.put, List.setIfInBounds_toArray, List.set_cons_zero, List.set_cons_succ]
            refine wpAnyH_take (i := 12) (oi := { dst := some 2, op := Op.assign (Operand.tmp 32), type := 42, pos := "saw.go:114", after := #[{ on := 10, ground := Ground.data }, { on := 8, ground := Ground.chain }, { on := 0, ground := Ground.phase }, { on := 1, ground := Ground.phase }, { on := 2, ground := Ground.phase }, { on := 3, ground := Ground.phase }, { on := 4, ground := Ground.phase }, { on := 5, ground := Ground.phase }, { on := 6, ground := Ground.phase }, { on := 7, ground := Ground.phase }, { on := 8, ground := Ground.phase }, { on := 9, ground := Ground.phase }, { on := 10, ground := Ground.phase }, { on := 11, ground := Ground.textOnly Departure.lateStores }], guard := none }) (v := ?_) rfl (by kernel_rfl) (by kernel_rfl) (by kernel_rfl) (fun _ _ _ h => h) (Or.inl ⟨by rfl, ?_⟩) (by assumption) ?_
            rotate_left
            · intro w hSw
              (try dsimp only at hSw)
              go_simp
              first | done | with_reducible rfl
            try simp only [Act.put, List.setIfInBounds_toArray, List.set_cons_zero, List.set_cons_succ]
            refine wpAnyH_take (i := 13) (oi := { dst := some 9, op := Op.assign (Operand.tmp 33), type := 4, pos := "saw.go:114", after := #[{ on := 11, ground := Ground.data }, { on := 12, ground := Ground.chain }, { on := 0, ground := Ground.phase }, { on := 1, ground := Ground.phase }, { on := 2, ground := Ground.phase }, { on := 3, ground := Ground.phase }, { on := 4, ground := Ground.phase }, { on := 5, ground := Ground.phase }, { on := 6, ground := Ground.phase }, { on := 7, ground := Ground.phase }, { on := 8, ground := Ground.phase }, { on := 9, ground := Ground.phase }, { on := 10, ground := Ground.phase }, { on := 11, ground := Ground.phase }, { on := 12, ground := Ground.phase }], guard := none }) (v := ?_) rfl (by kernel_rfl) (by kernel_rfl) (by kernel_rfl) (fun _ _ _ h => h) (Or.inl ⟨by rfl, ?_⟩) (by assumption) ?_
            rotate_left
            · intro w hSw
              (try dsimp only at hSw)
              go_simp
              first | done | with_reducible rfl
            try simp only [Act.put, List.setIfInBounds_toArray, List.set_cons_zero, List.set_cons_succ]
            refine wpAnyH_done (by kernel_rfl) ?_ _
            refine NoPanic.normal ?_
            go_wp2_with (go_at_call 56; refine (H2.out w5 v5 (by have := Mod.size HR5.out; omega) HO5.out (HR5.out.map (HM.out.same (HMW.out.block mb HM.out.lt id)))).mono ?_; rintro e w6 ⟨rfl, hR6⟩)
            go_ret2
            exact ⟨rfl, ((R61.of HMW.out).trans HR5.out).trans hR6⟩
          | some L2 =>
            rw [ho2] at H2
            simp only
            clear ho2
            go_enter Try.func56, Try.ntmps56
            go_wp2_with (first
              | (go_at_call 78; refine HWH.out.mono ?_; rintro e w1 ⟨rfl, hM1⟩
                 obtain ⟨p0, p1, p2, p3⟩ := picAt_of (HBL.out _ hM1).1
                 have hbb := (HBL.out _ hM1).2
                 have b0 : w1.cell? ⟨w.heap.size + 1, 0, none⟩ = some (.int .i64 lt) := (by simp [World.cell?, hbb])
                 have b1 : w1.cell? ⟨w.heap.size + 1, 1, none⟩ = some (.int .i64 tp) := (by simp [World.cell?, hbb])
                 have b2 : w1.cell? ⟨w.heap.size + 1, 2, none⟩ = some (.int .i64 rt) := (by simp [World.cell?, hbb])
                 have b3 : w1.cell? ⟨w.heap.size + 1, 3, none⟩ = some (.int .i64 bt) := (by simp [World.cell?, hbb])
                 have HM1 := Hold.mk hM1
                 clear hM1 hbb)
              | (go_at_call 79; refine (next_is g W H HG.out N mb lt tp rt bt h1 h2 h3 h4 w1 (HM.out.same ((HM0.out.trans HM1.out).block mb HM.out.lt id))).mono ?_; rintro e w2 ⟨hno, hM2⟩; rw [HNX.out] at hno; obtain rfl := hno; have HM2 := Hold.mk hM2; clear hM2 p0 p1 p2 p3 b0 b1 b2 b3))
            obtain ⟨w3, hw3⟩ : ∃ w3, w2.alloc (.cells #[.bool u, .int .i64 at', .int .i64 fr, .int .i64 to, .int .i64 a, .int .i64 b, .int .i64 c, .int .i64 d, .int .i64 a', .int .i64 b', .int .i64 c', .int .i64 d'] 121) = w3 := ⟨_, rfl⟩
            rw [hw3]
            have HM3 : Hold (Mod noB w2 w3) := ⟨by rw [← hw3]; exact (Mod.refl _ _).alloc _⟩
            have HS3 : Hold (w3.heap[w2.heap.size]? = some (.cells #[.bool u, .int .i64 at', .int .i64 fr, .int .i64 to, .int .i64 a, .int .i64 b, .int .i64 c, .int .i64 d, .int .i64 a', .int .i64 b', .int .i64 c', .int .i64 d'] 121)) := ⟨by rw [← hw3]; exact World.alloc_heap_new _ _⟩
            clear hw3
            have HMW := Hold.mk (((HM0.out.trans HM1.out).trans HM2.out).trans HM3.out)
            have HP3 := Hold.mk (HBL.out _ ((HM1.out.trans HM2.out).trans HM3.out)).1
            have HIM : Hold (∀ w', R61 base w3 w' → (fun w' => Hold (R61 base w3 w') ∧ (w'.cell? ⟨w.heap.size, 0, none⟩ = some (.int .i64 W) ∧ w'.cell? ⟨w.heap.size, 1, none⟩ = some (.int .i64 H) ∧ w'.cell? ⟨w.heap.size, 2, none⟩ = some (.int .i64 N) ∧ w'.cell? ⟨w.heap.size, 3, none⟩ = some (.map (some mb))) ∧ w'.cell? ⟨w2.heap.size, 0, none⟩ = some (.bool u) ∧ w'.cell? ⟨w2.heap.size, 1, none⟩ = some (.int .i64 at') ∧ w'.cell? ⟨w2.heap.size, 2, none⟩ = some (.int .i64 fr) ∧ w'.cell? ⟨w2.heap.size, 3, none⟩ = some (.int .i64 to) ∧ w'.cell? ⟨w2.heap.size, 4, none⟩ = some (.int .i64 a) ∧ w'.cell? ⟨w2.heap.size, 5, none⟩ = some (.int .i64 b) ∧ w'.cell? ⟨w2.heap.size, 6, none⟩ = some (.int .i64 c) ∧ w'.cell? ⟨w2.heap.size, 7, none⟩ = some (.int .i64 d) ∧ w'.cell? ⟨w2.heap.size, 8, none⟩ = some (.int .i64 a') ∧ w'.cell? ⟨w2.heap.size, 9, none⟩ = some (.int .i64 b') ∧ w'.cell? ⟨w2.heap.size, 10, none⟩ = some (.int .i64 c') ∧ w'.cell? ⟨w2.heap.size, 11, none⟩ = some (.int .i64 d')) w') := ⟨fun w' h => by
              have e1 := h.at HP3.out (fun cur e => by cases e)
              have e2 := h.at HS3.out (fun cur e => by cases e)
              refine ⟨⟨h⟩, picAt_of e1, ?_, ?_, ?_, ?_, ?_, ?_, ?_, ?_, ?_, ?_, ?_, ?_⟩ <;> simp [World.cell?, e2]⟩
            have hb3 : base ≤ w3.heap.size := by have := HMW.out.size; omega
            refine wp_region_noPanic ?_
            refine wp_region_held_drew (S := (fun w' => Hold (R61 base w3 w') ∧ (w'.cell? ⟨w.heap.size, 0, none⟩ = some (.int .i64 W) ∧ w'.cell? ⟨w.heap.size, 1, none⟩ = some (.int .i64 H) ∧ w'.cell? ⟨w.heap.size, 2, none⟩ = some (.int .i64 N) ∧ w'.cell? ⟨w.heap.size, 3, none⟩ = some (.map (some mb))) ∧ w'.cell? ⟨w2.heap.size, 0, none⟩ = some (.bool u) ∧ w'.cell? ⟨w2.heap.size, 1, none⟩ = some (.int .i64 at') ∧ w'.cell? ⟨w2.heap.size, 2, none⟩ = some (.int .i64 fr) ∧ w'.cell? ⟨w2.heap.size, 3, none⟩ = some (.int .i64 to) ∧ w'.cell? ⟨w2.heap.size, 4, none⟩ = some (.int .i64 a) ∧ w'.cell? ⟨w2.heap.size, 5, none⟩ = some (.int .i64 b) ∧ w'.cell? ⟨w2.heap.size, 6, none⟩ = some (.int .i64 c) ∧ w'.cell? ⟨w2.heap.size, 7, none⟩ = some (.int .i64 d) ∧ w'.cell? ⟨w2.heap.size, 8, none⟩ = some (.int .i64 a') ∧ w'.cell? ⟨w2.heap.size, 9, none⟩ = some (.int .i64 b') ∧ w'.cell? ⟨w2.heap.size, 10, none⟩ = some (.int .i64 c') ∧ w'.cell? ⟨w2.heap.size, 11, none⟩ = some (.int .i64 d'))) mixed (HIM.out _ (R61.of (Mod.refl _ _).drew)) (fun hHeld => ?_)
            have HD : Hold (Mod noB w3 w3.drew) := ⟨(Mod.refl _ _).drew⟩
            generalize hwd : w3.drew = wd at *
            clear hwd
            have hbd : base ≤ wd.heap.size := by have := HD.out.size; omega
            refine wpAnyH_take (i := 0) (oi := { dst := some 23, op := Op.load 71 (Operand.tmp 3), type := 71, pos := "saw.go:114", after := #[], guard := none }) (v := ?_) rfl (by kernel_rfl) (by kernel_rfl) (by kernel_rfl) (fun _ _ _ h => h) (Or.inl ⟨by rfl, ?_⟩) (by assumption) ?_
            rotate_left
            · intro w hSw
              (try dsimp only at hSw)
              go_simp
              first | done | with_reducible rfl
            try simp only [Act.put, List.setIfInBounds_toArray, List.set_cons_zero, List.set_cons_succ]
            refine wpAnyH_take (i := 1) (oi := { dst := some 24, op := Op.fieldAddr 121 (Operand.tmp 8) 1, type := 0, pos := "saw.go:114", after := #[], guard := none }) (v := ?_) rfl (by kernel_rfl) (by kernel_rfl) (by kernel_rfl) (fun _ _ _ h => h) (Or.inl ⟨by rfl, ?_⟩) (by assumption) ?_
            rotate_left
            · intro w hSw
              (try dsimp only at hSw)
              go_simp
              first | done | with_reducible rfl
            try simp only [Act.put, List.setIfInBounds_toArray, List.set_cons_zero, List.set_cons_succ]
            refine wpAnyH_take (i := 2) (oi := { dst := some 25, op := Op.load 97 (Operand.tmp 24), type := 97, pos := "saw.go:114", after := #[{ on := 1, ground := Ground.data }], guard := none }) (v := ?_) rfl (by kernel_rfl) (by kernel_rfl) (by kernel_rfl) (fun _ _ _ h => h) (Or.inl ⟨by rfl, ?_⟩) (by assumption) ?_
            rotate_left
            · intro w hSw
              (try dsimp only at hSw)
              go_simp
              first | done | with_reducible rfl
            try simp only [Act.put, List.setIfInBounds_toArray, List.set_cons_zero, List.set_cons_succ]
            refine wpAnyH_take (i := 3) (oi := { dst := some 26, op := Op.move (Operand.tmp 2), type := 42, pos := "saw.go:114", after := #[], guard := none }) (v := ?_) rfl (by kernel_rfl) (by kernel_rfl) (by kernel_rfl) (fun _ _ _ h => h) (Or.inl ⟨by rfl, ?_⟩) (by assumption) ?_
            rotate_left
            · intro w hSw
              (try dsimp only at hSw)
              go_simp
              first | done | with_reducible rfl
            try simp only [Act.put, List.setIfInBounds_toArray, List.set_cons_zero, List.set_cons_succ]
            refine wpAnyH_take (i := 4) (oi := { dst := some 27, op := Op.fieldAddr 121 (Operand.tmp 8) 0, type := 0, pos := "saw.go:114", after := #[], guard := none }) (v := ?_) rfl (by kernel_rfl) (by kernel_rfl) (by kernel_rfl) (fun _ _ _ h => h) (Or.inl ⟨by rfl, ?_⟩) (by assumption) ?_
            rotate_left
            · intro w hSw
              (try dsimp only at hSw)
              go_simp
              first | done | with_reducible rfl
            try simp only [Act.put, List.setIfInBounds_toArray, List.set_cons_zero, List.set_cons_succ]
            refine wpAnyH_take (i := 5) (oi := { dst := some 28, op := Op.load 61 (Operand.tmp 27), type := 61, pos := "saw.go:114", after := #[{ on := 4, ground := Ground.data }], guard := none }) (v := ?_) rfl (by kernel_rfl) (by kernel_rfl) (by kernel_rfl) (fun _ _ _ h => h) (Or.inl ⟨by rfl, ?_⟩) (by assumption) ?_
            rotate_left
            · intro w hSw
              (try dsimp only at hSw)
              go_simp
              first | done | with_reducible rfl
            try simp only [Act.put, List.setIfInBounds_toArray, List.set_cons_zero, List.set_cons_succ]
            refine wpAnyH_ready (rs := [6]) (by kernel_rfl) (by simp) (AllReadyH.cons (o := { dst := some 29, op := Op.buildSlice 42 1 #[(0, Operand.tmp 28)], type := 42, pos := "saw.go:114", after := #[{ on := 5, ground := Ground.data }], guard := none }) rfl (fun K hK => ?_) AllReadyH.nil)
            go_simp
            refine hK.out _ _ ?_ (fun hHeld => ?_)
            · exact HIM.out _ (R61.of (HD.out.alloc _))
            clear hK K
            try simp only [Act.put, List.setIfInBounds_toArray, List.set_cons_zero, List.set_cons_succ]
            have hnw := World.alloc_heap_new wd (.cells #[.bool u, .int .i64 at', .int .i64 fr, .int .i64 to] 61)
            have HNW := Hold.mk (fun j q (hj : [Value.bool u, .int .i64 at', .int .i64 fr, .int .i64 to][j]? = some q) => (show (wd.alloc (.cells #[.bool u, .int .i64 at', .int .i64 fr, .int .i64 to] 61)).cell? (Addr.add ⟨wd.heap.size, 0, none⟩ j) = some q from by
              have ea : Addr.add ⟨wd.heap.size, 0, none⟩ j = ⟨wd.heap.size, j, none⟩ := by simp [Addr.add]; omega
              rw [ea]
              simp only [World.cell?, hnw]
              rcases j with _ | _ | _ | _ | j
              · simpa using hj
              · simpa using hj
              · simpa using hj
              · simpa using hj
              · simp at hj))
            clear hnw
            refine wpAnyH_ready (rs := [7]) (by kernel_rfl) (by simp) (AllReadyH.cons (o := { dst := some 30, op := Op.call { callee := Callee.builtin Builtin.append, args := #[Operand.tmp 26, Operand.tmp 29], argTypes := #[42, 42] }, type := 42, pos := "saw.go:114", after := #[{ on := 3, ground := Ground.data }, { on := 6, ground := Ground.data }], guard := none }) rfl (fun K hK => ?_) AllReadyH.nil)
            rw [if_pos (by rfl)]
            refine wp_append_own _ (.tmp 26) (.tmp 29) 42 rfl base 61 i0 _ 4 32 Try.underlying42 hi hz0 hz1 hz2 rfl (by decide) _ D.length (lineCells D) rfl ((own_mod HOW.out (HMW.out.trans HD.out)).alloc _) ⟨wd.heap.size, 0, none⟩ 1 1 [.bool u, .int .i64 at', .int .i64 fr, .int .i64 to] rfl rfl HNW.out (by simp [Value.oneCell']) (by unfold maxLen; omega) (by omega) (by simp; omega) ?_
            intro v4 w4 hown4 hgr _
            have hr4 : R61 base w3 w4 := (R61.of (HD.out.alloc _)).trans (R61.own ((own_mod HOW.out (HMW.out.trans HD.out)).alloc _) hgr)
            have hown4' : w4.ownsRow base 61 4 v4 (D ++ [(u, (at' : Int), (fr : Int), (to : Int))]).length (lineCells (D ++ [(u, (at' : Int), (fr : Int), (to : Int))])) := by
              have e : lineCells (D ++ [(u, (at' : Int), (fr : Int), (to : Int))]) = lineCells D ++ [.bool u, .int .i64 at', .int .i64 fr, .int .i64 to] := by simp [lineCells]
              rw [e, List.length_append]
              exact hown4
            have HR4 := Hold.mk (And.intro hr4 hown4')
            have hb4 : base ≤ w4.heap.size := by have := Mod.size hr4; omega
            clear hown4 hgr hr4 hown4'
            refine hK.out _ _ ?_ (fun hHeld => ?_)
            · exact HIM.out _ HR4.out.1
            clear hK K
            try simp only [Act.put, List.setIfInBounds_toArray, List.set_cons_zero, List.set_cons_succ]
            refine wpAnyH_ready (rs := [8]) (by kernel_rfl) (by simp) (AllReadyH.cons (o := { dst := some 31, op := Op.call { callee := Callee.value (Operand.func 56), args := #[Operand.tmp 23, Operand.tmp 25, Operand.tmp 30], argTypes := #[71, 97, 42] }, type := 94, pos := "saw.go:114", after := #[{ on := 0, ground := Ground.data }, { on := 2, ground := Ground.data }, { on := 7, ground := Ground.data }, { on := 7, ground := Ground.chain }], guard := none }) rfl (fun K hK => ?_) AllReadyH.nil)
            go_simp
            go_at_call 56; refine (H1.out w4 v4 hb4 HR4.out.2 (HR4.out.1.map (HM.out.same (HMW.out.block mb HM.out.lt id)))).mono ?_; rintro e w5 ⟨v5, rfl, hown5, hR5⟩
            have HR5 := Hold.mk (HR4.out.1.trans hR5)
            have HO5 := Hold.mk hown5
            clear hR5 hown5
            go_wp2_with fail
            refine hK.out _ _ ?_ (fun hHeld => ?_)
            · exact HIM.out _ HR5.out
            clear hK K
            try simp only [Act.put, List.setIfInBounds_toArray, List.set_cons_zero, List.set_cons_succ]
            refine wpAnyH_take (i := 9) (oi := { dst := some 22, op := Op.move (Operand.tmp 31), type := 94, pos := "saw.go:114", after := #[{ on := 8, ground := Ground.data }], guard := none }) (v := ?_) rfl (by kernel_rfl) (by kernel_rfl) (by kernel_rfl) (fun _ _ _ h => h) (Or.inl ⟨by rfl, ?_⟩) (by assumption) ?_
            rotate_left
            · intro w hSw
              (try dsimp only at hSw)
              go_simp
              first | done | with_reducible rfl
            try simp only [Act.put, List.setIfInBounds_toArray, List.set_cons_zero, List.set_cons_succ]
            refine wpAnyH_take (i := 10) (oi := { dst := some 32, op := Op.extract (Operand.tmp 22) 0, type := 42, pos := "saw.go:114", after := #[{ on := 9, ground := Ground.data }], guard := none }) (v := ?_) rfl (by kernel_rfl) (by kernel_rfl) (by kernel_rfl) (fun _ _ _ h => h) (Or.inl ⟨by rfl, ?_⟩) (by assumption) ?_
            rotate_left
            · intro w hSw
              (try dsimp only at hSw)
              go_simp
              first | done | with_reducible rfl
            try simp only [Act.put, List.setIfInBounds_toArray, List.set_cons_zero, List.set_cons_succ]
            refine wpAnyH_take (i := 11) (oi := { dst := some 33, op := Op.extract (Operand.tmp 22) 1, type := 4, pos := "saw.go:114", after := #[{ on := 9, ground := Ground.data }, { on := 12, ground := Ground.gcOnly Departure.lateStores }], guard := none }) (v := ?_) rfl (by kernel_rfl) (by kernel_rfl) (by kernel_rfl) (fun _ _ _ h => h) (Or.inl ⟨by rfl, ?_⟩) (by assumption) ?_
            rotate_left
            · intro w hSw
              (try dsimp only at hSw)
              go_simp
              first | done | with_reducible rfl
            try simp only [Act.put, List.setIfInBounds_toArray, List.set_cons_zero, List.set_cons_succ]
            refine wpAnyH_take (i := 12) (oi := { dst := some 2, op := Op.assign (Operand.tmp 32), type := 42, pos := "saw.go:114", after := #[{ on := 10, ground := Ground.data }, { on := 8, ground := Ground.chain }, { on := 0, ground := Ground.phase }, { on := 1, ground := Ground.phase }, { on := 2, ground := Ground.phase }, { on := 3, ground := Ground.phase }, { on := 4, ground := Ground.phase }, { on := 5, ground := Ground.phase }, { on := 6, ground := Ground.phase }, { on := 7, ground := Ground.phase }, { on := 8, ground := Ground.phase }, { on := 9, ground := Ground.phase }, { on := 10, ground := Ground.phase }, { on := 11, ground := Ground.textOnly Departure.lateStores }], guard := none }) (v := ?_) rfl (by kernel_rfl) (by kernel_rfl) (by kernel_rfl) (fun _ _ _ h => h) (Or.inl ⟨by rfl, ?_⟩) (by assumption) ?_
            rotate_left
            · intro w hSw
              (try dsimp only at hSw)
              go_simp
              first | done | with_reducible rfl
            try simp only [Act.put, List.setIfInBounds_toArray, List.set_cons_zero, List.set_cons_succ]
            refine wpAnyH_take (i := 13) (oi := { dst := some 9, op := Op.assign (Operand.tmp 33), type := 4, pos := "saw.go:114", after := #[{ on := 11, ground := Ground.data }, { on := 12, ground := Ground.chain }, { on := 0, ground := Ground.phase }, { on := 1, ground := Ground.phase }, { on := 2, ground := Ground.phase }, { on := 3, ground := Ground.phase }, { on := 4, ground := Ground.phase }, { on := 5, ground := Ground.phase }, { on := 6, ground := Ground.phase }, { on := 7, ground := Ground.phase }, { on := 8, ground := Ground.phase }, { on := 9, ground := Ground.phase }, { on := 10, ground := Ground.phase }, { on := 11, ground := Ground.phase }, { on := 12, ground := Ground.phase }], guard := none }) (v := ?_) rfl (by kernel_rfl) (by kernel_rfl) (by kernel_rfl) (fun _ _ _ h => h) (Or.inl ⟨by rfl, ?_⟩) (by assumption) ?_
            rotate_left
            · intro w hSw
              (try dsimp only at hSw)
              go_simp
              first | done | with_reducible rfl
            try simp only [Act.put, List.setIfInBounds_toArray, List.set_cons_zero, List.set_cons_succ]
            refine wpAnyH_done (by kernel_rfl) ?_ _
            refine NoPanic.normal ?_
            go_wp2_with (go_at_call 56; refine (H2.out w5 v5 (by have := Mod.size HR5.out; omega) HO5.out (HR5.out.map (HM.out.same (HMW.out.block mb HM.out.lt id)))).mono ?_; rintro e w6 ⟨v6, rfl, hown6, hR6⟩)
            go_ret2
            refine ⟨v6, rfl, ?_, ((R61.of HMW.out).trans HR5.out).trans hR6⟩
            rw [show D ++ (u, (at' : Int), (fr : Int), (to : Int)) :: (L1 ++ L2) = D ++ [(u, (at' : Int), (fr : Int), (to : Int))] ++ L1 ++ L2 by simp]
            exact hown6
end Go.Proofs.Ytogalmkeipigeaa

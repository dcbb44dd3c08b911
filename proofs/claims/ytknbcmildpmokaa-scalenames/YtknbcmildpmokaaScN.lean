/- fill goes on; the iterator over all lists. -/
import Derived.Test.YtknbcmildpmokaaScM
set_option linter.unusedSimpArgs false
set_option linter.unusedVariables false
namespace Go.Proofs.Ytknbcmildpmokaa
open Go.RowKit Go.Shelf


attribute [local go_sem] Oper.semAt_some

/-- The lists that go on with one number. -/
def goN (ks : List Knd) (l e : Int) (pre : List Int) (z : Int) : List (List Int) := (fillL ks (l + min z 0) (e - max z 0)).map fun x => (pre ++ [z]) ++ x
/-- The lists that go on with the first j numbers. -/
def goT (ks : List Knd) (l e : Int) (pre : List Int) (lo : Int) (j : Nat) : List (List Int) := (List.range j).flatMap fun (i : Nat) => goN ks l e pre (lo + (i : Int))
theorem goT_zero (ks : List Knd) (l e : Int) (pre : List Int) (lo : Int) : goT ks l e pre lo 0 = [] := by simp [goT]
theorem goT_succ (ks : List Knd) (l e : Int) (pre : List Int) (lo : Int) (j : Nat) : goT ks l e pre lo (j + 1) = goT ks l e pre lo j ++ goN ks l e pre (lo + (j : Int)) := by
  simp [goT, List.range_succ]
theorem goT_all (k : Knd) (ks : List Knd) (l e : Int) (pre : List Int) : goT ks l e pre (-(min l k.many)) (e + 1 + min l k.many).toNat = (fillL (k :: ks) l e).map (pre ++ ·) := by
  unfold goT fillL ints goN
  rw [List.map_flatMap, List.flatMap_map, show (e + 1 - -(min l k.many)) = e + 1 + min l k.many by omega]
  congr 1
  funext i
  rw [List.map_map]
  congr 1
  funext x
  simp
theorem goT_pre (ks : List Knd) (l e : Int) (pre : List Int) (lo : Int) {j m : Nat} (h : j ≤ m) : ∃ r, goT ks l e pre lo m = goT ks l e pre lo j ++ r := by
  obtain ⟨d, rfl⟩ : ∃ d, m = j + d := ⟨m - j, by omega⟩
  induction d with
  | zero => exact ⟨[], by simp⟩
  | succ d ih =>
    obtain ⟨r, hr⟩ := ih (by omega)
    exact ⟨r ++ goN ks l e pre (lo + ((j + d : Nat) : Int)), by rw [← Nat.add_assoc, goT_succ, hr, List.append_assoc]⟩
/-- Between two rounds. -/
def FI (q : FB) (ao : Option Addr) (cap : Nat) (b : Bx) (J : List (List Int) → World → Prop) (done PL : List (List Int)) (pre : List Int) (W wr : World) : Prop :=
  (∃ hs, hs.length = b.ks.length ∧ hs.take pre.length = pre ∧ FS q ao cap b hs wr) ∧ J (done ++ PL) wr ∧ W.heap.size ≤ wr.heap.size

theorem FI.next {q : FB} {ao : Option Addr} {cap : Nat} {b : Bx} {J : List (List Int) → World → Prop} {done : List (List Int)} {ks : List Knd} {l e lo z : Int} {pre : List Int} {j : Nat} {W w5 W5 : World} (hz : lo + (j : Int) = z) (hs : W.heap.size ≤ W5.heap.size) (h5 : W5.heap.size ≤ w5.heap.size)
    (h : (∃ hs, hs.length = b.ks.length ∧ hs.take (pre ++ [z]).length = pre ++ [z] ∧ FS q ao cap b hs w5) ∧ J ((done ++ goT ks l e pre lo j) ++ goN ks l e pre z) w5) : FI q ao cap b J done (goT ks l e pre lo (j + 1)) pre W w5 := by
  obtain ⟨⟨hs, h1, h2, h3⟩, h4⟩ := h
  refine ⟨⟨hs, h1, ?_, h3⟩, ?_, by omega⟩
  · have : hs.take pre.length = (hs.take (pre ++ [z]).length).take pre.length := by rw [List.take_take]; simp
    rw [this, h2]; simp
  · rw [goT_succ, hz, ← List.append_assoc]; exact h4

set_option maxRecDepth 100000 in
set_option maxHeartbeats 8000000 in
theorem fill_succ (q : FB) (ao : Option Addr) (cap : Nat) (b : Bx) (hb : boxB b = true) (J Jx : List (List Int) → World → Prop) (hJ : StableB q.B0 (q.B0 + 3) J) (L : List (List Int)) (pre : List Int) (kk : Knd) (kd : Nat) (hkd : pre.length = kd) (hkk : b.ks[kd]? = some kk)
    (IH : ∀ (z : Int) (hs : List Int) (l e : Int) (done : List (List Int)) (W : World) (N : Nat), hs.length = b.ks.length → hs.take (kd + 1) = pre ++ [z] → 0 ≤ l → l ≤ 4 → 0 ≤ e → e ≤ 3 → q.B0 + 3 ≤ W.heap.size → FS q ao cap b hs W → J done W → (∃ rest, L = done ++ ((fillL (b.ks.drop (kd + 1)) l e).map ((pre ++ [z]) ++ ·) ++ rest)) →
      CallsIn Fence.wide N Try.prog 82 (#[.int .i64 ((kd + 1 : Nat) : Int), .int .i64 l, .int .i64 e] ++ q.lb) W (FPost q ao cap b J Jx done ((fillL (b.ks.drop (kd + 1)) l e).map ((pre ++ [z]) ++ ·)) (pre ++ [z]) W))
    (hs : List Int) (l e : Int) (done : List (List Int)) (W : World) (hn : hs.length = b.ks.length) (hp : hs.take kd = pre) (hl0 : 0 ≤ l) (hl4 : l ≤ 4) (he0 : 0 ≤ e) (he3 : e ≤ 3) (hsz : q.B0 + 3 ≤ W.heap.size)
    (hS : FS q ao cap b hs W) (hj : J done W) (hL : ∃ rest, L = done ++ ((fillL (b.ks.drop kd) l e).map (pre ++ ·) ++ rest)) (N : Nat) :
    CallsIn Fence.wide (N + 1) Try.prog 82 (#[.int .i64 kd, .int .i64 l, .int .i64 e] ++ q.lb) W (FPost q ao cap b J Jx done ((fillL (b.ks.drop kd) l e).map (pre ++ ·)) pre W) := by
  have l1 := q.h1; have l2 := q.h2; have l3 := q.h3; have l4 := q.h4; have l5 := q.h5; have l6 := q.h6
  have hks := boxB_ks hb
  have hkl := (List.getElem?_eq_some_iff.1 hkk).1
  have hm := hks.2.2.1 kk (List.mem_of_getElem? hkk)
  obtain ⟨m1, m2, _⟩ := hm
  have hn4 : b.ks.length ≤ 4 := hks.2.1
  have hdrop : b.ks.drop kd = kk :: b.ks.drop (kd + 1) := by
    obtain ⟨_, he⟩ := List.getElem?_eq_some_iff.1 hkk
    rw [← he]; exact List.drop_eq_getElem_cons hkl
  have HPL : Hold ((fillL (b.ks.drop kd) l e).map (pre ++ ·) = goT (b.ks.drop (kd + 1)) l e pre (-(min l kk.many)) (e + 1 + min l kk.many).toNat) := ⟨by rw [hdrop, goT_all]⟩
  rw [HPL.out]
  rw [HPL.out] at hL
  have HK := Hold.mk hkd
  obtain ⟨b0, b1, b2, b3, b4⟩ := hS.b.cells
  obtain ⟨kb, koff, rfl, _, q0, q1, q2⟩ := hS.b.k.kind hkk
  have hne : (kd == b.ks.length) = false := by simp; omega
  have hnei : ((kd : Int) == (b.ks.length : Int)) = false := by simp; omega
  have hki : (kd : Int) < (b.ks.length : Int) := by omega
  have hk4 : (kd : Int) < 4 := by omega
  obtain ⟨x, hx⟩ : ∃ x, min l kk.many = x := ⟨_, rfl⟩
  rw [hx] at hL ⊢
  have HI0 : Hold (FI q (some ⟨kb, koff, none⟩) cap b J done (goT (b.ks.drop (kd + 1)) l e pre (-x) 0) pre W W) := ⟨⟨hs, hn, by rw [hkd]; exact hp, hS⟩, by rw [goT_zero, List.append_nil]; exact hj, Nat.le_refl _⟩
  have HIH := Hold.mk IH
  have HL := Hold.mk hL
  have HJ := Hold.mk hJ
  have x1 : 0 ≤ x := by omega
  have x2 : x ≤ 4 := by omega
  have x3 : x ≤ kk.many := by omega
  have x4 : x ≤ l := by omega
  obtain ⟨M, hM⟩ : ∃ M : Nat, (e + 1 + x).toNat = M := ⟨_, rfl⟩
  have hMi : (M : Int) = e + 1 + x := by omega
  rw [hM] at HL ⊢
  have HM := Hold.mk hMi
  have HX := Hold.mk hx
  have HHB := Hold.mk (at_ltS hS.h)
  clear hL hj hS hp hn IH hkk hdrop hJ hb hks HPL hkd hM hMi hkl
  refine callsIn_of_wp Try.func82 rfl trivial ?_ rfl
  simp only [Try.ntmps82, List.size_toArray, List.length_cons, List.length_nil, Nat.reduceAdd, Nat.reduceSub, Array.replicate_succ, Array.replicate_zero, List.push_toArray, List.append_toArray, List.nil_append, List.cons_append]
  rcases (by omega : (kk.many < l ∧ x = kk.many) ∨ (¬ kk.many < l ∧ x = l)) with ⟨hlm, hxe⟩ | ⟨hlm, hxe⟩
  all_goals
    have HXE := Hold.mk hxe
    clear hx hxe
    gi_wp2
    clear b0 b1 b2 b3 b4 q0 q1 q2
    gi_loopw [11] (fun i wr => ∃ j : Nat, j ≤ M ∧ i = .int .i64 (-x + (j : Int)) ∧ Hold (FI q (some ⟨kb, koff, none⟩) cap b J done (goT (b.ks.drop (kd + 1)) l e pre (-x) j) pre W wr)) (fun i _ => (e + 1 - intOf i).toNat)
    case atStart => exact ⟨0, Nat.zero_le _, by rw [HXE.out]; simp, HI0⟩
    case round =>
      obtain ⟨j, hj, rfl, HI⟩ := hrel
      obtain ⟨⟨hs2, hn2, hp2, hS2⟩, hJ2, hsz2⟩ := HI.out
      by_cases hlt : j < M
      · obtain ⟨z, hz⟩ : ∃ z : Int, -x + (j : Int) = z := ⟨_, rfl⟩
        have hMe := HM.out
        have hz1 : z ≤ e := by omega
        have hz2 : -4 ≤ z := by omega
        have hz3 : -x ≤ z := by omega
        rw [hz]
        have HZ := Hold.mk hz
        have hkh : kd < hs2.length := by omega
        have hSs := hS2.set hkh (by omega) z
        have hc0 := cellsAt hS2.h kd
        have hu : ∃ u, wr.cell? ⟨q.hb, kd, none⟩ = some u := by rw [hc0, li_at (by omega)]; exact ⟨_, rfl⟩
        obtain ⟨u, hu⟩ := hu
        have hf0 := frozen_at hS2.h kd
        obtain ⟨W5, hW5⟩ : ∃ W5, wr.setCell ⟨q.hb, kd, none⟩ (.int .i64 z) = W5 := ⟨_, rfl⟩
        have hm5 : Mod (fun k => q.B0 ≤ k ∧ k < q.B0 + 3) wr W5 := by rw [← hW5]; exact (Mod.refl _ wr).setCell (p := ⟨q.hb, kd, none⟩) (fun _ => by show q.B0 ≤ q.hb ∧ q.hb < q.B0 + 3; omega) _
        rw [hW5] at hSs
        have f0 := cellsAt hSs.f 0
        have hJ5 := HJ.out _ _ _ hJ2 hm5
        have hz5 := hm5.size
        have HLX : ∃ rest, L = (done ++ goT (b.ks.drop (kd + 1)) l e pre (-x) j) ++ (goN (b.ks.drop (kd + 1)) l e pre z ++ rest) := by
          obtain ⟨r0, hr0⟩ := HL.out
          obtain ⟨r, hr⟩ := goT_pre (b.ks.drop (kd + 1)) l e pre (-x) (j := j + 1) (m := M) (by omega)
          rw [goT_succ, hz] at hr
          exact ⟨r ++ r0, by rw [hr0, hr]; simp only [List.append_assoc]⟩
        have HC : Hold (∀ l' e', l' = l + min z 0 → e' = e - max z 0 → CallsIn Fence.wide N Try.prog 82 (#[.int .i64 ((kd : Int) + 1), .int .i64 l', .int .i64 e'] ++ q.lb) W5 (FPost q (some ⟨kb, koff, none⟩) cap b J Jx (done ++ goT (b.ks.drop (kd + 1)) l e pre (-x) j) (goN (b.ks.drop (kd + 1)) l e pre z) (pre ++ [z]) W5)) := ⟨fun l' e' h1 h2 => by
          subst h1 h2
          have := HIH.out z (hs2.set kd z) (l + min z 0) (e - max z 0) (done ++ goT (b.ks.drop (kd + 1)) l e pre (-x) j) W5 N (by simp [hn2]) (by
            rw [HK.out] at hp2
            rw [take_snoc' (x := z) (by rw [List.getElem?_set]; simp [hkh]), List.take_set, List.set_eq_of_length_le (by simp; omega), hp2]) (by omega) (by omega) (by omega) (by omega) (by omega) hSs hJ5 HLX
          exact this⟩
        have HN2 := Hold.mk hz5
        clear hc0 hS2 hm5 hSs hJ2 hJ5 HLX hp2 hz hMe hz5 hkh HI
        rcases (by omega : z < 0 ∨ (0 ≤ z ∧ z ≤ 0) ∨ 0 < z) with hs0 | ⟨hs0, hs1⟩ | hs0
        all_goals
          gi_wp2_with (refine ⟨trivial, ?_⟩; gi_at_call 82; refine (HC.out _ _ (by omega) (by omega)).mono ?_; rintro e5 w5 ⟨hz6, ⟨rfl, hA⟩ | ⟨rfl, hA⟩⟩ <;> have HA := Hold.mk hA <;> have HZ6 := Hold.mk hz6 <;> clear hA hz6)
          · go_roundw
            case rel => exact ⟨j + 1, by omega, by have := HZ.out; rw [show -x + ((j + 1 : Nat) : Int) = z + 1 by omega], ⟨FI.next HZ.out (Nat.le_trans hsz2 HN2.out) HZ6.out HA.out⟩⟩
            case measure => simp only [intOf]; omega
          · go_ret
            refine ⟨by have := HN2.out; have := HZ6.out; omega, .inr ⟨rfl, ?_⟩⟩
            obtain ⟨vs, hv, hjx⟩ := HA.out
            obtain ⟨r, hr⟩ := goT_pre (b.ks.drop (kd + 1)) l e pre (-x) (j := j + 1) (m := M) (by omega)
            rw [goT_succ, HZ.out] at hr
            refine ⟨goT (b.ks.drop (kd + 1)) l e pre (-x) j ++ vs, ?_, by rw [← List.append_assoc]; exact hjx⟩
            rw [hr, List.append_assoc]
            exact (List.prefix_append_right_inj _).2 (hv.trans (List.prefix_append _ _))
      · obtain rfl : j = M := by omega
        have hMe := HM.out
        have hle : ¬ (-x + (j : Int) ≤ e) := by omega
        gi_wp2
        go_ret
        exact ⟨hsz2, .inl ⟨rfl, ⟨hs2, hn2, hp2, hS2⟩, hJ2⟩⟩

theorem fill_any (q : FB) (ao : Option Addr) (cap : Nat) (b : Bx) (hb : boxB b = true) (J Jx : List (List Int) → World → Prop) (hJ : StableB q.B0 (q.B0 + 3) J) (L : List (List Int)) (n0 : Nat) (hY : YieldL n0 q L J Jx) : ∀ (m : Nat) (pre hs : List Int) (kd : Nat) (l e : Int) (done : List (List Int)) (W : World) (N : Nat), kd + m = b.ks.length → hs.length = b.ks.length → hs.take kd = pre → 0 ≤ l → l ≤ 4 → 0 ≤ e → e ≤ 3 → q.B0 + 3 ≤ W.heap.size → FS q ao cap b hs W → J done W →
      (∃ rest, L = done ++ ((fillL (b.ks.drop kd) l e).map (pre ++ ·) ++ rest)) → CallsIn Fence.wide N Try.prog 82 (#[.int .i64 kd, .int .i64 l, .int .i64 e] ++ q.lb) W (FPost q ao cap b J Jx done ((fillL (b.ks.drop kd) l e).map (pre ++ ·)) pre W) := by
  have up : ∀ {R : Ending → World → Prop} {W : World} {args : Array Value} (N : Nat), CallsIn Fence.wide (N + 1) Try.prog 82 args W R → ∀ N', CallsIn Fence.wide N' Try.prog 82 args W R := fun N h N' => callsIn_wide.2 (callsIn_wide.1 h)
  have hn4 := (boxB_ks hb).2.1
  intro m
  induction m with
  | zero =>
    intro pre hs kd l e done W N hm hn hp hl0 hl4 he0 he3 hsz hS hj hL
    obtain rfl : kd = b.ks.length := by omega
    obtain rfl : hs = pre := by rw [← hp, List.take_of_length_le (by omega)]
    have e1 : (fillL (b.ks.drop b.ks.length) l e).map (hs ++ ·) = [hs] := by rw [List.drop_length]; simp [fillL]
    rw [e1] at hL ⊢
    exact up 0 (fill_zero q ao cap b J Jx L n0 hY hs l e done W hn hn4 hsz hS hj hL 0) N
  | succ m ih =>
    intro pre hs kd l e done W N hm hn hp hl0 hl4 he0 he3 hsz hS hj hL
    have hkl : kd < b.ks.length := by omega
    have hpl : pre.length = kd := by rw [← hp, List.length_take]; omega
    exact up 0 (fill_succ q ao cap b hb J Jx hJ L pre b.ks[kd] kd hpl (List.getElem?_eq_getElem hkl) (fun z hs l e done W N h1 h2 h3 h4 h5 h6 h7 h8 h9 h10 => ih (pre ++ [z]) hs (kd + 1) l e done W N (by omega) h1 h2 h3 h4 h5 h6 h7 h8 h9 h10) hs l e done W hn hp hl0 hl4 he0 he3 hsz hS hj hL 0) N

set_option maxHeartbeats 400000 in
theorem lists_any (ao : Option Addr) (n cap : Nat) (b : Bx) (w : World) :
    Calls Try.prog 68 #[bxV ao n cap b] w fun e w' => e = .returned (.func (.func 81) #[] #[.pointer (some ⟨w.heap.size, 0, none⟩)]) ∧ w' = w.alloc (.cells (bxC ao n cap b) 26) := by
  go_enter Try.func68, Try.ntmps68
  go_wp2
  go_ret
  exact ⟨rfl, rfl⟩

end Go.Proofs.Ytknbcmildpmokaa

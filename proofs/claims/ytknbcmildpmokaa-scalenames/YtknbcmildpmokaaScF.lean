/- canHave: can a box have a list? -/
import Derived.Test.YtknbcmildpmokaaScE
set_option linter.unusedSimpArgs false
set_option linter.unusedVariables false
namespace Go.Proofs.Ytknbcmildpmokaa
open Go.RowKit


theorem lostS_snoc (l : List Int) (n : Int) : lostS (l ++ [n]) = lostS l - min n 0 := by simp [lostS]; omega
theorem extraS_snoc (l : List Int) (n : Int) : extraS (l ++ [n]) = extraS l + max n 0 := by simp [extraS]
theorem zip_take {α β : Type} (ks : List α) (ns : List β) (j : Nat) : ks.zip (ns.take j) = (ks.zip ns).take j := by
  induction ks generalizing ns j with
  | nil => simp
  | cons k ks ih =>
    cases ns with
    | nil => simp
    | cons n ns =>
      cases j with
      | zero => simp
      | succ j => simp [ih]
theorem fitK_snoc (e : Int) (ks : List Knd) (ns : List Int) (h : ns.length ≤ ks.length) (k : Nat) (hk : k < ns.length) {kk : Knd} {z : Int} (h1 : ks[k]? = some kk) (h2 : ns[k]? = some z) : fitK e ks (ns.take (k + 1)) = (fitK e ks (ns.take k) && fromB (-kk.many) e z) := by
  unfold fitK
  rw [zip_take, zip_take]
  have hlen : k < (ks.zip ns).length := by simp; omega
  rw [List.take_succ_eq_append_getElem hlen, List.all_append]
  have : (ks.zip ns)[k] = (kk, z) := by
    obtain ⟨_, e1⟩ := List.getElem?_eq_some_iff.1 h1
    obtain ⟨_, e2⟩ := List.getElem?_eq_some_iff.1 h2
    simp [e1, e2]
  simp [this]
theorem fitK_pre {e : Int} {ks : List Knd} {ns : List Int} {k : Nat} (h : fitK e ks (ns.take k) = false) : fitK e ks ns = false := by
  unfold fitK at *
  rw [List.all_eq_false] at *
  obtain ⟨x, hx, hp⟩ := h
  refine ⟨x, ?_, hp⟩
  obtain ⟨j, hj⟩ := List.mem_iff_getElem?.1 hx
  rw [List.getElem?_zip_eq_some] at hj
  refine List.mem_iff_getElem?.2 ⟨j, ?_⟩
  rw [List.getElem?_zip_eq_some]
  refine ⟨hj.1, ?_⟩
  have := hj.2
  rw [List.getElem?_take] at this
  split at this
  · exact this
  · cases this
theorem boxB_ks {b : Bx} (h : boxB b = true) : 1 ≤ b.ks.length ∧ b.ks.length ≤ 4 ∧ (∀ k ∈ b.ks, 0 ≤ k.many ∧ k.many ≤ 2000 ∧ 0 ≤ k.w.1 ∧ k.w.1 ≤ k.w.2 ∧ k.w.2 ≤ 100000) ∧ (0 ≤ b.bag.1 ∧ b.bag.1 ≤ b.bag.2 ∧ b.bag.2 ≤ 100000) ∧ (0 ≤ b.lost ∧ b.lost ≤ 4) ∧ (0 ≤ b.extra ∧ b.extra ≤ 3) := by
  simp only [boxB, kindB, withinB, fromB, Bool.and_eq_true, decide_eq_true_eq, List.all_eq_true] at h
  obtain ⟨h1, h2, h3, h4, h5⟩ := h
  refine ⟨by omega, by omega, fun k hk => ?_, h3, h4, h5⟩
  obtain ⟨a, b⟩ := h2 k hk
  exact ⟨a.1, a.2, b⟩

/-- A box's value, and what it hangs on. -/
structure BoxAt (B : Nat) (w : World) (p : Nat) (ao : Option Addr) (cap : Nat) (b : Bx) : Prop where
  c : w.heap[p]? = some (.cells (bxC ao b.ks.length cap b) 26)
  k : KindsAt B w ao b.ks
theorem BoxAt.cells {B : Nat} {w : World} {p : Nat} {ao : Option Addr} {cap : Nat} {b : Bx} (h : BoxAt B w p ao cap b) :
    w.cell? ⟨p, 0, none⟩ = some (.slice ao b.ks.length cap) ∧ w.cell? ⟨p, 1, none⟩ = some (.int .i64 b.bag.1) ∧ w.cell? ⟨p, 2, none⟩ = some (.int .i64 b.bag.2) ∧ w.cell? ⟨p, 3, none⟩ = some (.int .i64 b.lost) ∧ w.cell? ⟨p, 4, none⟩ = some (.int .i64 b.extra) :=
  ⟨cellsAt h.c 0, cellsAt h.c 1, cellsAt h.c 2, cellsAt h.c 3, cellsAt h.c 4⟩
theorem BoxAt.low {B : Nat} {w w' : World} {p : Nat} {ao : Option Addr} {cap : Nat} {b : Bx} (h : BoxAt B w p ao cap b) (hm : Low B w w') (hp : p < B) : BoxAt B w' p ao cap b := ⟨(hm.2 p hp).trans h.c, h.k.low hm⟩
theorem BoxAt.mod {B : Nat} {w w' : World} {p : Nat} {ao : Option Addr} {cap : Nat} {b : Bx} (h : BoxAt B w p ao cap b) (hm : Mod noB w w') (hB : B ≤ w.heap.size) : BoxAt B w' p ao cap b := ⟨hm.at h.c id, h.k.low (Low.ofN hm hB)⟩

/-- What came of the numbers so far. -/
structure CanI (b : Bx) (has : List Int) (k : Nat) (l e : Int) : Prop where
  hl : l = lostS (has.take k)
  he : e = extraS (has.take k)
  f : fitK b.extra b.ks (has.take k) = true
  l0 : 0 ≤ l
  l1 : l ≤ 2000 * k
  e0 : 0 ≤ e
  e1 : e ≤ 3 * k
theorem CanI.next {b : Bx} (hb : boxB b = true) {has : List Int} (hl : has.length = b.ks.length) {k : Nat} {l e : Int} (h : CanI b has k l e) {kk : Knd} {z : Int} (h1 : b.ks[k]? = some kk) (h2 : has[k]? = some z) (hf : fromB (-kk.many) b.extra z = true) : CanI b has (k + 1) (l - min z 0) (e + max z 0) := by
  have hk := (List.getElem?_eq_some_iff.1 h2).1
  have ht : has.take (k + 1) = has.take k ++ [z] := by rw [List.take_succ_eq_append_getElem hk]; congr 1; have := (List.getElem?_eq_some_iff.1 h2).2; rw [this]
  obtain ⟨_, _, hks, _, _, he⟩ := boxB_ks hb
  have hm := hks kk (List.mem_of_getElem? h1)
  have hf' := hf
  simp only [fromB, Bool.and_eq_true, decide_eq_true_eq] at hf'
  refine ⟨by rw [ht, lostS_snoc, h.hl], by rw [ht, extraS_snoc, h.he], by rw [fitK_snoc _ _ _ (by omega) k hk h1 h2, h.f, hf]; rfl, ?_, ?_, ?_, ?_⟩
  all_goals have := h.l0; have := h.l1; have := h.e0; have := h.e1; omega

set_option maxRecDepth 100000 in
set_option maxHeartbeats 4000000 in
theorem canHave_any (B : Nat) (ao ho : Option Addr) (cap hcap : Nat) (b : Bx) (has : List Int) (w : World) (hB : B ≤ w.heap.size) (hb : boxB b = true) (hs : KindsAt B w ao b.ks) (hi : IntsAt w ho has) :
    Calls Try.prog 45 #[bxV ao b.ks.length cap b, .slice ho has.length hcap] w fun r w' => r = .returned (.bool (canB b has)) ∧ Mod noB w w' := by
  have hsm := hi.small
  have hks := boxB_ks hb
  have HM0 := Hold.mk ((Mod.refl noB w).alloc (.cells (bxC ao b.ks.length cap b) 26))
  by_cases hlen : has.length = b.ks.length
  · have HB : Hold (∀ W', Mod noB (w.alloc (.cells (bxC ao b.ks.length cap b) 26)) W' → BoxAt B W' w.heap.size ao cap b ∧ IntsAt W' ho has) := ⟨fun W' h => ⟨⟨new_at w _ W' h, hs.low (Low.ofN (HM0.out.trans h) hB)⟩, hi.mod (HM0.out.trans h)⟩⟩
    obtain ⟨c0, c1, c2, c3, c4⟩ := (HB.out _ (Mod.refl _ _)).1.cells
    have he : Hold (canB b has = (fitK b.extra b.ks has && (decide (lostS has ≤ b.lost) && decide (extraS has ≤ b.extra)))) := ⟨by simp [canB, hlen]⟩
    have HL := Hold.mk hlen
    have HBX := Hold.mk hb
    have hle : has.length ≤ 4 := by omega
    have HKS := Hold.mk hks
    have hne : ((has.length : Int) != (b.ks.length : Int)) = false := by simp [hlen]
    clear hs hi hB hb hlen hks hsm
    go_enter Try.func45, Try.ntmps45
    go_wp2
    go_loopw [5, 6, 17] (fun x y i wr => ∃ (k : Nat) (l e : Int), k ≤ has.length ∧ i = .int .i64 k ∧ x = .int .i64 l ∧ y = .int .i64 e ∧ CanI b has k l e ∧ Mod noB (w.alloc (.cells (bxC ao b.ks.length cap b) 26)) wr) (fun x y i _ => has.length - (intOf i).toNat)
    case atStart => exact ⟨0, 0, 0, Nat.zero_le _, rfl, rfl, rfl, ⟨by simp [lostS], by simp [extraS], by simp [fitK], by omega, by omega, by omega, by omega⟩, Mod.refl _ _⟩
    case round =>
      obtain ⟨k, l, e, hk, rfl, rfl, rfl, hI, hmr⟩ := hrel
      have HM := Hold.mk hmr
      have HI := Hold.mk hI
      have l0 := hI.l0; have l1 := hI.l1; have e0 := hI.e0; have e1 := hI.e1
      clear hI hmr c0 c1 c2 c3 c4
      by_cases hlt : k < has.length
      · obtain ⟨z, hz⟩ : ∃ z, has[k]? = some z := ⟨_, List.getElem?_eq_getElem hlt⟩
        obtain ⟨kk, hkk⟩ : ∃ kk, b.ks[k]? = some kk := ⟨_, List.getElem?_eq_getElem (by rw [← HL.out]; exact hlt)⟩
        obtain ⟨hb1, hoff, rfl, _, g0⟩ := ints_cell (HB.out _ HM.out).2 hlt
        rw [hz, Option.getD_some] at g0
        obtain ⟨kb, koff, rfl, _, q0, q1, q2⟩ := (HB.out _ HM.out).1.k.kind hkk
        have hkm := HKS.out.2.2.1 kk (List.mem_of_getElem? hkk)
        obtain ⟨m1, m2, _⟩ := hkm
        have hke : 0 ≤ b.extra ∧ b.extra ≤ 3 := HKS.out.2.2.2.2.2
        obtain ⟨x1, x2⟩ := hke
        have Hz := Hold.mk hz
        have Hkk := Hold.mk hkk
        have hlk : k < b.ks.length := by rw [← HL.out]; exact hlt
        have FIN : Hold (∀ W', Mod noB wr W' → W'.cell? ⟨w.heap.size, 0, none⟩ = some (.slice (some ⟨kb, koff, none⟩) b.ks.length cap) ∧ W'.cell? ⟨w.heap.size, 4, none⟩ = some (.int .i64 b.extra) ∧ W'.cell? ⟨kb, koff + k * 3, none⟩ = some (.int .i64 kk.many)) := ⟨fun W' h => by
          obtain ⟨hb2, _⟩ := HB.out _ (HM.out.trans h)
          obtain ⟨d0, d1, d2, d3, d4⟩ := hb2.cells
          obtain ⟨kb', koff', e', _, q0', _⟩ := hb2.k.kind hkk
          cases e'
          exact ⟨d0, d4, q0'⟩⟩
        have HWN : Hold (IntKind.i64.wrap (-kk.many) = -kk.many) := ⟨IntWalk.i64_in _ (by omega)⟩
        obtain ⟨v, hv⟩ : ∃ v, fromB (-kk.many) b.extra z = v := ⟨_, rfl⟩
        have H1 := from_eq (-kk.many) b.extra z v hv
        have HV := Hold.mk hv
        clear hz hkk hv
        cases v with
        | false =>
          have hfin : Hold (fitK b.extra b.ks has = false) := ⟨fitK_pre (k := k + 1) (by rw [fitK_snoc _ _ _ (by rw [HL.out]; exact Nat.le_refl _) k hlt Hkk.out Hz.out, HV.out, Bool.and_false])⟩
          go_wp2
          refine region_quietP (by kernel_rfl) (by kernel_rfl) (fun W' => Mod noB wr W') (Mod.refl _ _).drew ?_
          repeat
            (first
              | go_big_quiet_skip
              | (go_big_quiet_want
                 go_simp
                 try rw [HWN.out]
                 first
                   | go_big_quiet_on
                   | (apply Exists.intro
                      refine ⟨fun W' hC => ?_, ?_⟩
                      · obtain ⟨c0, c4, q0⟩ := FIN.out W' hC
                        first
                          | (go_at_call 65; exact (H1.out _).mono fun e w2 hh => ⟨hh.1, hC.trans hh.2⟩)
                          | with_reducible rfl
                          | (go_simp; first | rfl | exact ⟨rfl, rfl⟩)
                      go_big_quiet_on)
                   | (refine ⟨⟨_, fun _ _ => rfl⟩, ?_⟩; go_big_quiet_on)))
          refine wpQuiet_nil ?_
          intro Wq hq
          have HQ := Hold.mk (HM0.out.trans (HM.out.trans hq))
          clear hq
          go_wp2
          go_ret
          exact ⟨by rw [he.out, hfin.out, Bool.false_and]; rfl, HQ.out⟩
        | true =>
          have hzz : -2000 ≤ z ∧ z ≤ 3 := by have := HV.out; simp only [fromB, Bool.and_eq_true, decide_eq_true_eq] at this; omega
          obtain ⟨z1, z2⟩ := hzz
          go_wp2
          refine region_quietP (by kernel_rfl) (by kernel_rfl) (fun W' => Mod noB wr W') (Mod.refl _ _).drew ?_
          repeat
            (first
              | go_big_quiet_skip
              | (go_big_quiet_want
                 go_simp
                 try rw [HWN.out]
                 first
                   | go_big_quiet_on
                   | (apply Exists.intro
                      refine ⟨fun W' hC => ?_, ?_⟩
                      · obtain ⟨c0, c4, q0⟩ := FIN.out W' hC
                        first
                          | (go_at_call 65; exact (H1.out _).mono fun e w2 hh => ⟨hh.1, hC.trans hh.2⟩)
                          | with_reducible rfl
                          | (go_simp; first | rfl | exact ⟨rfl, rfl⟩)
                      go_big_quiet_on)
                   | (refine ⟨⟨_, fun _ _ => rfl⟩, ?_⟩; go_big_quiet_on)))
          refine wpQuiet_nil ?_
          intro Wq hq
          have HQ := Hold.mk (HM.out.trans hq)
          clear hq
          have HN := Hold.mk (HI.out.next HBX.out HL.out Hkk.out Hz.out HV.out)
          by_cases hz0 : z < 0
          · have e3 : min z 0 = z := by omega
            have e4 : max z 0 = 0 := by omega
            rw [e3, e4] at HN
            clear e3 e4
            go_wp2
            go_roundw
            case rel => exact ⟨k + 1, l - z, e, by omega, by go_num, rfl, by go_num, by have := HN.out; rw [Int.add_zero] at this; exact this, HQ.out⟩
            case measure => simp [intOf]; omega
          · have e3 : min z 0 = 0 := by omega
            have e4 : max z 0 = z := by omega
            rw [e3, e4] at HN
            clear e3 e4
            go_wp2
            all_goals
              go_roundw
              case rel => exact ⟨k + 1, l, e + z, by omega, by go_num, by go_num, by go_num, by have := HN.out; rw [Int.sub_zero] at this; exact this, HQ.out⟩
              case measure => simp [intOf]; omega
      · obtain rfl : k = has.length := by omega
        have hfin : Hold (fitK b.extra b.ks has = true) := ⟨by have := HI.out.f; rw [List.take_length] at this; exact this⟩
        have hfl : Hold (lostS has = l) := ⟨by have := HI.out.hl; rw [List.take_length] at this; exact this.symm⟩
        have hfe : Hold (extraS has = e) := ⟨by have := HI.out.he; rw [List.take_length] at this; exact this.symm⟩
        have HMM := Hold.mk (HM0.out.trans HM.out)
        obtain ⟨c0, c1, c2, c3, c4⟩ := (HB.out _ HM.out).1.cells
        by_cases hx : l ≤ b.lost <;> by_cases hy : e ≤ b.extra
        all_goals
          go_wp2
          go_ret
          exact ⟨by rw [he.out, hfin.out, hfl.out, hfe.out]; simp [*]; try omega, HMM.out⟩
  · have he : Hold (canB b has = false) := ⟨by simp [canB, hlen]⟩
    have hne : ((has.length : Int) != (b.ks.length : Int)) = true := by simp [bne]; omega
    have hkl : b.ks.length ≤ 4 := hks.2.1
    clear hs hi hB hb hlen hks
    go_enter Try.func45, Try.ntmps45
    go_wp2
    go_ret
    exact ⟨by rw [he.out]; rfl, HM0.out⟩

end Go.Proofs.Ytknbcmildpmokaa

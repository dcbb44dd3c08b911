/- firstSlip. -/
import Derived.Test.YtknbcmildpmokaaScW
set_option linter.unusedSimpArgs false
set_option linter.unusedVariables false
namespace Go.Proofs.Ytknbcmildpmokaa
open Go.RowKit Go.Shelf


attribute [local go_sem] Oper.semAt_some

theorem wpIn_scope_wide {n : Nat} {P : Program} {c : Code} {Q : Exit → Act → World → Prop} {a : Act} {w : World} (h : c.wpIn Fence.wide n P (Exit.noGoto Q) a w) : (Code.scope c).wpIn Fence.wide n P Q a w := wpIn_wide.2 (wp_scope_straight (wpIn_wide.1 h))

/-- What else lies where. -/
structure FsS (B : Nat) (w : World) (ao : Option Addr) (cap : Nat) (b : Bx) (to : Option Addr) (tcap : Nat) (ts : List Tst) (fst : List Int) (ok : Bool) (W : World) : Prop where
  b : BoxAt B W w.heap.size ao cap b
  r : W.heap[w.heap.size + 1]? = some (.cells #[.slice to ts.length tcap] 43)
  ta : TestsAt B W to ts
  f : W.heap[w.heap.size + 1 + 1]? = some (.cells (liC fst) 77)
  k : W.heap[w.heap.size + 1 + 1 + 1]? = some (.cells #[.bool ok] 4)
  z : w.heap.size + 5 ≤ W.heap.size
  m : Mod noB w W
theorem FsS.turn {B : Nat} {w : World} {ao : Option Addr} {cap : Nat} {b : Bx} {to : Option Addr} {tcap : Nat} {ts : List Tst} {fst : List Int} {ok : Bool} {W W' : World} (hB : B ≤ w.heap.size) (h : FsS B w ao cap b to tcap ts fst ok W) (hm : Mod (fun k => w.heap.size + 5 ≤ k ∧ k < w.heap.size + 5 + 2 + 3) W W') : FsS B w ao cap b to tcap ts fst ok W' := by
  have hz := h.z
  have lo : Low B W W' := Low.of hm (by omega) (fun k hk => by omega)
  exact ⟨⟨hm.at h.b.c (by omega), h.b.k.low lo⟩, hm.at h.r (by omega), h.ta.low lo, hm.at h.f (by omega), hm.at h.k (by omega), Nat.le_trans hz hm.size, h.m.then hm (fun i hi hk => by omega)⟩
theorem FsS.mod {B : Nat} {w : World} {ao : Option Addr} {cap : Nat} {b : Bx} {to : Option Addr} {tcap : Nat} {ts : List Tst} {fst : List Int} {ok : Bool} {W W' : World} (hB : B ≤ w.heap.size) (h : FsS B w ao cap b to tcap ts fst ok W) (hm : Mod noB W W') : FsS B w ao cap b to tcap ts fst ok W' :=
  h.turn hB (hm.wider (fun _ _ h => h.elim))
theorem li_set {W : World} {p : Nat} {a b c d x y z u : Value} {T : TypeId} (h : W.heap[p]? = some (.cells #[a, b, c, d] T)) :
    ((((W.setCell ⟨p, 0, none⟩ x).setCell ⟨p, 1, none⟩ y).setCell ⟨p, 2, none⟩ z).setCell ⟨p, 3, none⟩ u).heap[p]? = some (.cells #[x, y, z, u] T) := by
  rw [setCell_at (setCell_at (setCell_at (setCell_at h 0 x) 1 y) 2 z) 3 u]; rfl
theorem li_mod {W : World} {p : Nat} {x y z u : Value} : Mod (fun k => k = p) W ((((W.setCell ⟨p, 0, none⟩ x).setCell ⟨p, 1, none⟩ y).setCell ⟨p, 2, none⟩ z).setCell ⟨p, 3, none⟩ u) :=
  ((((Mod.refl (fun k => k = p) W).setCell (p := ⟨p, 0, none⟩) (fun _ => rfl) _).setCell (p := ⟨p, 1, none⟩) (fun _ => rfl) _).setCell (p := ⟨p, 2, none⟩) (fun _ => rfl) _).setCell (p := ⟨p, 3, none⟩) (fun _ => rfl) _
/-- The first list is found. -/
theorem FsS.found {B : Nat} {w : World} {ao : Option Addr} {cap : Nat} {b : Bx} {to : Option Addr} {tcap : Nat} {ts : List Tst} {fst x : List Int} {ok : Bool} {W : World} {a0 a1 a2 a3 : Value} (hB : B ≤ w.heap.size) (h : FsS B w ao cap b to tcap ts fst ok W) (hx : #[a0, a1, a2, a3] = liC x) :
    FsS B w ao cap b to tcap ts x true (((((W.setCell ⟨w.heap.size + 1 + 1, 0, none⟩ a0).setCell ⟨w.heap.size + 1 + 1, 1, none⟩ a1).setCell ⟨w.heap.size + 1 + 1, 2, none⟩ a2).setCell ⟨w.heap.size + 1 + 1, 3, none⟩ a3).setCell ⟨w.heap.size + 1 + 1 + 1, 0, none⟩ (.bool true)) ∧
    Mod (fun k => (k = w.heap.size + 1 + 1 ∨ k = w.heap.size + 1 + 1 + 1) ∨ w.heap.size + 5 + 2 + 3 ≤ k) W (((((W.setCell ⟨w.heap.size + 1 + 1, 0, none⟩ a0).setCell ⟨w.heap.size + 1 + 1, 1, none⟩ a1).setCell ⟨w.heap.size + 1 + 1, 2, none⟩ a2).setCell ⟨w.heap.size + 1 + 1, 3, none⟩ a3).setCell ⟨w.heap.size + 1 + 1 + 1, 0, none⟩ (.bool true)) := by
  have hz := h.z
  have hf := li_set (x := a0) (y := a1) (z := a2) (u := a3) h.f
  have m1 := li_mod (W := W) (p := w.heap.size + 1 + 1) (x := a0) (y := a1) (z := a2) (u := a3)
  generalize ((((W.setCell ⟨w.heap.size + 1 + 1, 0, none⟩ a0).setCell ⟨w.heap.size + 1 + 1, 1, none⟩ a1).setCell ⟨w.heap.size + 1 + 1, 2, none⟩ a2).setCell ⟨w.heap.size + 1 + 1, 3, none⟩ a3) = W2 at hf m1 ⊢
  have m2 : Mod (fun k => k = w.heap.size + 1 + 1 + 1) W2 (W2.setCell ⟨w.heap.size + 1 + 1 + 1, 0, none⟩ (.bool true)) := (Mod.refl (fun k => k = w.heap.size + 1 + 1 + 1) W2).setCell (p := ⟨w.heap.size + 1 + 1 + 1, 0, none⟩) (fun _ => rfl) _
  have m : Mod (fun k => k = w.heap.size + 1 + 1 ∨ k = w.heap.size + 1 + 1 + 1) W (W2.setCell ⟨w.heap.size + 1 + 1 + 1, 0, none⟩ (.bool true)) := (m1.wider (fun _ _ h => .inl h)).then m2 (fun _ _ h => .inr h)
  have lo : Low B W (W2.setCell ⟨w.heap.size + 1 + 1 + 1, 0, none⟩ (.bool true)) := ⟨m.size, fun k hk => m.block k (by omega) (fun e => by omega)⟩
  refine ⟨⟨⟨m.at h.b.c (by omega), h.b.k.low lo⟩, m.at h.r (by omega), h.ta.low lo, m2.at (hx ▸ hf) (by omega), ?_, Nat.le_trans hz m.size, h.m.then m (fun i hi hk => by omega)⟩, m.wider (fun i _ hk => .inl hk)⟩
  rw [setCell_at (m1.at h.k (by omega)) 0]; rfl

theorem li_id {W : World} {p : Nat} {a b c d : Value} {T : TypeId} (h : W.heap[p]? = some (.cells #[a, b, c, d] T)) :
    Mod noB W ((((W.setCell ⟨p, 0, none⟩ a).setCell ⟨p, 1, none⟩ b).setCell ⟨p, 2, none⟩ c).setCell ⟨p, 3, none⟩ d) := by
  have hm := li_mod (W := W) (p := p) (x := a) (y := b) (z := c) (u := d)
  refine ⟨hm.os, hm.tape, hm.output, hm.size, fun k hk _ => ?_⟩
  by_cases e : k = p
  · subst e
    rw [li_set h, h]
  · exact hm.block k hk e
theorem FsS.ending {B : Nat} {w : World} {ao : Option Addr} {cap : Nat} {b : Bx} {to : Option Addr} {tcap : Nat} {ts : List Tst} {fst : List Int} {ok : Bool} {W : World} {a0 a1 a2 a3 : Value} (hB : B ≤ w.heap.size) (h : FsS B w ao cap b to tcap ts fst ok W) (hx : #[a0, a1, a2, a3] = liC fst) :
    Mod noB W (((((W.setCell ⟨w.heap.size + 1 + 1, 0, none⟩ a0).setCell ⟨w.heap.size + 1 + 1, 1, none⟩ a1).setCell ⟨w.heap.size + 1 + 1, 2, none⟩ a2).setCell ⟨w.heap.size + 1 + 1, 3, none⟩ a3).setCell ⟨w.heap.size + 1 + 1 + 1, 0, none⟩ (.bool ok)).drew := by
  have hf := h.f
  rw [← hx] at hf
  have m1 := li_id hf
  exact (m1.trans (set_id (m1.at h.k id))).drew

theorem results52 {tmps : Array Value} {W : World} {b4 b5 : Nat} {a0 a1 a2 a3 v : Value} (h4 : tmps.getD 4 undef = .pointer (some ⟨b4, 0, none⟩)) (h5 : tmps.getD 5 undef = .pointer (some ⟨b5, 0, none⟩))
    (k4 : W.heap[b4]? = some (.cells #[a0, a1, a2, a3] 77)) (k5 : W.heap[b5]? = some (.cells #[v] 4)) : (results Try.f52 tmps).run Try.prog W = .ok (.tuple #[.agg #[a0, a1, a2, a3], v]) W := by
  have c0 := cellsAt k4 0
  have c1 := cellsAt k4 1
  have c2 := cellsAt k4 2
  have c3 := cellsAt k4 3
  have d0 := cellsAt k5 0
  have h4' : tmps[4]?.getD undef = .pointer (some ⟨b4, 0, none⟩) := by simpa using h4
  have h5' : tmps[5]?.getD undef = .pointer (some ⟨b5, 0, none⟩) := by simpa using h5
  simp [results, Try.results52, go_sem, *]
/-- What firstSlip returns. -/
def firstV (b : Bx) (ts : List Tst) : Value := match (allL b).find? (slipB b ts) with
  | some has => .tuple #[liV has, .bool true]
  | none => .tuple #[liV [], .bool false]
def FsI (B : Nat) (w : World) (ao : Option Addr) (cap : Nat) (b : Bx) (to : Option Addr) (tcap : Nat) (ts : List Tst) (pre : List (List Int)) (W : World) : Prop :=
  (∀ x ∈ pre, slipB b ts x = false) ∧ FsS B w ao cap b to tcap ts [] false W
def FsX (B : Nat) (w : World) (ao : Option Addr) (cap : Nat) (b : Bx) (to : Option Addr) (tcap : Nat) (ts : List Tst) (c : Code) (pre : List (List Int)) (W : World) : Prop :=
  c = .exit 0 ∧ ∃ p x, pre = p ++ [x] ∧ (∀ x ∈ p, slipB b ts x = false) ∧ slipB b ts x = true ∧ FsS B w ao cap b to tcap ts x true W

set_option maxRecDepth 100000 in
set_option maxHeartbeats 8000000 in
theorem firstSlip_any (B : Nat) (ao to : Option Addr) (cap tcap : Nat) (b : Bx) (ts : List Tst) (w : World) (hB : B ≤ w.heap.size) (hb : boxB b = true) (ht : ∀ t ∈ ts, testB b.ks.length t = true) (hs : KindsAt B w ao b.ks) (hr : TestsAt B w to ts) :
    Calls Try.prog 52 #[bxV ao b.ks.length cap b, .slice to ts.length tcap] w fun e w' => e = .returned (firstV b ts) ∧ Mod noB w w' := by
  have hsm := hr.small
  obtain ⟨W1, hW1⟩ : ∃ W1, allocL w [.cells (bxC ao b.ks.length cap b) 26, .cells #[.slice to ts.length tcap] 43, .cells (liC []) 77, .cells #[.bool false] 4, .cells (bxC ao b.ks.length cap b) 26] = W1 := ⟨_, rfl⟩
  have hM1 : Mod noB w W1 := by rw [← hW1]; exact allocL_mod _ _ _
  have hsz1 : W1.heap.size = w.heap.size + 5 := by rw [← hW1]; exact allocL_size _ _
  have a0 : W1.heap[w.heap.size]? = some (.cells (bxC ao b.ks.length cap b) 26) := by rw [← hW1]; exact allocL_at _ w 0 _ rfl
  have a1 : W1.heap[w.heap.size + 1]? = some (.cells #[.slice to ts.length tcap] 43) := by rw [← hW1]; exact allocL_at _ w 1 _ rfl
  have a2 : W1.heap[w.heap.size + 1 + 1]? = some (.cells (liC []) 77) := by rw [← hW1]; exact allocL_at _ w 2 _ rfl
  have a3 : W1.heap[w.heap.size + 1 + 1 + 1]? = some (.cells #[.bool false] 4) := by rw [← hW1]; exact allocL_at _ w 3 _ rfl
  have a4 : W1.heap[w.heap.size + 1 + 1 + 1 + 1]? = some (.cells (bxC ao b.ks.length cap b) 26) := by rw [← hW1]; exact allocL_at _ w 4 _ rfl
  have hs1 := hs.low (Low.ofN hM1 hB)
  have hr1 := hr.low (Low.ofN hM1 hB)
  have hI0 : FsI B w ao cap b to tcap ts [] W1 := ⟨fun _ h => (by cases h), ⟨a0, hs1⟩, a1, hr1, a2, a3, by omega, hM1⟩
  have hrun := lists_runs B (w.heap.size + 1 + 1 + 1 + 1) ao cap b W1 hb (by omega) ⟨a4, hs1⟩
  have HC := Hold.mk (fun (W : World) (x : List Int) (t : Tst) (hx : x ∈ allL b) (ht2 : t ∈ ts) (hh : KindsAt B W ao b.ks) (hz : B ≤ W.heap.size) => couldPass_any B ao cap b t x W hz hb (ht t ht2) hh (allL_mem hb hx).1 (fun n hn => by have := (allL_mem hb hx).2 n hn; omega))
  have HIC := Hold.mk (fun (W : World) (x : List Int) (hx : x ∈ allL b) => isComplete_any x W (by rw [(allL_mem hb hx).1]; exact (boxB_ks hb).2.1))
  have HB := Hold.mk hB
  clear a0 a1 a2 a3 a4 hs hr hs1 hr1 ht
  refine callsIn_wide (n := 3) |>.1 ?_
  refine callsIn_of_wp_marks Try.func52 rfl trivial ?_ rfl
  simp only [Try.ntmps52, List.size_toArray, List.length_cons, List.length_nil, Nat.reduceAdd, Nat.reduceSub, Array.replicate_succ, Array.replicate_zero, List.push_toArray, List.append_toArray, List.nil_append, List.cons_append]
  gi_wp2
  refine wpIn_scope_wide ?_
  gi_wp2
  refine wpIn_label ?_
  gi_wp2_with (refine ⟨trivial, ?_⟩; gi_at_call 68; refine (callsIn_wide.2 (lists_any _ _ _ b _)).mono ?_; rintro e w' ⟨rfl, rfl⟩)
  have hW1' : ((((w.alloc (.cells (bxC ao b.ks.length cap b) 26)).alloc (.cells #[.slice to ts.length tcap] 43)).alloc (.cells (liC []) 77)).alloc (.cells #[.bool false] 4)).alloc (.cells (bxC ao b.ks.length cap b) 26) = W1 := hW1
  (try simp only [World.size_alloc])
  rw [show ((((w.alloc (.cells (bxC ao b.ks.length cap b) 26)).alloc (.cells #[.slice to ts.length tcap] 43)).alloc (.cells #[.int .i64 0, .int .i64 0, .int .i64 0, .int .i64 0] 77)).alloc (.cells #[.bool false] 4)).alloc (.cells (bxC ao b.ks.length cap b) 26) = W1 from hW1']
  clear hW1 hW1'
  refine range_plainB (gf := 81) (lb := #[.pointer (some ⟨w.heap.size + 1 + 1 + 1 + 1, 0, none⟩)]) rfl rfl enter81 hrun
    (by rintro k (h | h) <;> omega) (fun k => (k = w.heap.size + 1 + 1 ∨ k = w.heap.size + 1 + 1 + 1) ∨ w.heap.size + 5 + 2 + 3 ≤ k) (by rintro k ((h | h) | h) <;> exact ⟨by omega, by omega⟩)
    (FsI B w ao cap b to tcap ts) (FsX B w ao cap b to tcap ts)
    (fun s A A' h hg => ⟨h.1, h.2.turn hB (hg.wider (fun i _ hk => by omega))⟩)
    (fun d s A A' h hg => by
      obtain ⟨h1, p, x, h2, h3, h4, h5⟩ := h
      exact ⟨h1, p, x, h2, h3, h4, h5.turn hB (hg.wider (fun i _ hk => by omega))⟩) hI0
    (some (77, fun x => liC x))
    (fun Bx x => { tmps := #[bxV ao b.ks.length cap b, .slice to ts.length tcap, .pointer (some ⟨w.heap.size, 0, none⟩), .pointer (some ⟨w.heap.size + 1, 0, none⟩), .pointer (some ⟨w.heap.size + 1 + 1, 0, none⟩), .pointer (some ⟨w.heap.size + 1 + 1 + 1, 0, none⟩), .pointer (some ⟨Bx, 0, none⟩), undef, undef, bxV ao b.ks.length cap b,
      .func (.func 81) #[] #[.pointer (some ⟨w.heap.size + 1 + 1 + 1 + 1, 0, none⟩)], liV x, undef, undef, undef, undef, undef, undef, undef, undef, undef, undef, undef, undef, undef, undef, undef, undef, undef], defers := [] })
    ?assign ?body ?done ?stop
  case assign =>
    intro l x W K hK
    gi_wp2
    exact hK
  case body =>
    rintro l2 pre x rest a' Wr hL hl2 hr2 hzr hI ⟨Bx, hBx, hbx, rfl⟩
    obtain ⟨hp, hS⟩ := hI
    have hx : x ∈ allL b := by rw [hL]; simp
    have HP := Hold.mk hp
    have HF : Hold (Kept Wr (fun W => FsS B w ao cap b to tcap ts [] false W ∧ W.heap[Bx]? = some (.cells (liC x) 77) ∧ w.heap.size + 10 ≤ W.heap.size)) := ⟨fun W h => ⟨hS.mod HB.out h, h.at hbx id, by have := h.size; omega⟩⟩
    obtain ⟨vw, hvw⟩ : ∃ v, wholeB x = v := ⟨_, rfl⟩
    have H73 : Hold (∀ W t, Mod noB Wr W → t ∈ ts → Calls Try.prog 73 #[bxV ao b.ks.length cap b, tsV t, liV x] W fun e w' => e = .returned (.bool (passB b t x)) ∧ Mod noB W w') := ⟨fun W t h h2 => by
      have g := (HF.out W h).1
      exact HC.out W x t hx h2 g.b.k (Nat.le_trans HB.out g.m.size)⟩
    have H70 : Hold (∀ W, Calls Try.prog 70 #[liV x] W fun e w' => e = .returned (.bool vw) ∧ Mod noB W w') := ⟨fun W => by rw [← hvw]; exact HIC.out W x hx⟩
    have HV := Hold.mk hvw
    obtain ⟨b0, b1, b2, b3, b4⟩ := HF.out.now.1.b.cells
    have r0 := cellsAt HF.out.now.1.r 0
    obtain ⟨x0, x1, x2, x3⟩ := li_cells HF.out.now.2.1
    clear hr2 hS hbx hvw hx hrun hI0 hM1 hL hb hzr hp
    cases vw with
    | true =>
      gi_wp2_with (first
        | (refine ⟨trivial, ?_⟩; gi_at_call 70; refine (CallsIn.inRound l2 (callsIn_wide.2 (H70.out _))).mono ?_; rintro e w2 ⟨rfl, hM⟩; have HM2 := Hold.mk hM; clear hM))
      refine ⟨HM2.out.wider (fun _ _ h => h.elim), ?_, (HF.out _ HM2.out).1⟩
      intro y hy
      rcases List.mem_append.1 hy with hy | hy
      · exact HP.out y hy
      · cases List.mem_singleton.1 hy
        simp [slipB, HV.out]
    | false =>
      gi_wp2_with (first
        | (refine ⟨trivial, ?_⟩; gi_at_call 70; refine (CallsIn.inRound l2 (callsIn_wide.2 (H70.out _))).mono ?_; rintro e w2 ⟨rfl, hM⟩; have HF2 := Hold.mk (HF.out.later hM); have HM2 := Hold.mk hM; have q0 := cellsAt HF2.out.now.1.r 0; clear hM))
      gi_loopw [16] (fun i wr => ∃ k : Nat, k ≤ ts.length ∧ i = .int .i64 k ∧ (∀ j t, j < k → ts[j]? = some t → passB b t x = true) ∧ Mod noB w2 wr) (fun i _ => ts.length - (intOf i).toNat)
      case atStart => exact ⟨0, Nat.zero_le _, rfl, fun j _ hj => absurd hj (Nat.not_lt_zero _), Mod.refl _ _⟩
      case round =>
        obtain ⟨k, hk, rfl, h0, hmr⟩ := hrel
        have H0 := Hold.mk h0
        have HMM := Hold.mk hmr
        clear h0 hmr
        by_cases hlt : k < ts.length
        · obtain ⟨t, hz⟩ : ∃ r, ts[k]? = some r := ⟨_, List.getElem?_eq_getElem hlt⟩
          obtain ⟨rb, roff, rfl, _, p0, p1, p2, p3, p4, p5, p6⟩ := (HF2.out _ HMM.out).1.ta.test hz
          have HZ := Hold.mk hz
          obtain ⟨W4, hW4⟩ : ∃ W4, wr.alloc (.cells #[.int .i64 t.how, .int .i64 t.kinds, .int .i64 t.err.1, .int .i64 t.err.2, .int .i64 t.pass.1, .int .i64 t.pass.2, .int .i64 t.cost] 29) = W4 := ⟨_, rfl⟩
          have hm4 : Mod noB wr W4 := by rw [← hW4]; exact (Mod.refl _ _).alloc _
          have hd4 : W4.heap[wr.heap.size]? = some (.cells (tsC t) 29) := by rw [← hW4]; exact World.alloc_heap_new _ _
          have h4 := HF2.out _ (HMM.out.trans hm4)
          obtain ⟨b0, b1, b2, b3, b4⟩ := h4.1.b.cells
          obtain ⟨x0, x1, x2, x3⟩ := li_cells h4.2.1
          obtain ⟨t0, t1, t2, t3, t4, t5, t6⟩ := ts_cells hd4
          have HM4 := Hold.mk hm4
          obtain ⟨v, hv⟩ : ∃ v, passB b t x = v := ⟨_, rfl⟩
          have HPP : Hold (∀ W, Mod noB Wr W → Calls Try.prog 73 #[bxV ao b.ks.length cap b, tsV t, liV x] W fun e w' => e = .returned (.bool v) ∧ Mod noB W w') := ⟨fun W h => by rw [← hv]; exact H73.out W t h (List.mem_of_getElem? HZ.out)⟩
          have HVV := Hold.mk hv
          clear hz hm4 hd4 hv h4
          cases v with
          | true =>
            gi_wp2_with (refine ⟨trivial, ?_⟩; gi_at_call 73; (try rw [hW4]); refine (CallsIn.inRound l2 (callsIn_wide.2 (HPP.out _ (HM2.out.trans (HMM.out.trans HM4.out))))).mono ?_; rintro e w5 ⟨rfl, hM⟩; have HM5 := Hold.mk (HM4.out.trans hM); clear hM)
            go_roundw
            case rel => exact ⟨k + 1, by omega, by go_num, fun j r hj hy => by
              rcases Nat.lt_succ_iff_lt_or_eq.1 hj with h | rfl
              · exact H0.out j r h hy
              · rw [HZ.out] at hy; cases hy; exact HVV.out, HMM.out.trans HM5.out⟩
            case measure => simp [intOf]; omega
          | false =>
            gi_wp2_with (refine ⟨trivial, ?_⟩; gi_at_call 73; (try rw [hW4]); refine (CallsIn.inRound l2 (callsIn_wide.2 (HPP.out _ (HM2.out.trans (HMM.out.trans HM4.out))))).mono ?_; rintro e w5 ⟨rfl, hM⟩; have HM5 := Hold.mk (HM2.out.trans (HMM.out.trans (HM4.out.trans hM))); clear hM)
            refine ⟨HM5.out.wider (fun _ _ h => h.elim), ?_, (HF.out _ HM5.out).1⟩
            intro y hy
            rcases List.mem_append.1 hy with hy | hy
            · exact HP.out y hy
            · cases List.mem_singleton.1 hy
              have hf : ts.all (fun t => passB b t x) = false := by
                rw [List.all_eq_false]; exact ⟨t, List.mem_of_getElem? HZ.out, by rw [HVV.out]; simp⟩
              rw [slipB, hf, Bool.and_false]
        · obtain rfl : k = ts.length := by omega
          have ha : Hold (slipB b ts x = true) := ⟨by
            have : ts.all (fun t => passB b t x) = true := by
              rw [List.all_eq_true]
              intro t ht
              obtain ⟨j, hj⟩ := List.mem_iff_getElem?.1 ht
              exact H0.out j t (List.getElem?_eq_some_iff.1 hj).1 hj
            rw [slipB, HV.out, this]; rfl⟩
          have h3 := HF2.out _ HMM.out
          obtain ⟨x0, x1, x2, x3⟩ := li_cells h3.2.1
          obtain ⟨l0, l1, l2', l3⟩ := li_cells h3.1.f
          have k0 := cellsAt h3.1.k 0
          have f0 := frozen_at h3.1.f 0
          have f1 := frozen_at h3.1.f 1
          have f2 := frozen_at h3.1.f 2
          have f3 := frozen_at h3.1.f 3
          have fk := frozen_at h3.1.k 0
          have H3 := Hold.mk h3
          clear h3
          gi_wp2
          have hfd := H3.out.1.found HB.out (a0 := .int .i64 (x[0]?.getD 0)) (a1 := .int .i64 (x[1]?.getD 0)) (a2 := .int .i64 (x[2]?.getD 0)) (a3 := .int .i64 (x[3]?.getD 0)) (x := x) rfl
          exact ⟨((HM2.out.trans HMM.out).wider (fun _ _ h => h.elim)).trans hfd.2, rfl, pre, x, rfl, HP.out, ha.out, hfd.1⟩
  case done =>
    rintro D W' hD hz hI hK
    obtain ⟨hp, hS⟩ := hI
    have he : Hold (firstV b ts = .tuple #[liV [], .bool false]) := ⟨by
      have : (allL b).find? (slipB b ts) = none := by rw [List.find?_eq_none]; intro x hx; rw [hp x hx]; simp
      rw [firstV, this]⟩
    obtain ⟨l0, l1, l2, l3⟩ := li_cells hS.f
    have k0 := cellsAt hS.k 0
    have f0 := frozen_at hS.f 0
    have f1 := frozen_at hS.f 1
    have f2 := frozen_at hS.f 2
    have f3 := frozen_at hS.f 3
    have fk := frozen_at hS.k 0
    have HS := Hold.mk hS
    have HK := Hold.mk (And.intro hK hD)
    clear hS hK hz hD hrun hI0 hM1 hb
    gi_wp2
    gi_region_with (fail)
    all_goals
      gi_wp2
      obtain ⟨hK, hD⟩ := HK.out
      have m2 := HS.out.ending HB.out (a0 := .int .i64 (([] : List Int)[0]?.getD 0)) (a1 := .int .i64 (([] : List Int)[1]?.getD 0)) (a2 := .int .i64 (([] : List Int)[2]?.getD 0)) (a3 := .int .i64 (([] : List Int)[3]?.getD 0)) rfl
      have S2 := HS.out.mod HB.out m2
      have hK2 := m2.at hK id
      refine ⟨by simp, .inl ⟨_, _, rfl, run_takeDeferred hK2, ?_⟩⟩
      exact ⟨_, results52 rfl rfl ((World.putObj_heap_other (by omega)).trans S2.f) ((World.putObj_heap_other (by omega)).trans S2.k), by rw [he.out], S2.m.putObj (fun h => by omega) _⟩
  case stop =>
    rintro D c pre W' hD hz hpre ⟨rfl, p, x, rfl, hp, hsx, hS⟩ hK
    have he : Hold (firstV b ts = .tuple #[liV x, .bool true]) := ⟨by
      have : (allL b).find? (slipB b ts) = some x := by
        obtain ⟨t, ht⟩ := hpre
        rw [← ht, List.append_assoc, List.find?_append, List.find?_eq_none.2 (fun y hy => by rw [hp y hy]; simp), List.cons_append, List.find?_cons, hsx]
        rfl
      rw [firstV, this]⟩
    obtain ⟨l0, l1, l2, l3⟩ := li_cells hS.f
    have k0 := cellsAt hS.k 0
    have f0 := frozen_at hS.f 0
    have f1 := frozen_at hS.f 1
    have f2 := frozen_at hS.f 2
    have f3 := frozen_at hS.f 3
    have fk := frozen_at hS.k 0
    have HS := Hold.mk hS
    have HK := Hold.mk (And.intro hK hD)
    clear hS hK hz hD hrun hI0 hM1 hb
    gi_wp2
    gi_region_with (fail)
    all_goals
      gi_wp2
      obtain ⟨hK, hD⟩ := HK.out
      have m2 := HS.out.ending HB.out (a0 := .int .i64 (x[0]?.getD 0)) (a1 := .int .i64 (x[1]?.getD 0)) (a2 := .int .i64 (x[2]?.getD 0)) (a3 := .int .i64 (x[3]?.getD 0)) rfl
      have S2 := HS.out.mod HB.out m2
      have hK2 := m2.at hK id
      refine ⟨by simp, .inl ⟨_, _, rfl, run_takeDeferred hK2, ?_⟩⟩
      exact ⟨_, results52 rfl rfl ((World.putObj_heap_other (by omega)).trans S2.f) ((World.putObj_heap_other (by omega)).trans S2.k), by rw [he.out], S2.m.putObj (fun h => by omega) _⟩

end Go.Proofs.Ytknbcmildpmokaa

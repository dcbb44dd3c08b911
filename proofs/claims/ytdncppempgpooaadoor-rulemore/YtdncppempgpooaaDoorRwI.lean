/- The document's Bad. -/
import Derived.Test.YtdncppempgpooaaDoorRwH
set_option linter.unusedSimpArgs false
set_option linter.unusedVariables false
namespace Go.Proofs.YtdncppempgpooaaDoor
open Go.RowKit Go.Shelf

/-- The first stint, and in it the first blade, that can be off too far by a plan, from a stint on. -/
def badR (d : Dye) : Nat → (Nat → Int) → List (Int × Int) → List Nat → Option (Nat × Nat)
  | _, _, [], _ => none
  | i, r, s :: ss, p => match failing d (bentR r (p.headD 0)) s with
    | some b => some (i, b)
    | none => badR d (i + 1) (runR d (bentR r (p.headD 0)) s) ss (p.drop 1)
def badV (o : Option (Nat × Nat)) : Value := match o with
  | some (i, k) => .tuple #[.int .i64 i, .int .i64 k, .bool true]
  | none => .tuple #[.int .i64 0, .int .i64 0, .bool false]
@[reducible] def ranC (n : Nat) (r : Nat → Int) : Array Value := fcells n fun k => .int .i64 (r k)

/-- What Bad holds on to: all but its own row. -/
structure BadF (w : World) (B : Nat) (ao : Option Addr) (cap : Nat) (d : Dye) (lo : Option Addr) (l : List (Int × Int)) (po : Option Addr) (p : List Int) (W : World) : Prop where
  die : W.heap[w.heap.size]? = some (.cells (dyC ao d.bl.length cap d) 24)
  le : B ≤ W.heap.size
  bl : BladesAt B W ao d.bl
  st : StintsAt B W lo l
  pl : IntsAt W po p
  m : Mod noB w W

theorem make_ran (n : Nat) (hn : n ≤ 5) (W : World) : (Instr.makeSlice 34 (.int .i64 n) (.int .i64 n)).run Tryd.prog W = .ok (.slice (some ⟨W.heap.size, 0, none⟩) n n) (W.alloc (.cells (ranC n zeroR) 3)) := by
  have h := run_makeSlice (P := Tryd.prog) W 34 3 Tryd.t3 (.int .i64 0) Tryd.underlying34 (by kernel_rfl) (by kernel_rfl) .i64 .i64 n n (by omega) (Int.le_refl _) (by show (n : Int).toNat * 1 ≤ _; omega) (by show ((8 : Nat) : Int) * n ≤ _; omega) (by omega)
  rw [h, Int.toNat_natCast]
  have : madeCells (Value.int IntKind.i64 0).cells (n * Tryd.t3.size) = ranC n zeroR := by
    rcases (by omega : n = 0 ∨ n = 1 ∨ n = 2 ∨ n = 3 ∨ n = 4 ∨ n = 5) with rfl | rfl | rfl | rfl | rfl | rfl <;> kernel_rfl
  rw [this]
/-- A plan's set before a stint; the sets as the program reads them. -/
def setAt (p : List Int) (i : Nat) : Nat := ((0 :: natsOf p).drop i).headD 0
theorem setAt_zero (p : List Int) : setAt p 0 = 0 := rfl
theorem setAt_succ {p : List Int} {i : Nat} {x : Int} (h : p[i]? = some x) : setAt p (i + 1) = x.toNat := by
  unfold setAt natsOf
  rw [List.drop_succ_cons, List.headD_eq_head?_getD, List.head?_drop, List.getElem?_map, h]
  rfl
theorem badR_step (d : Dye) (p : List Int) (i : Nat) (r : Nat → Int) (l : List (Int × Int)) (s : Int × Int) (h : l[i]? = some s) :
    badR d i r (l.drop i) ((0 :: natsOf p).drop i) = match failing d (bentR r (setAt p i)) s with
      | some b => some (i, b)
      | none => badR d (i + 1) (runR d (bentR r (setAt p i)) s) (l.drop (i + 1)) ((0 :: natsOf p).drop (i + 1)) := by
  have hlt := (List.getElem?_eq_some_iff.1 h).1
  have he := (List.getElem?_eq_some_iff.1 h).2
  have e : (0 :: natsOf p).drop (i + 1) = ((0 :: natsOf p).drop i).drop 1 := by rw [List.drop_drop]
  rw [List.drop_eq_getElem_cons hlt, he, e]
  rfl
/-- A row in which the first blades have run on. -/
def partR (r : Nat → Int) (set : Nat) (s : Int) (k : Nat) : Nat → Int := fun j => if j < k then bentR r set j + s else r j
theorem ranC_same {n : Nat} {r q : Nat → Int} (h : ∀ j, j < n → r j = q j) : ranC n r = ranC n q := by
  unfold ranC fcells
  congr 1
  exact List.map_congr_left fun k hk => by rw [h k (List.mem_range.1 hk)]
theorem row_put {W : World} {b n : Nat} {q : Nat → Int} {m : Nat} {v : Int} (h : W.heap[b]? = some (.cells (ranC n q) 3)) : (W.setCell ⟨b, m, none⟩ (.int .i64 v)).heap[b]? = some (.cells (ranC n (fun j => if j = m then v else q j)) 3) := by
  rw [fcells_store h]
  have : (fun j => if j = m then Value.int .i64 v else Value.int .i64 (q j)) = fun j => Value.int .i64 (if j = m then v else q j) := by
    funext j; split <;> rfl
  rw [this]
theorem part_step {r q : Nat → Int} {set : Nat} {st v : Int} {m : Nat} (hv : v = bentR r set m + st) (hq : ∀ j, j ≠ m → q j = partR r set st m j) (j : Nat) : (if j = m then v else q j) = partR r set st (m + 1) j := by
  unfold partR
  by_cases h : j = m
  · subst h; rw [if_pos rfl, if_pos (by omega), hv]
  · rw [if_neg h, hq j h]; unfold partR
    by_cases h2 : j < m
    · rw [if_pos h2, if_pos (by omega)]
    · rw [if_neg h2, if_neg (by omega)]
theorem part_end {r : Nat → Int} {set : Nat} {d : Dye} {st mo : Int} (j : Nat) (h : j < d.bl.length) : partR r set st d.bl.length j = runR d (bentR r set) (st, mo) j := by
  simp [partR, runR, h]
theorem failing_first {d : Dye} {r : Nat → Int} {s : Int × Int} {m : Nat} (hm : m < d.bl.length) (h : failsB d r m s = true) (hb : ∀ t, t < m → failsB d r t s = false) : failing d r s = some m := by
  unfold failing
  rw [List.find?_range_eq_some]
  exact ⟨h, by simpa using hm, fun j hj => by simp [hb j hj]⟩
theorem run_bd {d : Dye} {r : Nat → Int} {set i : Nat} {st mo : Int} (hr : ∀ j, j < 5 → 0 ≤ r j ∧ r j ≤ i * 1000) (h1 : 1 ≤ st ∧ st ≤ 1000) (j : Nat) (hj : j < 5) : 0 ≤ runR d (bentR r set) (st, mo) j ∧ runR d (bentR r set) (st, mo) j ≤ (i + 1 : Nat) * 1000 := by
  have := hr j hj
  unfold runR bentR
  by_cases ht : set.testBit j = true <;> by_cases h : j < d.bl.length <;> simp only [ht, h, if_true, if_false, Bool.false_eq_true] <;> omega
set_option maxRecDepth 100000 in
set_option maxHeartbeats 4000000 in
theorem bad_any (B : Nat) (ao : Option Addr) (cap : Nat) (d : Dye) (lo : Option Addr) (lcap : Nat) (l : List (Int × Int)) (po : Option Addr) (pcap : Nat) (p : List Int) (w : World) (hd : dieB d = true) (hsb : stintsB l = true) (hpb : planB d l p = true) (hI : InB B w ao d lo l) (hp : IntsAt w po p) :
    Calls Tryd.prog 29 #[dyV ao d.bl.length cap d, .slice lo l.length lcap, .slice po p.length pcap] w fun e w' => e = .returned (badV (badR d 0 zeroR l (0 :: natsOf p))) ∧ Mod noB w w' := by
  obtain ⟨⟨l1, l5⟩, hbs, ⟨db1, db2⟩, _, _⟩ := dieB_parts hd
  have hmk := make_ran d.bl.length l5
  have hll : l.length ≤ 7 := by simp [stintsB] at hsb; omega
  have hls : ∀ s ∈ l, stintB s = true := by
    simp only [stintsB, Bool.and_eq_true, List.all_eq_true] at hsb; exact hsb.2
  have hpl : p.length = max 0 (l.length - 1) := by simp [planB] at hpb; omega
  have hpx : ∀ x ∈ p, 0 ≤ x ∧ x ≤ 31 := fun x hx => by
    simp only [planB, Bool.and_eq_true, List.all_eq_true] at hpb
    obtain ⟨a1, a2⟩ := fromB_parts (hpb.2 x hx)
    have := pow_bd l5
    have := @allS_int d
    omega
  have hsm := hI.bl.small
  have hw0 : w.heap.size < (w.alloc (.cells (dyC ao d.bl.length cap d) 24)).heap.size := by simp
  obtain ⟨W1, hW1⟩ : ∃ W1, (w.alloc (.cells (dyC ao d.bl.length cap d) 24)).alloc (.cells (ranC d.bl.length zeroR) 3) = W1 := ⟨_, rfl⟩
  have hm1 : Mod noB w W1 := by rw [← hW1]; exact ((Mod.refl _ _).alloc _).alloc _
  have hb0 : W1.heap[w.heap.size]? = some (.cells (dyC ao d.bl.length cap d) 24) := by rw [← hW1]; exact allocL_at [_, _] w 0 _ rfl
  have hb1 : W1.heap[w.heap.size + 1]? = some (.cells (ranC d.bl.length zeroR) 3) := by rw [← hW1]; exact allocL_at [_, _] w 1 _ rfl
  have HF : Hold (∀ W, Mod (fun j => j = w.heap.size + 1) W1 W → BadF w B ao cap d lo l po p W) := ⟨fun W h => by
    have hm : Mod noB w W := hm1.then h (fun i hi e => by omega)
    have hlow := Low.ofN hm hI.le
    exact ⟨h.at hb0 (by omega), Nat.le_trans hI.le hm.size, hI.bl.low hlow, hI.st.low hlow, hp.mod hm, hm⟩⟩
  have HL := Hold.mk (And.intro hls hpx)
  have HB := Hold.mk hd
  have HPL := Hold.mk hpl
  have HLE := Hold.mk hI.le
  clear hpl hI hp hd hsb hpb hls hpx hbs hm1 hb0
  go_enter Tryd.func29, Tryd.ntmps29
  go_wp2
  try rw [hW1]
  clear hW1
  go_loopw [10] (fun i wr => ∃ (k : Nat) (r : Nat → Int), k ≤ l.length ∧ i = .int .i64 k ∧ wr.heap[w.heap.size + 1]? = some (.cells (ranC d.bl.length r) 3) ∧ (∀ j, j < 5 → 0 ≤ r j ∧ r j ≤ k * 1000) ∧ badR d 0 zeroR l (0 :: natsOf p) = badR d k r (l.drop k) ((0 :: natsOf p).drop k) ∧ Mod (fun j => j = w.heap.size + 1) W1 wr) (fun i _ => l.length - (intOf i).toNat)
  case atStart => exact ⟨0, zeroR, Nat.zero_le _, rfl, hb1, fun j _ => by simp [zeroR], rfl, Mod.refl _ _⟩
  case round =>
    obtain ⟨i, r, hi, rfl, hrow, hrb, hbad, hm⟩ := hrel
    have HM := Hold.mk hm
    have HX := Hold.mk (And.intro hrow (And.intro hrb hbad))
    clear hrow hrb hbad hm
    by_cases hlt : i < l.length
    · obtain ⟨⟨st, mo⟩, hs⟩ : ∃ x, l[i]? = some x := ⟨_, List.getElem?_eq_getElem hlt⟩
      have hst := HL.out.1 _ (List.mem_of_getElem? hs)
      have hsb : (1 ≤ st ∧ st ≤ 1000) ∧ 0 ≤ mo ∧ mo ≤ 100000 := by simpa [stintB, fromB, Bool.and_eq_true] using hst
      have HS := Hold.mk hs
      clear hst hs
      go_wp2
      obtain ⟨set, hset⟩ : ∃ set, setAt p i = set := ⟨_, rfl⟩
      have HSET := Hold.mk hset
      clear hset
      go_loopw [11] (fun j W => ∃ m : Nat, m ≤ d.bl.length ∧ j = .int .i64 m ∧ W.heap[w.heap.size + 1]? = some (.cells (ranC d.bl.length (partR r set st m)) 3) ∧ Mod (fun j => j = w.heap.size + 1) W1 W) (fun j _ => d.bl.length - (intOf j).toNat)
      case atStart => exact ⟨0, Nat.zero_le _, rfl, HX.out.1, HM.out⟩
      case round =>
        obtain ⟨m, hm5, rfl, hrow, hmm⟩ := hrel
        have HR := Hold.mk (And.intro hrow hmm)
        have HFm := Hold.mk (HF.out _ hmm)
        have ga := cellsAt HFm.out.die 0
        clear hrow hmm
        by_cases hlt2 : m < d.bl.length
        · obtain ⟨sb, soff, hlo, hsb1, q0, q1⟩ := HFm.out.st.stint HS.out
          subst hlo
          have hsb2 : sb < wr.heap.size := Nat.lt_of_lt_of_le hsb1 HFm.out.le
          have HST := Hold.mk q0
          have hmI : (m : Int) < (d.bl.length : Int) := by omega
          have hiI : (i : Int) < (l.length : Int) := by omega
          have hrm := HX.out.2.1 m (by omega)
          have hsbB : sb < B := hsb1
          clear q0 q1 hsb1
          rcases (show i = 0 ∨ ∃ i', i = i' + 1 from by cases i with | zero => exact .inl rfl | succ n => exact .inr ⟨n, rfl⟩) with hi0 | ⟨i', hi1⟩
          · have HBIT : Hold (set.testBit m = false) := ⟨by rw [← HSET.out, hi0, setAt_zero]; simp⟩
            have hI : ¬ (0 : Int) < (i : Int) := by omega
            clear hi0
            go_wp2
            have HR4 := HR
            have F4 : Hold (∀ W', Mod noB wr W' → W'.cell? ⟨w.heap.size + 1, m, none⟩ = some (.int .i64 (r m)) ∧ W'.cell? ⟨sb, soff + i * 2, none⟩ = some (.int .i64 st)) := ⟨fun W' h => ⟨by rw [fcells_cell (h.at HR.out.1 id) hlt2]; simp [partR], (cell_same (h.block sb hsb2 id) _).trans HST.out⟩⟩
            have HV : Hold (r m + st = bentR r set m + st) := ⟨by unfold bentR; rw [HBIT.out]; rfl⟩
            refine region_tailP 13 ⟨by decide, by kernel_rfl, by kernel_rfl, by kernel_rfl, by kernel_rfl, by kernel_rfl⟩ (by kernel_rfl) (fun W' => Mod noB wr W') (Mod.refl _ _).drew ?_
            simp only [strikeL, List.take_succ_cons, List.take_zero, List.drop_succ_cons, List.drop_zero, List.map_cons, List.map_nil, List.cons_append, List.nil_append, bareO]
            repeat
              (first
                | go_big_quiet_skip
                | (go_big_quiet_want
                   go_simp
                   first
                     | go_big_quiet_on
                     | (apply Exists.intro
                        refine ⟨fun W' hC => ?_, ?_⟩
                        · obtain ⟨c0, c1⟩ := F4.out W' hC
                          first
                            | with_reducible rfl
                            | (go_simp; first | rfl | exact ⟨rfl, rfl⟩)
                        go_big_quiet_on)
                     | (refine ⟨⟨_, fun _ _ => rfl⟩, ?_⟩; go_big_quiet_on)))
            refine wpQuiet_nil ?_
            intro Wq hq
            have HRq := Hold.mk (And.intro (hq.at HR4.out.1 id) (HR4.out.2.trans (hq.wider (fun _ _ h => h.elim))))
            have f0 := frozen_at HRq.out.1 m
            have g0 := fcells_cell HRq.out.1 hlt2
            clear hq
            gi_wp2
            go_wp2
            go_roundw
            case rel => exact ⟨m + 1, by omega, by go_num, (row_put HRq.out.1).trans (congrArg (fun x => some (Obj.cells x 3)) (ranC_same (fun j _ => part_step (q := (partR r set st m)) HV.out (fun _ _ => rfl) j))), HRq.out.2.setCell (fun _ => rfl) _⟩
            case measure => simp [intOf]; omega

          · obtain ⟨x, hx⟩ : ∃ x, p[i']? = some x := ⟨_, List.getElem?_eq_getElem (by have := HPL.out; omega)⟩
            obtain ⟨x0, x31⟩ := HL.out.2 x (List.mem_of_getElem? hx)
            obtain ⟨s, rfl⟩ : ∃ s : Nat, x = s := ⟨x.toNat, by omega⟩
            have hset2 : set = s := by rw [← HSET.out, hi1, setAt_succ hx]; simp
            subst hset2
            obtain ⟨pb, poff, hpo, hpb1, hpc⟩ := HFm.out.pl.lies (fun e => by rw [e] at hx; simp at hx)
            subst hpo
            have c0 := hpc i' (List.getElem?_eq_some_iff.1 hx).1
            rw [hx, Option.getD_some] at c0
            have hi2 : (i : Int) - 1 = (i' : Int) := by omega
            have hI : (0 : Int) < (i : Int) := by omega
            clear hi1
            have hi3 : (i' : Int) < (p.length : Int) := by have := (List.getElem?_eq_some_iff.1 hx).1; omega
            clear hpc hx hpb1
            have H33 : Hold (∀ W, Calls Tryd.prog 33 #[.int .i64 set, .int .i64 m] W fun e w' => e = .returned (.bool (set.testBit m)) ∧ Mod noB W w') := ⟨fun W => has_any set m W (by omega) (by omega)⟩
            cases ht : set.testBit m with
            | false =>
              rw [ht] at H33
              have HBIT := Hold.mk ht
              clear ht
              go_wp2_with (go_at_call 33; refine (H33.out _).mono ?_; rintro e w2 ⟨rfl, hM⟩; have HM2 := Hold.mk hM; clear hM)
              have HR4 := Hold.mk (And.intro (HM2.out.at HR.out.1 id) (HR.out.2.trans (HM2.out.wider (fun _ _ h => h.elim))))
              have F4 : Hold (∀ W', Mod noB w2 W' → W'.cell? ⟨w.heap.size + 1, m, none⟩ = some (.int .i64 (r m)) ∧ W'.cell? ⟨sb, soff + i * 2, none⟩ = some (.int .i64 st)) := ⟨fun W' h => ⟨by rw [fcells_cell (h.at HR4.out.1 id) hlt2]; simp [partR], (cell_same ((HM2.out.trans h).block sb hsb2 id) _).trans HST.out⟩⟩
              have HV : Hold (r m + st = bentR r set m + st) := ⟨by unfold bentR; rw [HBIT.out]; rfl⟩
              refine region_tailP 13 ⟨by decide, by kernel_rfl, by kernel_rfl, by kernel_rfl, by kernel_rfl, by kernel_rfl⟩ (by kernel_rfl) (fun W' => Mod noB w2 W') (Mod.refl _ _).drew ?_
              simp only [strikeL, List.take_succ_cons, List.take_zero, List.drop_succ_cons, List.drop_zero, List.map_cons, List.map_nil, List.cons_append, List.nil_append, bareO]
              repeat
                (first
                  | go_big_quiet_skip
                  | (go_big_quiet_want
                     go_simp
                     first
                       | go_big_quiet_on
                       | (apply Exists.intro
                          refine ⟨fun W' hC => ?_, ?_⟩
                          · obtain ⟨c0, c1⟩ := F4.out W' hC
                            first
                              | with_reducible rfl
                              | (go_simp; first | rfl | exact ⟨rfl, rfl⟩)
                          go_big_quiet_on)
                       | (refine ⟨⟨_, fun _ _ => rfl⟩, ?_⟩; go_big_quiet_on)))
              refine wpQuiet_nil ?_
              intro Wq hq
              have HRq := Hold.mk (And.intro (hq.at HR4.out.1 id) (HR4.out.2.trans (hq.wider (fun _ _ h => h.elim))))
              have f0 := frozen_at HRq.out.1 m
              have g0 := fcells_cell HRq.out.1 hlt2
              clear hq
              gi_wp2
              go_wp2
              go_roundw
              case rel => exact ⟨m + 1, by omega, by go_num, (row_put HRq.out.1).trans (congrArg (fun x => some (Obj.cells x 3)) (ranC_same (fun j _ => part_step (q := (partR r set st m)) HV.out (fun _ _ => rfl) j))), HRq.out.2.setCell (fun _ => rfl) _⟩
              case measure => simp [intOf]; omega

            | true =>
              rw [ht] at H33
              have HBIT := Hold.mk ht
              clear ht
              go_wp2_with (go_at_call 33; refine (H33.out _).mono ?_; rintro e w2 ⟨rfl, hM⟩; have HM2 := Hold.mk hM; have HR2 := Hold.mk (And.intro (HM2.out.at HR.out.1 id) (HR.out.2.trans (HM2.out.wider (fun _ _ h => h.elim)))); have e0 := fcells_cell HR2.out.1 hlt2; have e1 := frozen_at HR2.out.1 m; clear hM)
              have HR4 := Hold.mk (And.intro (row_put (m := m) (v := 0) HR2.out.1) (HR2.out.2.setCell (p := ⟨w.heap.size + 1, m, none⟩) (fun _ => rfl) (.int .i64 0)))
              have hrl : w.heap.size + 1 ≠ sb := by have := HLE.out; omega
              have F4 : Hold (∀ W', Mod noB (w2.setCell ⟨w.heap.size + 1, m, none⟩ (.int .i64 0)) W' → W'.cell? ⟨w.heap.size + 1, m, none⟩ = some (.int .i64 0) ∧ W'.cell? ⟨sb, soff + i * 2, none⟩ = some (.int .i64 st)) := ⟨fun W' h => ⟨by rw [fcells_cell (h.at HR4.out.1 id) hlt2]; simp, (cell_same ((h.block sb (by have := ((Mod.refl (fun j => j = w.heap.size + 1) w2).setCell (p := ⟨w.heap.size + 1, m, none⟩) (fun _ => rfl) (.int .i64 0)).size; have := HM2.out.size; omega) id).trans ((((Mod.refl (fun j => j = w.heap.size + 1) w2).setCell (p := ⟨w.heap.size + 1, m, none⟩) (fun _ => rfl) (.int .i64 0)).block sb (by have := HM2.out.size; omega) (fun e => hrl e.symm)).trans (HM2.out.block sb hsb2 id))) _).trans HST.out⟩⟩
              have HV : Hold (st = bentR r set m + st) := ⟨by unfold bentR; rw [HBIT.out]; simp⟩
              refine region_tailP 13 ⟨by decide, by kernel_rfl, by kernel_rfl, by kernel_rfl, by kernel_rfl, by kernel_rfl⟩ (by kernel_rfl) (fun W' => Mod noB (w2.setCell ⟨w.heap.size + 1, m, none⟩ (.int .i64 0)) W') (Mod.refl _ _).drew ?_
              simp only [strikeL, List.take_succ_cons, List.take_zero, List.drop_succ_cons, List.drop_zero, List.map_cons, List.map_nil, List.cons_append, List.nil_append, bareO]
              repeat
                (first
                  | go_big_quiet_skip
                  | (go_big_quiet_want
                     go_simp
                     first
                       | go_big_quiet_on
                       | (apply Exists.intro
                          refine ⟨fun W' hC => ?_, ?_⟩
                          · obtain ⟨c0, c1⟩ := F4.out W' hC
                            first
                              | with_reducible rfl
                              | (go_simp; first | rfl | exact ⟨rfl, rfl⟩)
                          go_big_quiet_on)
                       | (refine ⟨⟨_, fun _ _ => rfl⟩, ?_⟩; go_big_quiet_on)))
              refine wpQuiet_nil ?_
              intro Wq hq
              have HRq := Hold.mk (And.intro (hq.at HR4.out.1 id) (HR4.out.2.trans (hq.wider (fun _ _ h => h.elim))))
              have f0 := frozen_at HRq.out.1 m
              have g0 := fcells_cell HRq.out.1 hlt2
              clear hq
              gi_wp2
              go_wp2
              go_roundw
              case rel => exact ⟨m + 1, by omega, by go_num, (row_put HRq.out.1).trans (congrArg (fun x => some (Obj.cells x 3)) (ranC_same (fun j _ => part_step (q := (fun j => if j = m then 0 else partR r set st m j)) HV.out (fun j h => if_neg h) j))), HRq.out.2.setCell (fun _ => rfl) _⟩
              case measure => simp [intOf]; omega
        · obtain rfl : m = d.bl.length := by omega
          go_wp2
          generalize wr = W5 at *
          have HR5 := Hold.mk (show W5.heap[w.heap.size + 1]? = some (.cells (ranC d.bl.length (runR d (bentR r set) (st, mo))) 3) ∧ Mod (fun j => j = w.heap.size + 1) W1 W5 from ⟨by rw [HR.out.1, ranC_same (fun j hj => part_end (mo := mo) j hj)], HR.out.2⟩)
          have HRB := Hold.mk (run_bd (d := d) (set := set) (mo := mo) HX.out.2.1 hsb.1)
          have HBAD := Hold.mk (HX.out.2.2.trans (badR_step d p i r l (st, mo) HS.out))
          obtain ⟨R, hR⟩ : ∃ R, runR d (bentR r set) (st, mo) = R := ⟨_, rfl⟩
          have HRm : Hold (∀ m, m < d.bl.length → R m = bentR r set m + st) := ⟨fun m hm => by rw [← hR]; simp [runR, hm]⟩
          rw [HSET.out] at HBAD
          rw [hR] at HR5 HRB HBAD
          clear hR ga
          go_loopw [12] (fun j W => ∃ m : Nat, m ≤ d.bl.length ∧ j = .int .i64 m ∧ (∀ t, t < m → failsB d (bentR r set) t (st, mo) = false) ∧ Mod noB W5 W) (fun j _ => d.bl.length - (intOf j).toNat)
          case atStart => exact ⟨0, Nat.zero_le _, rfl, fun t ht => absurd ht (Nat.not_lt_zero _), Mod.refl _ _⟩
          case round =>
            obtain ⟨m, hm5, rfl, hfs, hmm⟩ := hrel
            have HMT : Hold (Mod (fun j => j = w.heap.size + 1) W1 wr) := ⟨HR5.out.2.trans (hmm.wider (fun _ _ h => h.elim))⟩
            have HFm := Hold.mk (HF.out _ HMT.out)
            have HROW := Hold.mk (hmm.at HR5.out.1 id)
            have HFS := Hold.mk hfs
            have HMM := Hold.mk hmm
            have ga := cellsAt HFm.out.die 0
            clear hfs hmm
            by_cases hlt2 : m < d.bl.length
            · obtain ⟨sb, soff, hlo, hsb1, q0, q1⟩ := HFm.out.st.stint HS.out
              subst hlo
              have hsb2 : sb < wr.heap.size := Nat.lt_of_lt_of_le hsb1 HFm.out.le
              have hmI : (m : Int) < (d.bl.length : Int) := by omega
              have hiI : (i : Int) < (l.length : Int) := by omega
              have hrm := HRB.out m (by omega)
              have FIN : Hold (∀ W', Mod noB wr W' → (W'.heap[w.heap.size]? = some (.cells (dyC ao d.bl.length cap d) 24) ∧ B ≤ W'.heap.size ∧ BladesAt B W' ao d.bl) ∧ W'.cell? ⟨w.heap.size + 1, m, none⟩ = some (.int .i64 (R m)) ∧ W'.cell? ⟨sb, soff + i * 2 + 1, none⟩ = some (.int .i64 mo)) := ⟨fun W' h => ⟨⟨h.at HFm.out.die id, Nat.le_trans HFm.out.le h.size, HFm.out.bl.low (Low.ofN h HFm.out.le)⟩, fcells_cell (h.at HROW.out id) hlt2, (cell_same (h.block sb hsb2 id) _).trans q1⟩⟩
              have HFE : Hold (failsB d (bentR r set) m (st, mo) = decide (d.bound + mo < mostV (bladeAt d m) (R m))) := ⟨by unfold failsB; rw [HRm.out m hlt2]⟩
              have H44 : Hold (∀ W, B ≤ W.heap.size → BladesAt B W ao d.bl → Calls Tryd.prog 44 #[dyV ao d.bl.length cap d, .int .i64 m, .int .i64 (R m)] W fun e w' => e = .returned (.int .i64 (mostV (bladeAt d m) (R m))) ∧ Mod noB W w') := ⟨fun W h1 h2 => refWorst_any B ao cap d m (R m) W h1 h2 HB.out hlt2 (by omega)⟩
              have hv : IntKind.i64.wrap (d.bound + mo) = d.bound + mo := IntWalk.i64_in _ (by omega)
              clear q0 q1 hsb1
              generalize mostV (bladeAt d m) (R m) = mv at *
              generalize R m = rm at *
              go_wp2
              refine region_quietP (by kernel_rfl) (by kernel_rfl) (fun W' => Mod noB wr W') ((Mod.refl _ _).drew) ?_
              repeat
                (first
                  | go_big_quiet_skip
                  | (go_big_quiet_want
                     go_simp
                     first
                       | go_big_quiet_on
                       | (apply Exists.intro
                          refine ⟨fun W' hC => ?_, ?_⟩
                          · obtain ⟨⟨gd, gl, gb⟩, c4, c5⟩ := FIN.out W' hC
                            have c0 := cellsAt gd 0; have c1 := cellsAt gd 1; have c2 := cellsAt gd 2; have c3 := cellsAt gd 3
                            first
                              | (go_at_call 44; (with_reducible refine (H44.out _ gl gb).mono ?_); exact fun e w'' he => ⟨he.1, hC.trans he.2⟩)
                              | with_reducible rfl
                              | (clear gd gl gb; go_simp; first | rfl | exact ⟨rfl, rfl⟩)
                          go_big_quiet_on)
                       | (refine ⟨⟨_, fun _ _ => rfl⟩, ?_⟩; go_big_quiet_on)))
              refine wpQuiet_nil ?_
              intro Wq hq
              have HMq := Hold.mk (HMM.out.trans hq)
              have HMm : Hold (Mod noB w Wq) := ⟨(HF.out _ (HMT.out.trans (hq.wider (fun _ _ h => h.elim)))).m⟩
              clear hq
              by_cases hfl : d.bound + mo < mv
              · have HD : Hold (badR d 0 zeroR l (0 :: natsOf p) = some (i, m)) := ⟨by
                  rw [HBAD.out, failing_first hlt2 (by rw [HFE.out]; simp [hfl]) HFS.out]⟩
                go_wp2
                go_ret3
                exact ⟨by rw [HD.out]; rfl, HMm.out⟩
              · have HD : Hold (failsB d (bentR r set) m (st, mo) = false) := ⟨by rw [HFE.out]; simp; omega⟩
                go_wp2
                go_roundw
                case rel => exact ⟨m + 1, by omega, by go_num, fun t ht => by
                  rcases Nat.lt_succ_iff_lt_or_eq.1 ht with h | rfl
                  · exact HFS.out t h
                  · exact HD.out, HMq.out⟩
                case measure => simp [intOf]; omega
            · obtain rfl : m = d.bl.length := by omega
              have HD : Hold (badR d 0 zeroR l (0 :: natsOf p) = badR d (i + 1) R (l.drop (i + 1)) ((0 :: natsOf p).drop (i + 1))) := ⟨by
                rw [HBAD.out, failing_iff.2 HFS.out]⟩
              go_wp2
              go_roundw
              case rel => exact ⟨i + 1, R, by omega, by go_num, HROW.out, HRB.out, HD.out, HMT.out⟩
              case measure => simp [intOf]; omega
    · obtain rfl : i = l.length := by omega
      have HD : Hold (badR d 0 zeroR l (0 :: natsOf p) = none) := ⟨by rw [HX.out.2.2, List.drop_length]; rfl⟩
      go_wp2
      go_ret3
      exact ⟨by rw [HD.out]; rfl, (HF.out _ HM.out).m⟩
end Go.Proofs.YtdncppempgpooaaDoor

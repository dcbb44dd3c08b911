/- point: what a point is in the lines. -/
import Derived.Test.YtogalmkeipigeaaTail
import Derived.Test.YtogalmkeipigeaaApart
import Derived.Test.YtogalmkeipigeaaOutside
set_option linter.unusedSimpArgs false
set_option linter.unusedVariables false
namespace Go.Proofs.Ytogalmkeipigeaa
open Go.RowKit Go.Shelf
attribute [local go_sem] Oper.semAt_some

def oneB (b : Bool) : Nat := if b then 1 else 0
def pointB (a b c d : Bool) : Int :=
  if oneB a + oneB b + oneB c + oneB d = 1 then 3 else if oneB a + oneB b + oneB c + oneB d = 2 ∧ a ≠ c then 1 else if 2 < oneB a + oneB b + oneB c + oneB d then 2 else 0
/-- What the point on the left of column x, above row y, is. -/
def pointR (g : Int × Int → Option Int) (x y : Int) : Int :=
  pointB (apartB g (x - 1, y - 1) (x, y - 1)) (apartB g (x, y - 1) (x, y)) (apartB g (x, y) (x - 1, y)) (apartB g (x - 1, y) (x - 1, y - 1))

def upB (k j : Nat) (b : Bool) : Bool := if j < k then b else false
def cntB (k : Nat) (a b c d : Bool) : Nat := oneB (upB k 0 a) + oneB (upB k 1 b) + oneB (upB k 2 c) + oneB (upB k 3 d)
theorem oneB_le (b : Bool) : oneB b ≤ 1 := by cases b <;> decide
theorem cntB_le (k : Nat) (a b c d : Bool) : cntB k a b c d ≤ 4 := by
  have h1 := oneB_le (upB k 0 a); have h2 := oneB_le (upB k 1 b); have h3 := oneB_le (upB k 2 c); have h4 := oneB_le (upB k 3 d)
  unfold cntB; omega

theorem cnt_up0 (b c d : Bool) : Value.int .i64 ((cntB 0 true b c d : Nat) + 1 : Int) = .int .i64 (cntB 1 true b c d : Nat) := rfl
theorem cnt_up1 (a c d : Bool) : Value.int .i64 ((cntB 1 a true c d : Nat) + 1 : Int) = .int .i64 (cntB 2 a true c d : Nat) := by cases a <;> rfl
theorem cnt_up2 (a b d : Bool) : Value.int .i64 ((cntB 2 a b true d : Nat) + 1 : Int) = .int .i64 (cntB 3 a b true d : Nat) := by cases a <;> cases b <;> rfl
theorem cnt_up3 (a b c : Bool) : Value.int .i64 ((cntB 3 a b c true : Nat) + 1 : Int) = .int .i64 (cntB 4 a b c true : Nat) := by cases a <;> cases b <;> cases c <;> rfl
theorem cnt_no0 (b c d : Bool) : Value.int .i64 (cntB 0 false b c d : Nat) = .int .i64 (cntB 1 false b c d : Nat) := rfl
theorem cnt_no1 (a c d : Bool) : Value.int .i64 (cntB 1 a false c d : Nat) = .int .i64 (cntB 2 a false c d : Nat) := by cases a <;> rfl
theorem cnt_no2 (a b d : Bool) : Value.int .i64 (cntB 2 a b false d : Nat) = .int .i64 (cntB 3 a b false d : Nat) := by cases a <;> cases b <;> rfl
theorem cnt_no3 (a b c : Bool) : Value.int .i64 (cntB 3 a b c false : Nat) = .int .i64 (cntB 4 a b c false : Nat) := by cases a <;> cases b <;> cases c <;> rfl

set_option maxRecDepth 100000 in
set_option maxHeartbeats 4000000 in
theorem point_any (W H N : Int) (mb : Nat) (x y : Int) (w : World) (g : Int × Int → Option Int) (hm : MapIs Try.prog 106 cellV w mb g) (hx : 0 ≤ x ∧ x ≤ 12) (hy : 0 ≤ y ∧ y ≤ 12) :
    Calls Try.prog 75 #[.agg #[.int .i64 W, .int .i64 H, .int .i64 N, .map (some mb)], .int .i64 x, .int .i64 y] w fun e w' => e = .returned (.int .i64 (pointR g x y)) ∧ Mod noB w w' := by
  obtain ⟨hx1, hx2⟩ := hx
  obtain ⟨hy1, hy2⟩ := hy
  obtain ⟨L0, h0⟩ : ∃ L, apartB g (x - 1, y - 1) (x, y - 1) = L := ⟨_, rfl⟩
  obtain ⟨L1, h1⟩ : ∃ L, apartB g (x, y - 1) (x, y) = L := ⟨_, rfl⟩
  obtain ⟨L2, h2⟩ : ∃ L, apartB g (x, y) (x - 1, y) = L := ⟨_, rfl⟩
  obtain ⟨L3, h3⟩ : ∃ L, apartB g (x - 1, y) (x - 1, y - 1) = L := ⟨_, rfl⟩
  have HR : Hold (pointR g x y = pointB L0 L1 L2 L3) := ⟨by unfold pointR; rw [h0, h1, h2, h3]⟩
  have HA0 : Hold (∀ w', MapIs Try.prog 106 cellV w' mb g → Calls Try.prog 77 #[.agg #[.int .i64 W, .int .i64 H, .int .i64 N, .map (some mb)], .agg #[.int .i64 (x - 1), .int .i64 (y - 1)], .agg #[.int .i64 x, .int .i64 (y - 1)]] w' fun e w'' => e = .returned (.bool L0) ∧ Mod noB w' w'') := ⟨fun w' h => by rw [← h0]; exact apart_any W H N mb _ _ _ _ w' g h (wf64_of (by omega) (by omega)) (wf64_of (by omega) (by omega)) (wf64_of (by omega) (by omega)) (wf64_of (by omega) (by omega))⟩
  have HA1 : Hold (∀ w', MapIs Try.prog 106 cellV w' mb g → Calls Try.prog 77 #[.agg #[.int .i64 W, .int .i64 H, .int .i64 N, .map (some mb)], .agg #[.int .i64 x, .int .i64 (y - 1)], .agg #[.int .i64 x, .int .i64 y]] w' fun e w'' => e = .returned (.bool L1) ∧ Mod noB w' w'') := ⟨fun w' h => by rw [← h1]; exact apart_any W H N mb _ _ _ _ w' g h (wf64_of (by omega) (by omega)) (wf64_of (by omega) (by omega)) (wf64_of (by omega) (by omega)) (wf64_of (by omega) (by omega))⟩
  have HA2 : Hold (∀ w', MapIs Try.prog 106 cellV w' mb g → Calls Try.prog 77 #[.agg #[.int .i64 W, .int .i64 H, .int .i64 N, .map (some mb)], .agg #[.int .i64 x, .int .i64 y], .agg #[.int .i64 (x - 1), .int .i64 y]] w' fun e w'' => e = .returned (.bool L2) ∧ Mod noB w' w'') := ⟨fun w' h => by rw [← h2]; exact apart_any W H N mb _ _ _ _ w' g h (wf64_of (by omega) (by omega)) (wf64_of (by omega) (by omega)) (wf64_of (by omega) (by omega)) (wf64_of (by omega) (by omega))⟩
  have HA3 : Hold (∀ w', MapIs Try.prog 106 cellV w' mb g → Calls Try.prog 77 #[.agg #[.int .i64 W, .int .i64 H, .int .i64 N, .map (some mb)], .agg #[.int .i64 (x - 1), .int .i64 y], .agg #[.int .i64 (x - 1), .int .i64 (y - 1)]] w' fun e w'' => e = .returned (.bool L3) ∧ Mod noB w' w'') := ⟨fun w' h => by rw [← h3]; exact apart_any W H N mb _ _ _ _ w' g h (wf64_of (by omega) (by omega)) (wf64_of (by omega) (by omega)) (wf64_of (by omega) (by omega)) (wf64_of (by omega) (by omega))⟩
  rw [HR.out]
  clear h0 h1 h2 h3
  have HM := Hold.mk hm
  clear hm
  have i0 : ∀ w, (Instr.index 130 (.agg #[.int .i64 (x - 1), .int .i64 (y - 1), .int .i64 x, .int .i64 (y - 1), .int .i64 x, .int .i64 y, .int .i64 (x - 1), .int .i64 y]) (.int .i64 0)).run Try.prog w = .ok (.agg #[.int .i64 (x - 1), .int .i64 (y - 1)]) w := fun _ => by kernel_rfl
  have i1 : ∀ w, (Instr.index 130 (.agg #[.int .i64 (x - 1), .int .i64 (y - 1), .int .i64 x, .int .i64 (y - 1), .int .i64 x, .int .i64 y, .int .i64 (x - 1), .int .i64 y]) (.int .i64 1)).run Try.prog w = .ok (.agg #[.int .i64 x, .int .i64 (y - 1)]) w := fun _ => by kernel_rfl
  have i2 : ∀ w, (Instr.index 130 (.agg #[.int .i64 (x - 1), .int .i64 (y - 1), .int .i64 x, .int .i64 (y - 1), .int .i64 x, .int .i64 y, .int .i64 (x - 1), .int .i64 y]) (.int .i64 2)).run Try.prog w = .ok (.agg #[.int .i64 x, .int .i64 y]) w := fun _ => by kernel_rfl
  have i3 : ∀ w, (Instr.index 130 (.agg #[.int .i64 (x - 1), .int .i64 (y - 1), .int .i64 x, .int .i64 (y - 1), .int .i64 x, .int .i64 y, .int .i64 (x - 1), .int .i64 y]) (.int .i64 3)).run Try.prog w = .ok (.agg #[.int .i64 (x - 1), .int .i64 y]) w := fun _ => by kernel_rfl
  refine callsIn_wide (n := 3) |>.1 ?_
  refine callsIn_of_wp Try.func75 rfl trivial ?_ rfl
  simp only [Try.ntmps75, List.size_toArray, List.length_cons, List.length_nil, Nat.reduceAdd, Nat.reduceSub, Array.replicate_succ, Array.replicate_zero, List.push_toArray, List.append_toArray, List.nil_append, List.cons_append]
  gi_wp2
  rw [allocL3]
  obtain ⟨W1, hW1⟩ : ∃ W1, allocL w [.cells #[.int .i64 W, .int .i64 H, .int .i64 N, .map (some mb)] 71, .cells #[.int .i64 (x - 1), .int .i64 (y - 1), .int .i64 x, .int .i64 (y - 1), .int .i64 x, .int .i64 y, .int .i64 (x - 1), .int .i64 y] 130, .cells #[.bool false, .bool false, .bool false, .bool false] 131] = W1 := ⟨_, rfl⟩
  rw [hW1]
  have HM1 : Hold (Mod noB w W1) := ⟨by rw [← hW1]; exact allocL_mod _ _ _⟩
  have hz1 : W1.heap.size = w.heap.size + 3 := by rw [← hW1]; exact allocL_size _ _
  have HP1 : Hold (W1.heap[w.heap.size + 0]? = some (.cells #[.int .i64 W, .int .i64 H, .int .i64 N, .map (some mb)] 71)) := ⟨by rw [← hW1]; exact allocL_at _ _ _ _ rfl⟩
  have HC1 : Hold (W1.heap[w.heap.size + 1]? = some (.cells #[.int .i64 (x - 1), .int .i64 (y - 1), .int .i64 x, .int .i64 (y - 1), .int .i64 x, .int .i64 y, .int .i64 (x - 1), .int .i64 y] 130)) := ⟨by rw [← hW1]; exact allocL_at _ _ _ _ rfl⟩
  have HL1 : Hold (W1.heap[w.heap.size + 2]? = some (.cells #[.bool false, .bool false, .bool false, .bool false] 131)) := ⟨by rw [← hW1]; exact allocL_at _ _ _ _ rfl⟩
  clear hW1
  gi_loopw [9, 30] (fun m i wr => ∃ k : Nat, k ≤ 4 ∧ i = .int .i64 k ∧ m = .int .i64 (cntB k L0 L1 L2 L3 : Nat) ∧ wr.heap[w.heap.size + 2]? = some (.cells #[.bool (upB k 0 L0), .bool (upB k 1 L1), .bool (upB k 2 L2), .bool (upB k 3 L3)] 131) ∧ Mod (fun b => b = w.heap.size + 2) W1 wr) (fun _ i _ => 4 - (intOf i).toNat)
  case atStart => exact ⟨0, by omega, rfl, rfl, HL1.out, Mod.refl _ _⟩
  case round =>
    obtain ⟨k, hk, rfl, rfl, hlb, hmr⟩ := hrel
    obtain ⟨cm, hcm⟩ : ∃ cm : Nat, cm = cntB k L0 L1 L2 L3 := ⟨_, rfl⟩
    have hcm4 : cm ≤ 4 := by rw [hcm]; exact cntB_le _ _ _ _ _
    rw [← hcm]
    have HCM := Hold.mk hcm
    clear hcm
    have hkk : k = 0 ∨ k = 1 ∨ k = 2 ∨ k = 3 ∨ k = 4 := by omega
    rcases hkk with rfl | rfl | rfl | rfl | rfl
    · have hlb' : wr.heap[w.heap.size + 2]? = some (.cells #[.bool false, .bool false, .bool false, .bool false] 131) := hlb
      have v1 : IntKind.i64.wrap 1 = 1 := IntWalk.i64_in _ (by omega)
      have v2 : (1 : Int).tmod 4 = 1 := by decide
      obtain ⟨Wx, hWx⟩ : ∃ Wx, wr.alloc (.cells #[.int .i64 (x - 1), .int .i64 (y - 1)] 106) = Wx := ⟨_, rfl⟩
      have hMx : Mod noB wr Wx := by rw [← hWx]; exact (Mod.refl _ _).alloc _
      have hcx : Wx.heap[wr.heap.size]? = some (.cells #[.int .i64 (x - 1), .int .i64 (y - 1)] 106) := by rw [← hWx]; exact World.alloc_heap_new _ _
      have FIN : Hold (∀ W', Mod noB Wx W' → W'.cell? ⟨w.heap.size, 0, none⟩ = some (.int .i64 W) ∧ W'.cell? ⟨w.heap.size, 1, none⟩ = some (.int .i64 H) ∧ W'.cell? ⟨w.heap.size, 2, none⟩ = some (.int .i64 N) ∧ W'.cell? ⟨w.heap.size, 3, none⟩ = some (.map (some mb)) ∧
          W'.cell? ⟨wr.heap.size, 0, none⟩ = some (.int .i64 (x - 1)) ∧ W'.cell? ⟨wr.heap.size, 1, none⟩ = some (.int .i64 (y - 1)) ∧ W'.cell? ⟨w.heap.size + 1, 2, none⟩ = some (.int .i64 x) ∧ W'.cell? ⟨w.heap.size + 1, 3, none⟩ = some (.int .i64 (y - 1)) ∧ MapIs Try.prog 106 cellV W' mb g ∧
          W'.heap[w.heap.size + 2]? = some (.cells #[.bool false, .bool false, .bool false, .bool false] 131) ∧ W'.cell? ⟨w.heap.size + 1 + 1, 0, none⟩ = some (.bool false) ∧ W'.frozen? ⟨w.heap.size + 1 + 1, 0, none⟩ = false) := ⟨fun W' h => by
        have hm' : Mod (fun b => b = w.heap.size + 2) W1 W' := (hmr.then hMx (fun _ _ h => h.elim)).then h (fun _ _ h => h.elim)
        have e1 := hm'.at HP1.out (by omega)
        have e2 := hm'.at HC1.out (by omega)
        have e3 := h.at (hMx.at hlb' id) id
        have e4 := h.at hcx id
        have hmw : Mod (fun b => b = w.heap.size + 2) w W' := (HM1.out.wider (fun _ _ h => h.elim)).trans hm'
        simp only [Nat.add_zero] at e1
        refine ⟨?_, ?_, ?_, ?_, ?_, ?_, ?_, ?_, HM.out.same (hmw.block mb HM.out.lt (by have := HM.out.lt; omega)), e3, ?_, cells_frozen e3 0⟩ <;> simp [World.cell?, e1, e2, e3, e4]⟩
      have HMR := Hold.mk (And.intro hmr hMx)
      clear hlb hlb' hmr hMx hcx
      gi_wp2
      clear hWx
      refine region_tail (fun _ => trivial) rfl wide_call mixed 10 ⟨by decide, by kernel_rfl, by kernel_rfl, by kernel_rfl, by kernel_rfl, by kernel_rfl⟩ (by kernel_rfl) (fun W' => Mod noB Wx W') ((Mod.refl _ _).drew) ?_
      simp only [strikeL, List.take_succ_cons, List.take_zero, List.drop_succ_cons, List.drop_zero, List.map_cons, List.map_nil, List.cons_append, List.nil_append, bareO]
      repeat
        (first
          | go_big_quiet_skip
          | (go_big_quiet_want
             go_simp
             first
               | go_big_quiet_on
               | (apply Exists.intro
                  refine ⟨fun W' hC => ?_, ?_⟩
                  · obtain ⟨q0, q1, q2, q3, q4, q5, q6, q7, q8, _, _, _⟩ := FIN.out W' hC
                    first
                      | (go_at_call 77; refine (HA0.out _ q8).mono fun e w'' he => ⟨he.1, hC.trans he.2⟩)
                      | with_reducible rfl
                      | (clear q8; go_simp; first | rfl | exact ⟨rfl, rfl⟩)
                  go_big_quiet_on)
               | (refine ⟨⟨_, fun _ _ => rfl⟩, ?_⟩; go_big_quiet_on)))
      refine wpQuiet_nil ?_
      intro Wq hq
      obtain ⟨_, _, _, _, _, _, _, _, _, hlq, l0, l1⟩ := FIN.out Wq hq
      have HQ := Hold.mk (And.intro hq hlq)
      clear hq hlq
      cases L0 with
      | true =>
        gi_wp2
        go_roundw
        case rel =>
          obtain ⟨hq, hlq⟩ := HQ.out
          have hs := setCell_at hlq 0 (.bool true)
          exact ⟨1, by omega, rfl, by rw [HCM.out]; exact (cnt_up0 _ _ _), hs, ((HMR.out.1.then HMR.out.2 (fun _ _ h => h.elim)).then hq (fun _ _ h => h.elim)).setCell (p := ⟨w.heap.size + 1 + 1, 0, none⟩) (fun _ => rfl) _⟩
        case measure => simp [intOf]
      | false =>
        gi_wp2
        go_roundw
        case rel =>
          obtain ⟨hq, hlq⟩ := HQ.out
          have hs := setCell_at hlq 0 (.bool false)
          exact ⟨1, by omega, rfl, by rw [HCM.out]; exact cnt_no0 _ _ _, hs, ((HMR.out.1.then HMR.out.2 (fun _ _ h => h.elim)).then hq (fun _ _ h => h.elim)).setCell (p := ⟨w.heap.size + 1 + 1, 0, none⟩) (fun _ => rfl) _⟩
        case measure => simp [intOf]
    · have hlb' : wr.heap[w.heap.size + 2]? = some (.cells #[.bool L0, .bool false, .bool false, .bool false] 131) := hlb
      have v1 : IntKind.i64.wrap 2 = 2 := IntWalk.i64_in _ (by omega)
      have v2 : (2 : Int).tmod 4 = 2 := by decide
      obtain ⟨Wx, hWx⟩ : ∃ Wx, wr.alloc (.cells #[.int .i64 x, .int .i64 (y - 1)] 106) = Wx := ⟨_, rfl⟩
      have hMx : Mod noB wr Wx := by rw [← hWx]; exact (Mod.refl _ _).alloc _
      have hcx : Wx.heap[wr.heap.size]? = some (.cells #[.int .i64 x, .int .i64 (y - 1)] 106) := by rw [← hWx]; exact World.alloc_heap_new _ _
      have FIN : Hold (∀ W', Mod noB Wx W' → W'.cell? ⟨w.heap.size, 0, none⟩ = some (.int .i64 W) ∧ W'.cell? ⟨w.heap.size, 1, none⟩ = some (.int .i64 H) ∧ W'.cell? ⟨w.heap.size, 2, none⟩ = some (.int .i64 N) ∧ W'.cell? ⟨w.heap.size, 3, none⟩ = some (.map (some mb)) ∧
          W'.cell? ⟨wr.heap.size, 0, none⟩ = some (.int .i64 x) ∧ W'.cell? ⟨wr.heap.size, 1, none⟩ = some (.int .i64 (y - 1)) ∧ W'.cell? ⟨w.heap.size + 1, 4, none⟩ = some (.int .i64 x) ∧ W'.cell? ⟨w.heap.size + 1, 5, none⟩ = some (.int .i64 y) ∧ MapIs Try.prog 106 cellV W' mb g ∧
          W'.heap[w.heap.size + 2]? = some (.cells #[.bool L0, .bool false, .bool false, .bool false] 131) ∧ W'.cell? ⟨w.heap.size + 1 + 1, 1, none⟩ = some (.bool false) ∧ W'.frozen? ⟨w.heap.size + 1 + 1, 1, none⟩ = false) := ⟨fun W' h => by
        have hm' : Mod (fun b => b = w.heap.size + 2) W1 W' := (hmr.then hMx (fun _ _ h => h.elim)).then h (fun _ _ h => h.elim)
        have e1 := hm'.at HP1.out (by omega)
        have e2 := hm'.at HC1.out (by omega)
        have e3 := h.at (hMx.at hlb' id) id
        have e4 := h.at hcx id
        have hmw : Mod (fun b => b = w.heap.size + 2) w W' := (HM1.out.wider (fun _ _ h => h.elim)).trans hm'
        simp only [Nat.add_zero] at e1
        refine ⟨?_, ?_, ?_, ?_, ?_, ?_, ?_, ?_, HM.out.same (hmw.block mb HM.out.lt (by have := HM.out.lt; omega)), e3, ?_, cells_frozen e3 1⟩ <;> simp [World.cell?, e1, e2, e3, e4]⟩
      have HMR := Hold.mk (And.intro hmr hMx)
      clear hlb hlb' hmr hMx hcx
      gi_wp2
      clear hWx
      refine region_tail (fun _ => trivial) rfl wide_call mixed 10 ⟨by decide, by kernel_rfl, by kernel_rfl, by kernel_rfl, by kernel_rfl, by kernel_rfl⟩ (by kernel_rfl) (fun W' => Mod noB Wx W') ((Mod.refl _ _).drew) ?_
      simp only [strikeL, List.take_succ_cons, List.take_zero, List.drop_succ_cons, List.drop_zero, List.map_cons, List.map_nil, List.cons_append, List.nil_append, bareO]
      repeat
        (first
          | go_big_quiet_skip
          | (go_big_quiet_want
             go_simp
             first
               | go_big_quiet_on
               | (apply Exists.intro
                  refine ⟨fun W' hC => ?_, ?_⟩
                  · obtain ⟨q0, q1, q2, q3, q4, q5, q6, q7, q8, _, _, _⟩ := FIN.out W' hC
                    first
                      | (go_at_call 77; refine (HA1.out _ q8).mono fun e w'' he => ⟨he.1, hC.trans he.2⟩)
                      | with_reducible rfl
                      | (clear q8; go_simp; first | rfl | exact ⟨rfl, rfl⟩)
                  go_big_quiet_on)
               | (refine ⟨⟨_, fun _ _ => rfl⟩, ?_⟩; go_big_quiet_on)))
      refine wpQuiet_nil ?_
      intro Wq hq
      obtain ⟨_, _, _, _, _, _, _, _, _, hlq, l0, l1⟩ := FIN.out Wq hq
      have HQ := Hold.mk (And.intro hq hlq)
      clear hq hlq
      cases L1 with
      | true =>
        gi_wp2
        go_roundw
        case rel =>
          obtain ⟨hq, hlq⟩ := HQ.out
          have hs := setCell_at hlq 1 (.bool true)
          exact ⟨2, by omega, rfl, by rw [HCM.out]; exact (cnt_up1 _ _ _), hs, ((HMR.out.1.then HMR.out.2 (fun _ _ h => h.elim)).then hq (fun _ _ h => h.elim)).setCell (p := ⟨w.heap.size + 1 + 1, 1, none⟩) (fun _ => rfl) _⟩
        case measure => simp [intOf]
      | false =>
        gi_wp2
        go_roundw
        case rel =>
          obtain ⟨hq, hlq⟩ := HQ.out
          have hs := setCell_at hlq 1 (.bool false)
          exact ⟨2, by omega, rfl, by rw [HCM.out]; exact cnt_no1 _ _ _, hs, ((HMR.out.1.then HMR.out.2 (fun _ _ h => h.elim)).then hq (fun _ _ h => h.elim)).setCell (p := ⟨w.heap.size + 1 + 1, 1, none⟩) (fun _ => rfl) _⟩
        case measure => simp [intOf]
    · have hlb' : wr.heap[w.heap.size + 2]? = some (.cells #[.bool L0, .bool L1, .bool false, .bool false] 131) := hlb
      have v1 : IntKind.i64.wrap 3 = 3 := IntWalk.i64_in _ (by omega)
      have v2 : (3 : Int).tmod 4 = 3 := by decide
      obtain ⟨Wx, hWx⟩ : ∃ Wx, wr.alloc (.cells #[.int .i64 x, .int .i64 y] 106) = Wx := ⟨_, rfl⟩
      have hMx : Mod noB wr Wx := by rw [← hWx]; exact (Mod.refl _ _).alloc _
      have hcx : Wx.heap[wr.heap.size]? = some (.cells #[.int .i64 x, .int .i64 y] 106) := by rw [← hWx]; exact World.alloc_heap_new _ _
      have FIN : Hold (∀ W', Mod noB Wx W' → W'.cell? ⟨w.heap.size, 0, none⟩ = some (.int .i64 W) ∧ W'.cell? ⟨w.heap.size, 1, none⟩ = some (.int .i64 H) ∧ W'.cell? ⟨w.heap.size, 2, none⟩ = some (.int .i64 N) ∧ W'.cell? ⟨w.heap.size, 3, none⟩ = some (.map (some mb)) ∧
          W'.cell? ⟨wr.heap.size, 0, none⟩ = some (.int .i64 x) ∧ W'.cell? ⟨wr.heap.size, 1, none⟩ = some (.int .i64 y) ∧ W'.cell? ⟨w.heap.size + 1, 6, none⟩ = some (.int .i64 (x - 1)) ∧ W'.cell? ⟨w.heap.size + 1, 7, none⟩ = some (.int .i64 y) ∧ MapIs Try.prog 106 cellV W' mb g ∧
          W'.heap[w.heap.size + 2]? = some (.cells #[.bool L0, .bool L1, .bool false, .bool false] 131) ∧ W'.cell? ⟨w.heap.size + 1 + 1, 2, none⟩ = some (.bool false) ∧ W'.frozen? ⟨w.heap.size + 1 + 1, 2, none⟩ = false) := ⟨fun W' h => by
        have hm' : Mod (fun b => b = w.heap.size + 2) W1 W' := (hmr.then hMx (fun _ _ h => h.elim)).then h (fun _ _ h => h.elim)
        have e1 := hm'.at HP1.out (by omega)
        have e2 := hm'.at HC1.out (by omega)
        have e3 := h.at (hMx.at hlb' id) id
        have e4 := h.at hcx id
        have hmw : Mod (fun b => b = w.heap.size + 2) w W' := (HM1.out.wider (fun _ _ h => h.elim)).trans hm'
        simp only [Nat.add_zero] at e1
        refine ⟨?_, ?_, ?_, ?_, ?_, ?_, ?_, ?_, HM.out.same (hmw.block mb HM.out.lt (by have := HM.out.lt; omega)), e3, ?_, cells_frozen e3 2⟩ <;> simp [World.cell?, e1, e2, e3, e4]⟩
      have HMR := Hold.mk (And.intro hmr hMx)
      clear hlb hlb' hmr hMx hcx
      gi_wp2
      clear hWx
      refine region_tail (fun _ => trivial) rfl wide_call mixed 10 ⟨by decide, by kernel_rfl, by kernel_rfl, by kernel_rfl, by kernel_rfl, by kernel_rfl⟩ (by kernel_rfl) (fun W' => Mod noB Wx W') ((Mod.refl _ _).drew) ?_
      simp only [strikeL, List.take_succ_cons, List.take_zero, List.drop_succ_cons, List.drop_zero, List.map_cons, List.map_nil, List.cons_append, List.nil_append, bareO]
      repeat
        (first
          | go_big_quiet_skip
          | (go_big_quiet_want
             go_simp
             first
               | go_big_quiet_on
               | (apply Exists.intro
                  refine ⟨fun W' hC => ?_, ?_⟩
                  · obtain ⟨q0, q1, q2, q3, q4, q5, q6, q7, q8, _, _, _⟩ := FIN.out W' hC
                    first
                      | (go_at_call 77; refine (HA2.out _ q8).mono fun e w'' he => ⟨he.1, hC.trans he.2⟩)
                      | with_reducible rfl
                      | (clear q8; go_simp; first | rfl | exact ⟨rfl, rfl⟩)
                  go_big_quiet_on)
               | (refine ⟨⟨_, fun _ _ => rfl⟩, ?_⟩; go_big_quiet_on)))
      refine wpQuiet_nil ?_
      intro Wq hq
      obtain ⟨_, _, _, _, _, _, _, _, _, hlq, l0, l1⟩ := FIN.out Wq hq
      have HQ := Hold.mk (And.intro hq hlq)
      clear hq hlq
      cases L2 with
      | true =>
        gi_wp2
        go_roundw
        case rel =>
          obtain ⟨hq, hlq⟩ := HQ.out
          have hs := setCell_at hlq 2 (.bool true)
          exact ⟨3, by omega, rfl, by rw [HCM.out]; exact (cnt_up2 _ _ _), hs, ((HMR.out.1.then HMR.out.2 (fun _ _ h => h.elim)).then hq (fun _ _ h => h.elim)).setCell (p := ⟨w.heap.size + 1 + 1, 2, none⟩) (fun _ => rfl) _⟩
        case measure => simp [intOf]
      | false =>
        gi_wp2
        go_roundw
        case rel =>
          obtain ⟨hq, hlq⟩ := HQ.out
          have hs := setCell_at hlq 2 (.bool false)
          exact ⟨3, by omega, rfl, by rw [HCM.out]; exact cnt_no2 _ _ _, hs, ((HMR.out.1.then HMR.out.2 (fun _ _ h => h.elim)).then hq (fun _ _ h => h.elim)).setCell (p := ⟨w.heap.size + 1 + 1, 2, none⟩) (fun _ => rfl) _⟩
        case measure => simp [intOf]
    · have hlb' : wr.heap[w.heap.size + 2]? = some (.cells #[.bool L0, .bool L1, .bool L2, .bool false] 131) := hlb
      have v1 : IntKind.i64.wrap 4 = 4 := IntWalk.i64_in _ (by omega)
      have v2 : (4 : Int).tmod 4 = 0 := by decide
      obtain ⟨Wx, hWx⟩ : ∃ Wx, wr.alloc (.cells #[.int .i64 (x - 1), .int .i64 y] 106) = Wx := ⟨_, rfl⟩
      have hMx : Mod noB wr Wx := by rw [← hWx]; exact (Mod.refl _ _).alloc _
      have hcx : Wx.heap[wr.heap.size]? = some (.cells #[.int .i64 (x - 1), .int .i64 y] 106) := by rw [← hWx]; exact World.alloc_heap_new _ _
      have FIN : Hold (∀ W', Mod noB Wx W' → W'.cell? ⟨w.heap.size, 0, none⟩ = some (.int .i64 W) ∧ W'.cell? ⟨w.heap.size, 1, none⟩ = some (.int .i64 H) ∧ W'.cell? ⟨w.heap.size, 2, none⟩ = some (.int .i64 N) ∧ W'.cell? ⟨w.heap.size, 3, none⟩ = some (.map (some mb)) ∧
          W'.cell? ⟨wr.heap.size, 0, none⟩ = some (.int .i64 (x - 1)) ∧ W'.cell? ⟨wr.heap.size, 1, none⟩ = some (.int .i64 y) ∧ W'.cell? ⟨w.heap.size + 1, 0, none⟩ = some (.int .i64 (x - 1)) ∧ W'.cell? ⟨w.heap.size + 1, 1, none⟩ = some (.int .i64 (y - 1)) ∧ MapIs Try.prog 106 cellV W' mb g ∧
          W'.heap[w.heap.size + 2]? = some (.cells #[.bool L0, .bool L1, .bool L2, .bool false] 131) ∧ W'.cell? ⟨w.heap.size + 1 + 1, 3, none⟩ = some (.bool false) ∧ W'.frozen? ⟨w.heap.size + 1 + 1, 3, none⟩ = false) := ⟨fun W' h => by
        have hm' : Mod (fun b => b = w.heap.size + 2) W1 W' := (hmr.then hMx (fun _ _ h => h.elim)).then h (fun _ _ h => h.elim)
        have e1 := hm'.at HP1.out (by omega)
        have e2 := hm'.at HC1.out (by omega)
        have e3 := h.at (hMx.at hlb' id) id
        have e4 := h.at hcx id
        have hmw : Mod (fun b => b = w.heap.size + 2) w W' := (HM1.out.wider (fun _ _ h => h.elim)).trans hm'
        simp only [Nat.add_zero] at e1
        refine ⟨?_, ?_, ?_, ?_, ?_, ?_, ?_, ?_, HM.out.same (hmw.block mb HM.out.lt (by have := HM.out.lt; omega)), e3, ?_, cells_frozen e3 3⟩ <;> simp [World.cell?, e1, e2, e3, e4]⟩
      have HMR := Hold.mk (And.intro hmr hMx)
      clear hlb hlb' hmr hMx hcx
      gi_wp2
      clear hWx
      refine region_tail (fun _ => trivial) rfl wide_call mixed 10 ⟨by decide, by kernel_rfl, by kernel_rfl, by kernel_rfl, by kernel_rfl, by kernel_rfl⟩ (by kernel_rfl) (fun W' => Mod noB Wx W') ((Mod.refl _ _).drew) ?_
      simp only [strikeL, List.take_succ_cons, List.take_zero, List.drop_succ_cons, List.drop_zero, List.map_cons, List.map_nil, List.cons_append, List.nil_append, bareO]
      repeat
        (first
          | go_big_quiet_skip
          | (go_big_quiet_want
             go_simp
             first
               | go_big_quiet_on
               | (apply Exists.intro
                  refine ⟨fun W' hC => ?_, ?_⟩
                  · obtain ⟨q0, q1, q2, q3, q4, q5, q6, q7, q8, _, _, _⟩ := FIN.out W' hC
                    first
                      | (go_at_call 77; refine (HA3.out _ q8).mono fun e w'' he => ⟨he.1, hC.trans he.2⟩)
                      | with_reducible rfl
                      | (clear q8; go_simp; first | rfl | exact ⟨rfl, rfl⟩)
                  go_big_quiet_on)
               | (refine ⟨⟨_, fun _ _ => rfl⟩, ?_⟩; go_big_quiet_on)))
      refine wpQuiet_nil ?_
      intro Wq hq
      obtain ⟨_, _, _, _, _, _, _, _, _, hlq, l0, l1⟩ := FIN.out Wq hq
      have HQ := Hold.mk (And.intro hq hlq)
      clear hq hlq
      cases L3 with
      | true =>
        gi_wp2
        go_roundw
        case rel =>
          obtain ⟨hq, hlq⟩ := HQ.out
          have hs := setCell_at hlq 3 (.bool true)
          exact ⟨4, by omega, rfl, by rw [HCM.out]; exact (cnt_up3 _ _ _), hs, ((HMR.out.1.then HMR.out.2 (fun _ _ h => h.elim)).then hq (fun _ _ h => h.elim)).setCell (p := ⟨w.heap.size + 1 + 1, 3, none⟩) (fun _ => rfl) _⟩
        case measure => simp [intOf]
      | false =>
        gi_wp2
        go_roundw
        case rel =>
          obtain ⟨hq, hlq⟩ := HQ.out
          have hs := setCell_at hlq 3 (.bool false)
          exact ⟨4, by omega, rfl, by rw [HCM.out]; exact cnt_no3 _ _ _, hs, ((HMR.out.1.then HMR.out.2 (fun _ _ h => h.elim)).then hq (fun _ _ h => h.elim)).setCell (p := ⟨w.heap.size + 1 + 1, 3, none⟩) (fun _ => rfl) _⟩
        case measure => simp [intOf]
    · have hlb' : wr.heap[w.heap.size + 2]? = some (.cells #[.bool L0, .bool L1, .bool L2, .bool L3] 131) := hlb
      have l0 : wr.cell? ⟨w.heap.size + 1 + 1, 0, none⟩ = some (.bool L0) := by simp [World.cell?, hlb']
      have l2 : wr.cell? ⟨w.heap.size + 1 + 1, 2, none⟩ = some (.bool L2) := by simp [World.cell?, hlb']
      have HF := Hold.mk (HM1.out.then hmr (fun i h1 h2 => by omega))
      have hc : cm = oneB L0 + oneB L1 + oneB L2 + oneB L3 := HCM.out
      clear HCM hlb hlb' hmr i0 i1 i2 i3
      clear HR HA0 HA1 HA2 HA3
      cases L0 <;> cases L1 <;> cases L2 <;> cases L3
      all_goals
        simp only [oneB, Bool.false_eq_true, if_false, if_true, Nat.reduceAdd] at hc
        subst hc
        gi_wp2
        exact bodyPost_ret (results_tmp rfl _ _ _) rfl ⟨rfl, HF.out⟩
end Go.Proofs.Ytogalmkeipigeaa

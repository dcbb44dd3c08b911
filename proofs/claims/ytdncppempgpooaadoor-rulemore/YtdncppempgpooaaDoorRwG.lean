/- The document's Plans, Cost. -/
import Derived.Test.YtdncppempgpooaaDoorRwF
set_option linter.unusedSimpArgs false
set_option linter.unusedVariables false
namespace Go.Proofs.YtdncppempgpooaaDoor
open Go.RowKit Go.Shelf

def planB1 (d : Dye) (x : Int) : Bool := fromB 0 (allS d) x
theorem allS_int {d : Dye} : (((2 ^ d.bl.length : Nat) : Int) - 1) = (allS d : Nat) := by
  have : 1 ≤ 2 ^ d.bl.length := Nat.one_le_two_pow
  unfold allS; omega

theorem beq_dec {a b c : Int} (h : b = c) : (a == b) = decide (a = c) := by
  subst h
  by_cases e : a = b <;> simp [e]
set_option maxRecDepth 100000 in
set_option maxHeartbeats 4000000 in
theorem plans_any (B : Nat) (ao : Option Addr) (cap : Nat) (d : Dye) (lo : Option Addr) (lcap n : Nat) (l : List (Int × Int)) (po : Option Addr) (pcap : Nat) (p : List Int) (w : World) (hn : n = l.length) (hn2 : n ≤ 1000000000000) (hd : d.bl.length ≤ 5) (hp : IntsAt w po p) :
    Calls Tryd.prog 30 #[dyV ao d.bl.length cap d, .slice lo n lcap, .slice po p.length pcap] w fun e w' => e = .returned (.bool (planB d l p)) ∧ Mod noB w w' := by
  have hsm := hp.small
  have hb0 := World.alloc_heap_new w (.cells (dyC ao d.bl.length cap d) 24)
  have HF := Hold.mk (show Kept (w.alloc (.cells (dyC ao d.bl.length cap d) 24)) (fun W => (W.heap[w.heap.size]? = some (.cells (dyC ao d.bl.length cap d) 24) ∧ IntsAt W po p) ∧ Mod noB w W) from fun W h => ⟨⟨h.at hb0 id, hp.mod (((Mod.refl noB w).alloc _).trans h)⟩, ((Mod.refl noB w).alloc _).trans h⟩)
  have H58 : Hold (∀ W, Calls Tryd.prog 58 #[.int .i64 d.bl.length] W fun e w' => e = .returned (.int .i64 ((2 ^ d.bl.length : Nat) : Int)) ∧ Mod noB W w') := ⟨fun W => power_any _ W hd⟩
  have hpw := pow_bd hd
  have hall := @allS_int d
  have HB := Hold.mk (And.intro hall (Eq.refl (planB d l p)))
  generalize hP : (2 ^ d.bl.length : Nat) = P at *
  have hP1 : IntKind.i64.wrap ((P : Int) - 1) = (P : Int) - 1 := IntWalk.i64_in _ (by omega)
  clear hp hb0 hall
  go_enter Tryd.func30, Tryd.ntmps30
  go_wp2
  go_loopw [7] (fun i wr => ∃ k : Nat, k ≤ p.length ∧ i = .int .i64 k ∧ (∀ j x, j < k → p[j]? = some x → fromB 0 (allS d) x = true) ∧ Mod noB (w.alloc (.cells (dyC ao d.bl.length cap d) 24)) wr) (fun i _ => p.length - (intOf i).toNat)
  case atStart => exact ⟨0, Nat.zero_le _, rfl, fun j x hj => absurd hj (Nat.not_lt_zero _), Mod.refl _ _⟩
  case round =>
    obtain ⟨k, hk, rfl, hall, hm⟩ := hrel
    have HA := Hold.mk hall
    have HW := Hold.mk (HF.out.later hm)
    have HMM := Hold.mk hm
    clear hall hm
    by_cases hlt : k < p.length
    · obtain ⟨x, hx⟩ : ∃ x, p[k]? = some x := ⟨_, List.getElem?_eq_getElem hlt⟩
      obtain ⟨b, off, rfl, hb, hc⟩ := HW.out.now.1.2.lies (fun e => by simp [e] at hlt)
      have HX := Hold.mk hx
      have c0 := hc k hlt
      rw [hx, Option.getD_some] at c0
      have FIN : Hold (∀ W', Mod noB wr W' → W'.cell? ⟨w.heap.size, 0, none⟩ = some (.slice ao d.bl.length cap) ∧ W'.cell? ⟨b, off + k, none⟩ = some (.int .i64 x)) := ⟨fun W' h => ⟨cellsAt (HW.out W' h).1.1 0, (cell_same (h.block b (by omega) id) _).trans c0⟩⟩
      have HE : Hold (planB1 d x = fromB 0 ((P : Int) - 1) x) := ⟨by unfold planB1; rw [HB.out.1]⟩
      obtain ⟨y, hy⟩ : ∃ y, fromB 0 ((P : Int) - 1) x = y := ⟨_, rfl⟩
      have H43 : Hold (∀ W, Calls Tryd.prog 43 #[.int .i64 x, .int .i64 0, .int .i64 ((P : Int) - 1)] W fun e w' => e = .returned (.bool y) ∧ w' = W) := ⟨fun W => by rw [← hy]; exact refIn_any _ _ _ _⟩
      rw [hy] at HE
      clear hx hc c0 hb hy
      go_wp2
      refine region_quietP (by kernel_rfl) (by kernel_rfl) (fun W' => Mod noB wr W') ((Mod.refl _ _).drew) ?_
      repeat
        (first
          | go_big_quiet_skip
          | (go_big_quiet_want
             go_simp
             first
               | go_big_quiet_on
               | (apply Exists.intro
                  refine ⟨fun W' hC => ?_, ?_⟩
                  · obtain ⟨d0, d1⟩ := FIN.out W' hC
                    first
                      | (go_at_call 58; (with_reducible refine (H58.out _).mono ?_); exact fun e w'' he => ⟨he.1, hC.trans he.2⟩)
                      | (go_at_call 43; (with_reducible refine (H43.out _).mono ?_); exact fun e w'' he => ⟨he.1, he.2 ▸ hC⟩)
                      | with_reducible rfl
                      | (go_simp; first | rfl | exact ⟨rfl, rfl⟩)
                  go_big_quiet_on)
               | (refine ⟨⟨_, fun _ _ => rfl⟩, ?_⟩; go_big_quiet_on)))
      refine wpQuiet_nil ?_
      intro Wq hq
      have HMq := Hold.mk (HMM.out.trans hq)
      have HFq := Hold.mk (HW.out.later hq)
      clear hq
      cases y with
      | false =>
        have HD : Hold (planB d l p = false) := ⟨by
          have : p.all (fun x => fromB 0 (allS d) x) = false := by
            rw [List.all_eq_false]
            exact ⟨_, List.mem_of_getElem? HX.out, by have := HE.out; unfold planB1 at this; simp [this]⟩
          unfold planB; rw [this, Bool.and_false]⟩
        go_wp2
        go_ret
        exact ⟨by rw [HD.out]; rfl, HFq.out.now.2⟩
      | true =>
        go_wp2
        go_roundw
        case rel => exact ⟨k + 1, by omega, by go_num, fun j y hj hy => by
          rcases Nat.lt_succ_iff_lt_or_eq.1 hj with h | rfl
          · exact HA.out j y h hy
          · rw [HX.out] at hy; cases hy; exact HE.out, HMq.out⟩
        case measure => simp [intOf]; omega
    · obtain rfl : k = p.length := by omega
      have HD : Hold (planB d l p = decide ((p.length : Int) = max 0 ((n : Int) - 1))) := ⟨by
        have : p.all (fun x => fromB 0 (allS d) x) = true := List.all_eq_true.2 fun x hx => by
          obtain ⟨j, hj, he⟩ := List.getElem_of_mem hx
          exact HA.out j x hj (by rw [List.getElem?_eq_getElem hj, he])
        have hmx : ((max 0 (l.length - 1) : Nat) : Int) = max 0 ((l.length : Int) - 1) := by omega
        unfold planB; rw [this, Bool.and_true, hn, hmx]⟩
      rcases (by omega : n = 0 ∨ 1 ≤ n) with rfl | hn1
      · go_wp2
        go_ret
        exact ⟨by rw [HD.out]; exact congrArg (fun b => Ending.returned (.bool b)) (beq_dec (by simp; omega)), HW.out.now.2⟩
      · go_wp2
        all_goals
          go_ret
          exact ⟨by rw [HD.out]; exact congrArg (fun b => Ending.returned (.bool b)) (beq_dec (by omega)), HW.out.now.2⟩
end Go.Proofs.YtdncppempgpooaaDoor

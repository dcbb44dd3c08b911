/- points: what each point is, row by row. -/
import Derived.Test.YtogalmkeipigeaaPoint
set_option linter.unusedSimpArgs false
set_option linter.unusedVariables false
namespace Go.Proofs.Ytogalmkeipigeaa
open Go.RowKit Go.Shelf
attribute [local go_sem] Oper.semAt_some

theorem enter74 : ∀ args w, (callFunc 74 args).run Try.prog w = .ok (.enter 74 args) w := enters_of Try.func74 (by kernel_rfl) rfl

def pointsL (g : Int × Int → Option Int) (W H : Nat) : List Int := (List.range ((H + 1) * (W + 1))).map fun m => pointR g ((m % (W + 1) : Nat) : Int) ((m / (W + 1) : Nat) : Int)
theorem pointsL_len (g : Int × Int → Option Int) (W H : Nat) : (pointsL g W H).length = (H + 1) * (W + 1) := by simp [pointsL]
theorem pointsL_at (g : Int × Int → Option Int) (W H j i : Nat) (hi : i < W + 1) (h : j * (W + 1) + i < (pointsL g W H).length) : (pointsL g W H)[j * (W + 1) + i] = pointR g (i : Int) (j : Int) := by
  have h1 : (j * (W + 1) + i) % (W + 1) = i := by rw [Nat.mul_comm, Nat.mul_add_mod]; exact Nat.mod_eq_of_lt hi
  have h2 : (j * (W + 1) + i) / (W + 1) = j := by rw [Nat.mul_comm, Nat.mul_add_div (by omega)]; rw [Nat.div_eq_of_lt hi]; rfl
  simp only [pointsL, List.getElem_map, List.getElem_range, h1, h2]

set_option maxRecDepth 100000 in
set_option maxHeartbeats 2000000 in
theorem points1_runs (pb mb W H : Nat) (N : Int) (g : Int × Int → Option Int) (w : World) (hpb : w.heap[pb]? = some (.cells #[.int .i64 W, .int .i64 H, .int .i64 N, .map (some mb)] 71))
    (hm : MapIs Try.prog 106 cellV w mb g) (hW : W ≤ 12) (hH : H ≤ 12) :
    Runs Try.prog 74 #[.pointer (some ⟨pb, 0, none⟩)] intV (fun k => k = pb ∨ k = mb) (pointsL g W H) w := by
  refine runs_of fun n l J Jx W0 hs hKW hJ hJx hY h0 => ?_
  have hpb0 : W0.heap[pb]? = some (.cells #[.int .i64 W, .int .i64 H, .int .i64 N, .map (some mb)] 71) := (hKW pb (.inl rfl)).trans hpb
  have hm0 : MapIs Try.prog 106 cellV W0 mb g := hm.same (hKW mb (.inr rfl))
  clear hpb hm hKW
  refine callsIn_of_wp Try.func74 rfl trivial ?_ rfl
  simp only [Try.ntmps74, List.size_toArray, List.length_cons, List.length_nil, Nat.reduceAdd, Nat.reduceSub, Array.replicate_succ, Array.replicate_zero, List.push_toArray, List.append_toArray, List.nil_append, List.cons_append]
  have c1 : W0.cell? ⟨pb, 1, none⟩ = some (.int .i64 H) := by simp [World.cell?, hpb0]
  have HH := Hold.mk (And.intro hpb0 hm0)
  clear hpb0 hm0
  gi_wp2
  gi_loopw [8] (fun y wr => ∃ k : Nat, k ≤ H + 1 ∧ y = .int .i64 k ∧ J (k * (W + 1)) wr ∧ W0.heap.size ≤ wr.heap.size ∧ wr.heap[pb]? = some (.cells #[.int .i64 W, .int .i64 H, .int .i64 N, .map (some mb)] 71) ∧ MapIs Try.prog 106 cellV wr mb g)
    (fun y _ => H + 1 - (intOf y).toNat)
  case atStart => exact ⟨0, by omega, rfl, by simpa using h0, Nat.le_refl _, HH.out.1, HH.out.2⟩
  case round =>
    obtain ⟨k, hk, rfl, hj, hz, hb, hmp⟩ := hrel
    have c0 : wr.cell? ⟨pb, 0, none⟩ = some (.int .i64 W) := by simp [World.cell?, hb]
    by_cases hlt : k < H + 1
    · have HB := Hold.mk (And.intro hb hmp)
      have hd : decide ((k : Int) < (H : Int) + 1) = true := by simp; omega
      clear hb hmp
      gi_wp2
      obtain ⟨wo, rfl⟩ : ∃ wo : World, wo = wr := ⟨_, rfl⟩
      have hlen := pointsL_len g W H
      gi_loopw [14] (fun x wr => ∃ i : Nat, i ≤ W + 1 ∧ x = .int .i64 i ∧ J (k * (W + 1) + i) wr ∧ W0.heap.size ≤ wr.heap.size ∧ wr.heap[pb]? = some (.cells #[.int .i64 W, .int .i64 H, .int .i64 N, .map (some mb)] 71) ∧ MapIs Try.prog 106 cellV wr mb g)
        (fun x _ => W + 1 - (intOf x).toNat)
      case atStart => exact ⟨0, by omega, rfl, by simpa using hj, hz, HB.out.1, HB.out.2⟩
      case round =>
        obtain ⟨i, hi, rfl, hj, hz, hb, hmp⟩ := hrel
        by_cases hlt2 : i < W + 1
        · have hm : k * (W + 1) + i < (pointsL g W H).length := by
            rw [hlen]
            have : (k + 1) * (W + 1) ≤ (H + 1) * (W + 1) := Nat.mul_le_mul_right _ (by omega)
            rw [Nat.succ_mul] at this
            omega
          have HY : Hold (∀ W1 : World, J (k * (W + 1) + i) W1 → W0.heap.size ≤ W1.heap.size → YieldAt Fence.wide n Try.prog l #[.int .i64 (pointR g i k)] W1 fun e W' =>
              (e = .returned (.bool true) ∧ J (k * (W + 1) + i + 1) W' ∧ Mod (fun b => b < W0.heap.size ∧ ¬ (b = pb ∨ b = mb)) W1 W') ∨ (e = .returned (.bool false) ∧ Jx (k * (W + 1) + i + 1) W' ∧ Mod (fun b => b < W0.heap.size ∧ ¬ (b = pb ∨ b = mb)) W1 W')) := ⟨fun W1 h1 h2 => by
            have hy0 := hY _ hm W1 h1 h2
            rw [pointsL_at g W H k i (by omega) hm] at hy0
            exact hy0⟩
          have k0 : wr.cell? ⟨pb, 0, none⟩ = some (.int .i64 W) := by simp [World.cell?, hb]
          have k1 : wr.cell? ⟨pb, 1, none⟩ = some (.int .i64 H) := by simp [World.cell?, hb]
          have k2 : wr.cell? ⟨pb, 2, none⟩ = some (.int .i64 N) := by simp [World.cell?, hb]
          have k3 : wr.cell? ⟨pb, 3, none⟩ = some (.map (some mb)) := by simp [World.cell?, hb]
          have HP := Hold.mk (point_any W H N mb i k wr g hmp ⟨by omega, by omega⟩ ⟨by omega, by omega⟩)
          have HBB := Hold.mk (And.intro hb (And.intro hmp hj))
          clear hlen hm hj hb hmp
          gi_wp2_with (refine ⟨trivial, ?_⟩; gi_at_call 75; refine (callsIn_wide.2 HP.out).mono ?_; rintro e w' ⟨rfl, hMw⟩; obtain ⟨fn, tm, asg, bdy, hy, hR⟩ := HY.out w' (hJ _ _ _ HBB.out.2.2 (hMw.wider (fun i _ h => h.elim))) (Nat.le_trans hz hMw.size))
          refine hR.mono ?_
          have hb4 := hMw.at HBB.out.1 id
          have hm4 := HBB.out.2.1.same (hMw.block mb HBB.out.2.1.lt id)
          rintro e W3 (⟨rfl, hJ3, hM3⟩ | ⟨rfl, hJx3, hM3⟩) <;> have hz3 := hM3.size <;> have hzw := hMw.size <;> have hk3 := Hold.mk (And.intro (hM3.at hb4 (fun h => h.2 (.inl rfl))) (hm4.same (hM3.block mb hm4.lt (fun h => h.2 (.inr rfl))))) <;> clear hM3 hMw hb4 hm4
          · gi_wp2
            go_roundw
            case rel => exact ⟨i + 1, by omega, by go_num, hJ3, by omega, hk3.out.1, hk3.out.2⟩
            case measure => simp [intOf]; omega
          · gi_wp2
            refine bodyPost_ret (results_none rfl _ _ _) rfl ?_
            exact ⟨⟨_, rfl⟩, by omega, .inr ⟨_, hJx3⟩⟩
        · obtain rfl : i = W + 1 := by omega
          gi_wp2
          go_roundw
          case rel => exact ⟨k + 1, by omega, by go_num, by rw [Nat.succ_mul]; exact hj, hz, hb, hmp⟩
          case measure => simp [intOf]; omega
    · obtain rfl : k = H + 1 := by omega
      gi_wp2
      go_end0
      exact ⟨⟨_, rfl⟩, hz, .inl (by rw [pointsL_len]; exact hj)⟩
end Go.Proofs.Ytogalmkeipigeaa

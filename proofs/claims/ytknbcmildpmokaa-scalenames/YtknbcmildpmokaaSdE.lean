/- setsThatCatch. -/
import Derived.Test.YtknbcmildpmokaaSdD
import Derived.Laws.AppendOwnNone
set_option linter.unusedSimpArgs false
set_option linter.unusedVariables false
namespace Go.Proofs.Ytknbcmildpmokaa
open Go.RowKit Go.Shelf Go.Maps


theorem info94 : (Try.prog.info? 94).map (fun i => (i.zero, i.size, i.bytes)) = some (some (spV (0, 0)), 2, 16) := by kernel_rfl
theorem wrap_pow8 {k : Nat} (h : k ≤ 8) : wrap64 ((2 : Int) ^ k) = ((2 ^ k : Nat) : Int) := by
  by_cases h8 : k = 8
  · subst h8; decide +kernel
  · rw [wrap_pow (by omega)]; simp
theorem catchB_L (b : Bx) (ts : List Tst) (set : Nat) : catchL (fun x => passSet b x 0 ts) (lackL (allL b)) set = catchB b ts set := rfl
def offersT (b : Bx) (ts : List Tst) (k : Nat) : List (Int × Int) := ((List.range k).filter (catchB b ts)).map fun (s : Nat) => ((s : Int), costS s 0 ts)
theorem offersT_next (b : Bx) (ts : List Tst) (k : Nat) : offersT b ts (k + 1) = offersT b ts k ++ if catchB b ts k then [((k : Int), costS k 0 ts)] else [] := by
  unfold offersT
  rw [List.range_succ, List.filter_append, List.map_append]
  cases h : catchB b ts k <;> simp [h]
theorem offersT_len (b : Bx) (ts : List Tst) (k : Nat) : (offersT b ts k).length ≤ k := by
  unfold offersT
  rw [List.length_map]
  exact Nat.le_trans (List.length_filter_le _ _) (by rw [List.length_range]; exact Nat.le_refl _)
/-- Offers at a place of their own. -/
def OffsOut (L : List (Int × Int)) (w : World) (e : Ending) (w' : World) : Prop := ∃ v, e = .returned v ∧ w'.ownsRow w.heap.size 94 2 v L.length (flatC spC L) ∧ Mod noB w w'
/-- Between two rounds. -/
structure SeI (B : Nat) (w : World) (ao : Option Addr) (cap : Nat) (b : Bx) (to : Option Addr) (ts : List Tst) (C p m : Nat) (D : DataW Unit) (n : Nat) (L : List (Int × Int)) (v : Value) (W : World) : Prop where
  f : JuF B w ao cap b none ([] : List Rdg) to ts W
  o : W.ownsRow C 94 2 v n (flatC spC L)
  p : MapOwn W p m D
  z : C ≤ W.heap.size
theorem SeI.skip {B : Nat} {w : World} {ao : Option Addr} {cap : Nat} {b : Bx} {to : Option Addr} {ts : List Tst} {C p m n : Nat} {D : DataW Unit} {L : List (Int × Int)} {v : Value} {W W' : World} (hB : B ≤ w.heap.size) (hC : w.heap.size < C) (h : SeI B w ao cap b to ts C p m D n L v W) (hm : Mod noB W W') : SeI B w ao cap b to ts C p m D n L v W' :=
  ⟨h.f.turn hB hC (hm.wider (fun _ _ h => h.elim)), own_mod h.o hm, map_same h.p (hm.block _ h.p.lt id), Nat.le_trans h.z hm.size⟩
theorem SeI.next {B : Nat} {w : World} {ao : Option Addr} {cap : Nat} {b : Bx} {to : Option Addr} {ts : List Tst} {C p m n : Nat} {D : DataW Unit} {L : List (Int × Int)} {x : Int × Int} {v v' : Value} {W w1 w' : World} (hB : B ≤ w.heap.size) (hC : w.heap.size < C) (hp : p < C) (h : SeI B w ao cap b to ts C p m D n L v W) (h1 : Mod noB W w1) (hg : w1.grownBy w' v.ownBlock)
    (ho : w'.ownsRow C 94 2 v' (n + 1) (flatC spC L ++ (spC x).toList)) : SeI B w ao cap b to ts C p m D (n + 1) (L ++ [x]) v' w' := by
  have m : Mod (fun j => C ≤ j) W w' := (h1.wider (fun _ _ h => h.elim)).then (Mod.of_grownBy hg (fun r hr _ => hr)) (fun i hi hk => (own_block h.o hk).1)
  refine ⟨h.f.turn hB hC m, ?_, map_same h.p (m.block _ h.p.lt (by omega)), Nat.le_trans h.z m.size⟩
  rw [flatC_snoc]
  exact ho

set_option maxRecDepth 100000 in
set_option maxHeartbeats 8000000 in
theorem setsThatCatch_any (B : Nat) (ao to : Option Addr) (cap tcap : Nat) (b : Bx) (ts : List Tst) (w : World) (hB : B ≤ w.heap.size) (hb : boxB b = true) (h8 : ts.length ≤ 8) (ht : ∀ t ∈ ts, testB b.ks.length t = true) (hs : KindsAt B w ao b.ks) (hr : TestsAt B w to ts) :
    Calls Try.prog 56 #[bxV ao b.ks.length cap b, .slice to ts.length tcap] w (OffsOut (setsL b ts) w) := by
  have hts := hr.small
  have hksm := hs.small
  obtain ⟨j0, hj, hy0, hy1, hy2⟩ := info_parts info94
  have HF : Hold (Kept (w.alloc (.cells (bxC ao b.ks.length cap b) 26)) (fun W => JuF B w ao cap b none ([] : List Rdg) to ts W)) := ⟨juF hB hs (ListAt.nilL _ _ _ _ _) hr⟩
  have hws : w.heap.size < (w.alloc (.cells (bxC ao b.ks.length cap b) 26)).heap.size := by simp
  have H75 := Hold.mk (fun (W : World) (h : JuF B w ao cap b none ([] : List Rdg) to ts W) => passing_any B ao to cap tcap b ts W h.z hb h8 ht h.b.k h.t)
  have H77 := Hold.mk (fun (set : Nat) (W : World) (hset : set < 256) (h : JuF B w ao cap b none ([] : List Rdg) to ts W) => costOf_any B to tcap ts set W h.z h8 (fun t ht2 => (test_parts (ht t ht2) (boxB_ks hb).2.1).2.2.2.2) hset h.t)
  have H76 := Hold.mk (fun (p m set : Nat) (D : DataW Unit) (W : World) (ho : MapOwn W p m D) (hT : Told b.ks.length (fun x => passSet b x 0 ts) (lackL (allL b)) D) (hset : set < 256) => catchesAll_any p b.ks.length m (fun x => passSet b x 0 ts) (lackL (allL b)) D set W ho hT hset (fun x _ => passSet_small h8))
  have hwp := wrap_pow8 h8
  obtain ⟨N, hN⟩ : ∃ N, 2 ^ ts.length = N := ⟨_, rfl⟩
  rw [hN] at hwp
  have hN8 : N ≤ 256 := by rw [← hN]; exact Nat.pow_le_pow_right (n := 2) (by decide) h8
  have hend : Hold (setsL b ts = offersT b ts N) := ⟨by rw [← hN]; rfl⟩
  have HB := Hold.mk hB
  clear hs hr ht hb hN
  obtain ⟨b0, b1, b2, b3, b4⟩ := HF.out.now.b.cells
  go_enter Try.func56, Try.ntmps56
  go_wp2_with (go_at_call 75; refine (H75.out _ HF.out.now).mono ?_; rintro e w1 ⟨p, m, D, rfl, hmp, hT, hm, hp, hM⟩; have HF1 := Hold.mk (HF.out.later hM); have hpl := hmp.lt; have hw1 := Nat.lt_of_lt_of_le hws hM.size; have HT := Hold.mk hT; have HP := Hold.mk hmp; have HW := Hold.mk (And.intro hw1 hpl); clear hM hT hmp hp hw1 hpl)
  have HI0 : Hold (SeI B w ao cap b to ts w1.heap.size p m D 0 (offersT b ts 0) (.slice none 0 0) w1) := ⟨HF1.out.now, World.ownsRow_nil _ _ _ _, HP.out, Nat.le_refl _⟩
  (try simp only [hwp])
  go_loopw [6, 14] (fun v i wr => ∃ k n : Nat, k ≤ N ∧ i = .int .i64 k ∧ n = (offersT b ts k).length ∧ SeI B w ao cap b to ts w1.heap.size p m D n (offersT b ts k) v wr) (fun _ i _ => N - (intOf i).toNat)
  case atStart => exact ⟨0, 0, Nat.zero_le _, rfl, rfl, HI0.out⟩
  case round =>
    obtain ⟨k, n, hk, rfl, hn, hI⟩ := hrel
    obtain ⟨ao1, cap1, rfl⟩ := own_form hI.o
    have HNL := Hold.mk hn
    have hn4 : n ≤ 256 := by have := offersT_len b ts k; omega
    have HI := Hold.mk hI
    clear hI hn
    by_cases hlt : k < N
    · have HNX := Hold.mk (offersT_next b ts k)
      have hlti : (k : Int) < (N : Int) := by omega
      have hcc := catchB_L b ts k
      obtain ⟨c, hc⟩ : ∃ c, catchB b ts k = c := ⟨_, rfl⟩
      have H76k := Hold.mk (H76.out p m k D wr HI.out.p HT.out (by omega))
      rw [hcc, hc] at H76k
      rw [hc] at HNX
      clear hcc hc
      cases c with
      | true =>
        obtain ⟨y, hy⟩ : ∃ y, costS k 0 ts = y := ⟨_, rfl⟩
        rw [hy] at HNX
        go_wp2_with (first
          | (go_at_call 76; refine (H76k.out).mono ?_; rintro e w4 ⟨rfl, hM⟩; have HI4 := Hold.mk (HI.out.skip HB.out HW.out.1 hM); clear hM)
          | (go_at_call 77; refine (H77.out k _ (by omega) HI4.out.f).mono ?_; rw [hy]; rintro e w5 ⟨rfl, hM⟩; have HI5 := Hold.mk (HI4.out.skip HB.out HW.out.1 hM); clear hM)
          | (at_builtin; refine wpList_append_own_at _ rfl (.tmp 20) (.tmp 26) 97 rfl w1.heap.size 94 j0 (spV (0, 0)) 2 16 Try.underlying97 hj hy0 hy1 hy2 rfl (by decide) _ n (flatC spC (offersT b ts k)) rfl (World.ownsRow.alloc HI5.out.o _) ⟨w5.heap.size, 0, none⟩ 1 1 (spC ((k : Int), y)).toList rfl rfl (new_cells w5 (spC ((k : Int), y)) 94) (by simp [Value.oneCell']) (by unfold maxLen; omega) (by omega) (by have := HI5.out.z; simp; omega) ?_; intro v6 w6 hown hgr _ _
             have HI6 := Hold.mk (HI5.out.next HB.out HW.out.1 HW.out.2 ((Mod.refl noB w5).alloc _) hgr hown)
             clear hown hgr))
        have HT2 : Hold (offersT b ts (k + 1) = offersT b ts k ++ [((k : Int), y)]) := ⟨by rw [HNX.out]; simp⟩
        go_roundw
        case rel => exact ⟨k + 1, n + 1, by omega, by go_num, by rw [HT2.out, List.length_append, ← HNL.out]; rfl, by rw [HT2.out]; exact HI6.out⟩
        case measure => simp [intOf]; omega
      | false =>
        go_wp2_with (first
          | (go_at_call 76; refine (H76k.out).mono ?_; rintro e w4 ⟨rfl, hM⟩; have HI4 := Hold.mk (HI.out.skip HB.out HW.out.1 hM); clear hM))
        have HT2 : Hold (offersT b ts (k + 1) = offersT b ts k) := ⟨by rw [HNX.out]; simp⟩
        go_roundw
        case rel => exact ⟨k + 1, n, by omega, by go_num, by rw [HT2.out]; exact HNL.out, by rw [HT2.out]; exact HI4.out⟩
        case measure => simp [intOf]; omega
    · obtain rfl : k = N := by omega
      go_wp2
      go_ret
      exact ⟨_, rfl, by rw [hend.out, ← HNL.out]; exact own_mono HI.out.o (Nat.le_of_lt HW.out.1), HI.out.f.w⟩

end Go.Proofs.Ytknbcmildpmokaa

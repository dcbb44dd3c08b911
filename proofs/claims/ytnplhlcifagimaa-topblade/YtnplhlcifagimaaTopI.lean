/- TopBlade: the law, of a die and numbers that it looks at. -/
import Derived.Test.YtnplhlcifagimaaTopE
import Derived.Test.YtnplhlcifagimaaTopF
import Derived.Test.YtnplhlcifagimaaTopG
import Derived.Test.YtnplhlcifagimaaTopH
set_option linter.unusedSimpArgs false
set_option linter.unusedVariables false
namespace Go.Proofs.Ytnplhlcifagimaa
open Go.RowKit Go.Shelf

set_option maxRecDepth 100000 in
set_option maxHeartbeats 4000000 in
theorem law3_all (B : Nat) (ao : Option Addr) (cap : Nat) (d : Dye) (k m : Int) (sl ls dp gp wd : Nat) (hsl : sl ≤ 255) (hls : ls ≤ 255) (hdp : dp ≤ 255) (hgp : gp ≤ 255) (hwd : wd ≤ 65535) (w : World) (hs : BladesAt B w ao d.bl) (hB : B ≤ w.heap.size) (hn : d.bl.length ≤ 10) :
    Calls Try.prog 3 #[dyV ao d.bl.length cap d, .int .i64 k, .int .i64 m, .int .u8 sl, .int .u8 ls, .int .u8 dp, .int .u8 gp, .int .u16 wd] w fun e w' => e = .returned (.bool true) ∧ Mod noB w w' := by
  by_cases hno : dieB d = false ∨ k < 0 ∨ (d.bl.length : Int) ≤ k ∨ m < 0 ∨ 7000 < m
  · exact law3_no B ao cap d k m sl ls dp gp wd hsl hls hdp hgp hwd w hs hB hn hno
  have hd : dieB d = true := by cases h : dieB d with | true => rfl | false => exact absurd (.inl h) hno
  have hk0 : 0 ≤ k := by omega
  have hk1 : k < d.bl.length := by omega
  have hm0 : 0 ≤ m := by omega
  have hm1 : m ≤ 7000 := by omega
  obtain ⟨_, hbl, _⟩ := dieB_parts hd
  have hhas : hasB d k = true := by simp [hasB, fromB]; omega
  obtain ⟨_, _, hbk⟩ := hasB_parts hhas
  obtain ⟨⟨b1, b2, b3⟩, b4, b5, b6⟩ := hbl _ (List.mem_of_getElem? hbk)
  generalize hb : bladeAt d k.toNat = b at *
  have hoff : offE d k m = ((leastV b m, mostV b m), 0) := by
    have hf : fromB 0 7000 m = true := by simp [fromB]; omega
    simp [offE, hd, hhas, hf, hb]
  have q1 : 0 ≤ m * b.w.1 := Int.mul_nonneg hm0 b4
  have q2 : m * b.w.1 ≤ m * b.w.2 := Int.mul_le_mul_of_nonneg_left b5 hm0
  have q3 : m * b.w.2 ≤ 7000 * 10000 := Int.mul_le_mul hm1 b6 (by omega) (by omega)
  have ho1 : 0 ≤ leastV b m := by unfold leastV; omega
  have ho2 : leastV b m ≤ mostV b m := by unfold leastV mostV; omega
  have ho3 : mostV b m ≤ 80000000 := by unfold mostV; omega
  have r1b : wd % 1000 ≤ 999 := by omega
  have r2b : gp % 40 ≤ 39 := by omega
  have r3b : dp % 101 ≤ 100 := by omega
  by_cases hx : 1 + ((wd % 1000 : Nat) : Int) - mostV b m < 1
  · exact law3_narrow B ao cap d k m sl ls dp gp wd hsl hls hdp hgp hwd w hs hB hn hd hk0 hk1 hm0 hm1 _ _ hoff ho1 ho2 ho3 (wd % 1000) (gp % 40) (dp % 101) rfl rfl rfl r1b r2b r3b hx
  have hx2 : mostV b m ≤ ((wd % 1000 : Nat) : Int) := by omega
  obtain ⟨r1, hr1⟩ : ∃ r, wd % 1000 = r := ⟨_, rfl⟩
  obtain ⟨bt, hbt⟩ : ∃ r, gp % 40 = r := ⟨_, rfl⟩
  obtain ⟨dm, hdm⟩ : ∃ r, dp % 101 = r := ⟨_, rfl⟩
  have t1 : Int.tmod (wd : Int) 1000 = (r1 : Int) := by rw [← hr1]; rfl
  have t2 : Int.tmod (gp : Int) 40 = (bt : Int) := by rw [← hbt]; rfl
  have t3 : Int.tmod (dp : Int) 101 = (dm : Int) := by rw [← hdm]; rfl
  rw [hr1] at r1b hx hx2
  rw [hbt] at r2b
  rw [hdm] at r3b
  have hq : Int.tdiv (1000 * (ls : Int)) (1000 + (dm : Int)) = (((1000 * ls) / (1000 + dm) : Nat) : Int) := by
    rw [Int.tdiv_eq_ediv_of_nonneg (by omega)]; norm_cast
  obtain ⟨ms, hms⟩ : ∃ ms, (1000 * ls) / (1000 + dm) = ms := ⟨_, rfl⟩
  rw [hms] at hq
  have hmsb : ms ≤ 255 := by
    rw [← hms]
    exact Nat.le_trans (Nat.div_le_div_left (show 1000 ≤ 1000 + dm by omega) (by omega)) (by omega)
  obtain ⟨o1, ho1'⟩ : ∃ o, leastV b m = o := ⟨_, rfl⟩
  obtain ⟨o2, ho2'⟩ : ∃ o, mostV b m = o := ⟨_, rfl⟩
  rw [ho1', ho2'] at hoff
  rw [ho1'] at ho1 ho2
  rw [ho2'] at ho2 ho3 hx2 hx
  have hfitE : ∀ nf, fitR ⟨2000, (sl : Int), (ls : Int), (0, (dm : Int))⟩ ⟨1, (1000, 1000), (1 + (r1 : Int) - o2, 1 + (r1 : Int) - o1), (400, 400)⟩ ⟨2, (1000, 1000), (1 + (r1 : Int) + bt + o1, 1 + (r1 : Int) + bt + o2), (400, 400)⟩ = nf →
      fitE ⟨2000, (sl : Int), (ls : Int), (0, (dm : Int))⟩ ⟨1, (1000, 1000), (1 + (r1 : Int) - o2, 1 + (r1 : Int) - o1), (400, 400)⟩ ⟨2, (1000, 1000), (1 + (r1 : Int) + bt + o1, 1 + (r1 : Int) + bt + o2), (400, 400)⟩ = (nf, 0) := fun nf h => by
    have hp : playB ⟨2000, (sl : Int), (ls : Int), (0, (dm : Int))⟩ = true := by simp only [playB, withinB, Bool.and_eq_true, decide_eq_true_eq]; omega
    have ha : sideB ⟨1, (1000, 1000), (1 + (r1 : Int) - o2, 1 + (r1 : Int) - o1), (400, 400)⟩ = true := by simp [sideB, withinB]; omega
    have hb' : sideB ⟨2, (1000, 1000), (1 + (r1 : Int) + bt + o1, 1 + (r1 : Int) + bt + o2), (400, 400)⟩ = true := by simp [sideB, withinB]; omega
    unfold fitE
    rw [hp, ha, hb', h]
    rfl
  have hiff := fit_exact (slack := sl) (loose := ls) (dm := dm) (a := 0) (b := 0) (lo := bt + 2 * o1) (hi := bt + 2 * o2) (by omega) (by omega) (by omega) (t1 := 1 + (r1 : Int) - o2) (t2 := 1 + (r1 : Int) - o1) (u1 := 1 + (r1 : Int) + bt + o1) (u2 := 1 + (r1 : Int) + bt + o2) (by omega) (by omega) (by omega) (by omega)
  rw [most_iff (by omega) (by omega), hq] at hiff
  obtain ⟨nf, hnf⟩ : ∃ nf, fitR ⟨2000, (sl : Int), (ls : Int), (0, (dm : Int))⟩ ⟨1, (1000, 1000), (1 + (r1 : Int) - o2, 1 + (r1 : Int) - o1), (400, 400)⟩ ⟨2, (1000, 1000), (1 + (r1 : Int) + bt + o1, 1 + (r1 : Int) + bt + o2), (400, 400)⟩ = nf := ⟨_, rfl⟩
  have hfe := hfitE nf hnf
  rw [hnf] at hiff
  by_cases hwide : (ms : Int) < bt
  · have h2 : ¬ (bt : Int) + 2 * o2 ≤ ms := by omega
    have h3 : (nf == 2) = false := by simpa using fun h => h2 (hiff.1 h)
    exact law3_wide B ao cap d k m sl ls dp gp wd hsl hls hdp hgp hwd w hs hB hn hd hk0 hk1 hm0 hm1 o1 o2 hoff ho1 ho2 ho3 r1 bt dm t1 t2 t3 r1b r2b r3b hx2 ms hq hmsb nf hfe hwide h3 h2
  obtain ⟨bd, hbd⟩ : ∃ bd, (ms - bt) / 2 = bd := ⟨_, rfl⟩
  have hbdI : Int.tdiv ((ms : Int) - bt) 2 = (bd : Int) := by
    rw [Int.tdiv_eq_ediv_of_nonneg (by omega), ← hbd]; omega
  have hbdb : bd ≤ 255 := by omega
  have hbd2 : (bt : Int) + 2 * o2 ≤ ms ↔ o2 ≤ bd := by omega
  have hf2 : fromB 0 200000 (bd : Int) = true := by simp [fromB]; omega
  by_cases hnever : (bd : Int) < b.f.2
  · have hl : lastsE d k bd = ((0, 0), 4) := by simp [lastsE, hd, hhas, hf2, hb, hnever]
    have ho : b.f.2 ≤ o2 := by rw [← ho2']; unfold mostV; omega
    have h2 : ¬ (bt : Int) + 2 * o2 ≤ ms := by omega
    have h3 : (nf == 2) = false := by simpa using fun h => h2 (hiff.1 h)
    exact law3_never B ao cap d k m sl ls dp gp wd hsl hls hdp hgp hwd w hs hB hn hd hk0 hk1 hm0 hm1 o1 o2 hoff ho1 ho2 ho3 r1 bt dm t1 t2 t3 r1b r2b r3b hx2 ms hq hmsb nf hfe bd hbdI hbdb 0 0 4 rfl hl hwide h3 h2
  have hl : lastsE d k bd = ((lastR b.f.2 b.w.2 bd, lastR b.f.1 b.w.1 bd), 0) := by simp [lastsE, hd, hhas, hf2, hb, hnever]
  have hm : o2 ≤ bd ↔ m ≤ lastR b.f.2 b.w.2 bd := by
    rw [← ho2']
    exact lasts_iff (by omega) (by omega) hm0 hm1
  by_cases h2 : (bt : Int) + 2 * o2 ≤ ms
  · have h3 : nf = 2 := hiff.2 h2
    subst h3
    exact law3_fits B ao cap d k m sl ls dp gp wd hsl hls hdp hgp hwd w hs hB hn hd hk0 hk1 hm0 hm1 o1 o2 hoff ho1 ho2 ho3 r1 bt dm t1 t2 t3 r1b r2b r3b hx2 ms hq hmsb hfe bd hbdI hbdb _ _ 0 rfl hl hwide h2 (hm.1 (hbd2.1 h2))
  · have h3 : (nf == 2) = false := by simpa using fun h => h2 (hiff.1 h)
    exact law3_loose B ao cap d k m sl ls dp gp wd hsl hls hdp hgp hwd w hs hB hn hd hk0 hk1 hm0 hm1 o1 o2 hoff ho1 ho2 ho3 r1 bt dm t1 t2 t3 r1b r2b r3b hx2 ms hq hmsb nf hfe bd hbdI hbdb _ _ 0 rfl hl hwide h3 h2 (fun h => h2 (hbd2.2 (hm.2 h)))
end Go.Proofs.Ytnplhlcifagimaa

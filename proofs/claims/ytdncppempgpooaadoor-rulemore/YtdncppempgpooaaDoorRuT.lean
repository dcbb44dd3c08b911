/- Follow: the two ways that end at once; Proof. -/
import Derived.Test.YtdncppempgpooaaDoorRuS
set_option linter.unusedSimpArgs false
set_option linter.unusedVariables false
namespace Go.Proofs.YtdncppempgpooaaDoor
open Go.RowKit Go.Shelf

/-- What came in: a die, stints, below B. -/
structure InB (B : Nat) (w : World) (ao : Option Addr) (d : Dye) (lo : Option Addr) (l : List (Int × Int)) : Prop where
  bl : BladesAt B w ao d.bl
  st : StintsAt B w lo l
  le : B ≤ w.heap.size
  tab : Tab w
  one : 1 < B
theorem InB.mod {B : Nat} {w w' : World} {ao : Option Addr} {d : Dye} {lo : Option Addr} {l : List (Int × Int)} (h : InB B w ao d lo l) (hm : Mod noB w w') : InB B w' ao d lo l :=
  ⟨h.bl.low (Low.ofN hm h.le), h.st.low (Low.ofN hm h.le), Nat.le_trans h.le hm.size, h.tab.low h.one (Low.ofN hm h.le), h.one⟩

def Four (v : Int × Int × Int × Int) (w : World) (e : Ending) (w' : World) : Prop := e = .returned (.tuple #[.int .i64 v.1, .int .i64 v.2.1, .int .i64 v.2.2.1, .int .i64 v.2.2.2]) ∧ Mod noB w w'

theorem go_ret4 {fn : Func} {Q : Ending → World → Prop} {tmps : Array Value} {w : World} (hr : fn.results = #[.tmp 6, .tmp 7, .tmp 8, .tmp 9]) (h : Q (.returned (.tuple #[tmps.getD 6 undef, tmps.getD 7 undef, tmps.getD 8 undef, tmps.getD 9 undef])) w) : bodyPost Tryd.prog fn Q .ret { tmps := tmps, defers := [] } w :=
  bodyPost_ret (v := .tuple #[tmps.getD 6 undef, tmps.getD 7 undef, tmps.getD 8 undef, tmps.getD 9 undef]) (by simp [results, hr, go_sem]) rfl h

set_option maxRecDepth 100000 in
set_option maxHeartbeats 4000000 in
theorem follow_bad (B : Nat) (ao : Option Addr) (cap : Nat) (d : Dye) (lo : Option Addr) (lcap : Nat) (l : List (Int × Int)) (po : Option Addr) (pcap : Nat) (p : List Int) (w : World) (hI : InB B w ao d lo l) (hp : IntsAt w po p) (h : (dieB d && stintsB l) = false) :
    Calls Tryd.prog 18 #[dyV ao d.bl.length cap d, .slice lo l.length lcap, .slice po p.length pcap] w (Four (followE d l p) w) := by
  have HC := Hold.mk (mount_bad B ao cap d lo lcap l (w.alloc (.cells (dyC ao d.bl.length cap d) 24)) (by have := hI.le; simp; omega) (hI.mod ((Mod.refl _ _).alloc _)).bl (hI.mod ((Mod.refl _ _).alloc _)).st h)
  have hb : mountBad d l = 1 ∨ mountBad d l = 2 := by unfold mountBad; split <;> simp
  have he : Hold (followE d l p = (0, 0, 0, mountBad d l)) := ⟨by
    unfold followE mountBad
    cases h1 : dieB d with
    | false => simp
    | true => rw [h1, Bool.true_and] at h; simp [h]⟩
  have HM0 := Hold.mk ((Mod.refl noB w).alloc (.cells (dyC ao d.bl.length cap d) 24))
  generalize mountBad d l = m at *
  have hn : (m != 0) = true := by rcases hb with rfl | rfl <;> rfl
  have hsm := hI.st.small
  clear hI hp h hb
  go_enter Tryd.func18, Tryd.ntmps18
  go_wp2_with (go_at_call 47; refine HC.out.mono ?_; rintro e w1 ⟨rfl, hM⟩; have HM := Hold.mk hM; clear hM)
  refine go_ret4 rfl ⟨by rw [he.out]; rfl, (HM0.out.trans HM.out).alloc _⟩

set_option maxRecDepth 100000 in
set_option maxHeartbeats 4000000 in
theorem follow_none (B : Nat) (ao : Option Addr) (cap : Nat) (d : Dye) (lo : Option Addr) (lcap : Nat) (l : List (Int × Int)) (po : Option Addr) (pcap : Nat) (p : List Int) (w : World) (hI : InB B w ao d lo l) (hp : IntsAt w po p) (h1 : dieB d = true) (h2 : stintsB l = true) (h3 : planB d l p = false) :
    Calls Tryd.prog 18 #[dyV ao d.bl.length cap d, .slice lo l.length lcap, .slice po p.length pcap] w (Four (followE d l p) w) := by
  have hb := World.alloc_heap_new w (.cells (dyC ao d.bl.length cap d) 24)
  have HC := Hold.mk (mount_ok B ao cap d lo lcap l (w.alloc (.cells (dyC ao d.bl.length cap d) 24)) (by have := hI.le; simp; omega) (hI.mod ((Mod.refl _ _).alloc _)).bl (hI.mod ((Mod.refl _ _).alloc _)).st h1 h2)
  have hl7 : l.length ≤ 7 := by
    simp only [stintsB, Bool.and_eq_true, decide_eq_true_eq] at h2
    omega
  have HP : Hold (∀ W, Mod noB w W → Calls Tryd.prog 48 #[dyV ao d.bl.length cap d, .slice lo l.length lcap, .slice po p.length pcap] W fun r w' => r = .returned (.bool false) ∧ Mod noB W w') :=
    ⟨fun W h => by rw [← h3]; exact isPlan_any ao cap d lo l.length lcap l po pcap p W (dieB_parts h1).1.2 rfl (by omega) (hp.mod h)⟩
  have he : Hold (followE d l p = (0, 0, 0, 2)) := ⟨by simp [followE, h1, h2, h3]⟩
  have HM0 := Hold.mk ((Mod.refl noB w).alloc (.cells (dyC ao d.bl.length cap d) 24))
  have HB := Hold.mk hb
  clear hI hp h1 h2 h3 hb
  go_enter Tryd.func18, Tryd.ntmps18
  go_wp2_with (first
    | (go_at_call 47; refine HC.out.mono ?_; rintro e w1 ⟨oo, oc, rfl, hO, hM⟩; have hd := ((Mod.refl noB w1).alloc (.cells (mtC ao d.bl.length cap d oo oc zeroR) 87)).at (hM.at HB.out id) id; have c0 := cellsAt hd 0; have c1 := cellsAt hd 1; have c2 := cellsAt hd 2; have c3 := cellsAt hd 3; have HM := Hold.mk (HM0.out.trans (hM.trans ((Mod.refl noB w1).alloc (.cells (mtC ao d.bl.length cap d oo oc zeroR) 87)))); clear hM hO hd)
    | (go_at_call 48; refine (HP.out _ HM.out).mono ?_; rintro e w2 ⟨rfl, hM⟩; have HM2 := Hold.mk (HM.out.trans hM); clear hM))
  refine go_ret4 rfl ⟨by rw [he.out]; rfl, HM2.out⟩
end Go.Proofs.YtdncppempgpooaaDoor

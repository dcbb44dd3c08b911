/- catchesAll: a loop over a map. -/
import Derived.Test.YtknbcmildpmokaaSdA
import Derived.Maps.Range
set_option linter.unusedSimpArgs false
set_option linter.unusedVariables false
namespace Go.Proofs.Ytknbcmildpmokaa
open Go.RowKit Go.Shelf Go.Maps


/-- Is a set of tests passed by none of some lists? -/
def catchL (f : List Int → Nat) (L : List (List Int)) (set : Nat) : Bool := L.all fun x => !(set &&& f x == set)
/-- What is left, and what has been seen. -/
def Seen (n : Nat) (f : List Int → Nat) (L : List (List Int)) (set : Nat) (left : Lit → Bool) : Prop := ∀ x ∈ L, left (kx x) = false → (set &&& f x == set) = false
theorem same_kx {n : Nat} {x y : List Int} (hx : KeyOk n x) (hy : KeyOk n y) (h : (kx x).sameKey (kx y) = true) : x = y := kx_inj hx hy (WideAt.sameKey_eq h)
theorem Seen.step {n : Nat} {f : List Int → Nat} {L : List (List Int)} {D : DataW Unit} {set : Nat} {left : Lit → Bool} (h : Seen n f L set left) (hT : Told n f L D) {y : List Int} (hy : y ∈ L) (hc : (set &&& f y == set) = false) :
    Seen n f L set (fun z => left z && !z.sameKey (kx y)) := by
  intro x hx hl
  rw [Bool.and_eq_false_iff] at hl
  rcases hl with hl | hl
  · exact h x hx hl
  · have hs : (kx x).sameKey (kx y) = true := by simpa using hl
    rw [same_kx (hT.ok x hx) (hT.ok y hy) hs]; exact hc

set_option maxRecDepth 100000 in
set_option maxHeartbeats 4000000 in
theorem catchesAll_any (p n m : Nat) (f : List Int → Nat) (L : List (List Int)) (D : DataW Unit) (set : Nat) (w : World) (ho : MapOwn w p m D) (hT : Told n f L D) (hs : set < 256) (hf : ∀ x ∈ L, f x < 256) :
    Calls Try.prog 76 #[.map (some p), .int .i64 (set : Int)] w fun e w' => e = .returned (.bool (catchL f L set)) ∧ Mod noB w w' := by
  have HT := Hold.mk (And.intro hT (And.intro hs hf))
  have hpl : p < w.heap.size := ho.lt
  clear hT hs hf
  go_enter Try.func76, Try.ntmps76
  go_wp2_with (first | (at_range; refine wpList_range_own _ rfl (.tmp 7) 120 rfl 77 3 law77 Try.underlying120 (plainElem Try.prog 3) p m D rfl ho ?_; intro w0 hrg0 hg0 hs0) | go_in)
  go_frame
  clear ho
  go_loopw [] (fun wr => ∃ left cnt, wr.ranges Try.prog 77 (plainElem Try.prog 3) p w.heap.size m D left cnt ∧ Hold (Seen n f L set left) ∧ Hold (Mod noB w wr)) (fun wr => wr.rangeLeft p w.heap.size)
  case atStart => exact ⟨_, _, hrg0, ⟨fun x hx hl => by
    rw [has_true_of_atKey (fun z => HT.out.1.val x hx z)] at hl; cases hl⟩, ⟨Mod.of_grownBy hg0 (fun r hr _ => by cases hr)⟩⟩
  case round =>
    obtain ⟨left, cnt, hrg, HS, HM⟩ := hrel
    go_wp2_with (first
      | (at_next; refine wpList_next_ranges (α := Value) (β := Int) _ rfl (.tmp 8) rfl 77 law77 (plainElem Try.prog 3) (fun v => v) (Value.int .i64) (fun key kl h => ⟨key, rfl⟩) (fun v y h => by obtain ⟨c, rfl, _⟩ := plainElem_int_inv Try.underlying3 h; exact ⟨c, rfl⟩) p w.heap.size m D left cnt rfl hrg ?_ ?_)
      | go_in)
    · intro hc0 hl0
      have hall : Hold (catchL f L set = true) := ⟨by
        rw [catchL, List.all_eq_true]
        intro x hx
        rw [HS.out x hx (hl0 _)]; rfl⟩
      clear hrg
      go_wp2
      go_ret
      exact ⟨by rw [hall.out]; rfl, HM.out⟩
    · intro x c kl y yb w1 cnt1 hk hlk hv hat hrg1 hlt hg1 hs1 hen
      obtain ⟨a, ha, hy, _⟩ := plainElem_int_inv Try.underlying3 hv
      cases ha
      obtain ⟨hy1, _⟩ := Prod.mk.inj hy
      subst hy1
      clear hy
      obtain ⟨z, hz, hzk, hd⟩ := HT.out.1.came hat
      simp only [DataW.lit.injEq, Lit.int.injEq, true_and] at hd
      subst hd hzk
      have hm1 : Mod noB w w1 := HM.out.then (Mod.of_grownBy (T := fun k => k = w.heap.size) hg1 (fun r hr _ => by cases hr; rfl)) (fun i hi hk => by omega)
      have hst := bit_andNot HT.out.2.1 (HT.out.2.2 z hz)
      have HH := Hold.mk (And.intro hz hm1)
      have HRG := Hold.mk (And.intro hrg (And.intro hrg1 hlt))
      clear hrg hrg1 hat hk hlk hv hg1 hs1 hm1 hz
      cases hb : (set &&& f z == set) with
      | true =>
        rw [hb] at hst
        have hall : Hold (catchL f L set = false) := ⟨by
          rw [catchL, List.all_eq_false]
          exact ⟨z, HH.out.1, by rw [hb]; simp⟩⟩
        clear hb
        go_wp2
        go_ret
        exact ⟨by rw [hall.out]; rfl, HH.out.2⟩
      | false =>
        rw [hb] at hst
        have HS2 := Hold.mk (HS.out.step HT.out.1 HH.out.1 hb)
        clear hb
        go_wp2
        go_roundw
        case rel => exact ⟨_, _, HRG.out.2.1, HS2, ⟨HH.out.2⟩⟩
        case measure => rw [HRG.out.2.1.left_eq, HRG.out.1.left_eq]; exact HRG.out.2.2

end Go.Proofs.Ytknbcmildpmokaa

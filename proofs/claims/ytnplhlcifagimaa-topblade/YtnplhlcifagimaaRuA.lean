/- Dies, stints and plans, as the document speaks of them: plain mathematics. -/
namespace Go.Proofs.Ytnplhlcifagimaa

/-- A blade: how far it is off when it is freshly bent, and its wear. A die. -/
structure Bld where
  f : Int × Int
  w : Int × Int
deriving DecidableEq
structure Dye where
  bl : List Bld
  bound : Int
  stop : Int
  bend : Int

def fromB (lo hi n : Int) : Bool := decide (lo ≤ n) && decide (n ≤ hi)
def awayB (s : Int × Int) : Bool := decide (0 ≤ s.1) && decide (s.1 ≤ s.2) && decide (s.2 ≤ 10000)
def bladeB (b : Bld) : Bool := awayB b.f && awayB b.w
def dieB (d : Dye) : Bool := fromB 1 5 d.bl.length && d.bl.all bladeB && fromB 0 100000 d.bound && fromB 0 10000 d.stop && fromB 0 10000 d.bend
def stintB (s : Int × Int) : Bool := fromB 1 1000 s.1 && fromB 0 100000 s.2
def stintsB (l : List (Int × Int)) : Bool := decide ((l.length : Int) ≤ 7) && l.all stintB

/-- By how much a blade is off at least, and at most. -/
def leastV (b : Bld) (n : Int) : Int := b.f.1 + n * b.w.1
def mostV (b : Bld) (n : Int) : Int := b.f.2 + n * b.w.2
def bladeAt (d : Dye) (k : Nat) : Bld := (d.bl[k]?).getD ⟨(0, 0), (0, 0)⟩

def hasB (d : Dye) (k : Int) : Bool := fromB 0 (d.bl.length - 1) k
def offE (d : Dye) (k n : Int) : (Int × Int) × Int :=
  if dieB d = false then ((0, 0), 1) else if (hasB d k && fromB 0 7000 n) = false then ((0, 0), 2) else ((leastV (bladeAt d k.toNat) n, mostV (bladeAt d k.toNat) n), 0)
/-- Up to how many thousands of strokes what is off by a, and wears c, is within a bound (that it is at first). -/
def lastR (a c bound : Int) : Int := if c = 0 then 7000 else min 7000 ((bound - a) / c)
def lastsE (d : Dye) (k n : Int) : (Int × Int) × Int :=
  if dieB d = false then ((0, 0), 1) else if (hasB d k && fromB 0 200000 n) = false then ((0, 0), 2) else
  if n < (bladeAt d k.toNat).f.2 then ((0, 0), 4) else
  ((lastR (bladeAt d k.toNat).f.2 (bladeAt d k.toNat).w.2 n, lastR (bladeAt d k.toNat).f.1 (bladeAt d k.toNat).w.1 n), 0)

theorem lastR_of {a c bound n : Int} (hc : 0 ≤ c) (h0 : 0 ≤ n) (h7 : n ≤ 7000) (h1 : a + n * c ≤ bound) (h2 : n = 7000 ∨ bound < a + (n + 1) * c) : n = lastR a c bound := by
  unfold lastR
  by_cases h : c = 0
  · subst h
    rw [if_pos rfl]
    omega
  · rw [if_neg h]
    have hcp : 0 < c := by omega
    have hle : n ≤ (bound - a) / c := (Int.le_ediv_iff_mul_le hcp).2 (by omega)
    rcases h2 with h2 | h2
    · omega
    · have hlt : (bound - a) / c < n + 1 := Int.ediv_lt_of_lt_mul hcp (by omega)
      omega
theorem lastR_is {a c bound : Int} (hc : 0 ≤ c) (ha : a ≤ bound) : 0 ≤ lastR a c bound ∧ lastR a c bound ≤ 7000 ∧ a + lastR a c bound * c ≤ bound ∧ (lastR a c bound = 7000 ∨ bound < a + (lastR a c bound + 1) * c) := by
  unfold lastR
  by_cases h : c = 0
  · subst h
    simp; omega
  · rw [if_neg h]
    have hcp : 0 < c := by omega
    have h0 : 0 ≤ (bound - a) / c := Int.ediv_nonneg (by omega) hc
    have h1 : (bound - a) / c * c ≤ bound - a := Int.ediv_mul_le _ h
    have h2 : bound - a < ((bound - a) / c + 1) * c := Int.lt_ediv_add_one_mul_self _ hcp
    refine ⟨by omega, by omega, ?_, ?_⟩
    · rcases Int.le_total 7000 ((bound - a) / c) with h3 | h3
      · rw [Int.min_eq_left h3]
        have := Int.mul_le_mul_of_nonneg_right h3 hc
        omega
      · rw [Int.min_eq_right h3]
        omega
    · rcases Int.le_total 7000 ((bound - a) / c) with h3 | h3
      · exact .inl (Int.min_eq_left h3)
      · rw [Int.min_eq_right h3]
        exact .inr (by omega)

/-! ### plans -/
/-- Can a blade that has run so far be off by too much in a stint that comes now? -/
def failsB (d : Dye) (r : Nat → Int) (k : Nat) (s : Int × Int) : Bool := decide (d.bound + s.2 < mostV (bladeAt d k) (r k + s.1))
def failing (d : Dye) (r : Nat → Int) (s : Int × Int) : Option Nat := (List.range d.bl.length).find? (fun k => failsB d r k s)
def bentR (r : Nat → Int) (set : Nat) : Nat → Int := fun k => if set.testBit k then 0 else r k
def runR (d : Dye) (r : Nat → Int) (s : Int × Int) : Nat → Int := fun k => if k < d.bl.length then r k + s.1 else r k
def zeroR : Nat → Int := fun _ => 0
def bitsL (set : Nat) : List Nat := (List.range 5).filter set.testBit
def priceR (d : Dye) (set : Nat) : Int := if set = 0 then 0 else d.stop + (bitsL set).length * d.bend
def allS (d : Dye) : Nat := 2 ^ d.bl.length - 1
def bearsB (d : Dye) (l : List (Int × Int)) : Bool := l.all fun s => (failing d zeroR s).isNone

/-- What is followed from a stint on: sets is what is bent before each of them. -/
def goR (d : Dye) : Nat → (Nat → Int) → Int → List (Int × Int) → List Nat → Int × Int × Int × Int
  | i, _, c, [], _ => (c, i, 0, 0)
  | i, r, c, s :: ss, p => match failing d (bentR r (p.headD 0)) s with
    | some b => (0, i, b, 11)
    | none => goR d (i + 1) (runR d (bentR r (p.headD 0)) s) (c + priceR d ((p.drop 1).headD 0)) ss (p.drop 1)

/-- The rows of the proof, from a stint on. -/
def rowsR (d : Dye) : Nat → Nat → (Nat → Int) → List (Int × Int) → List ((Nat × Nat) × Nat)
  | _, _, _, [] => []
  | fr, i, r, s :: ss => match failing d r s with
    | some b => ((fr, i), b) :: rowsR d i (i + 1) (runR d (bentR r (allS d)) s) ss
    | none => rowsR d fr (i + 1) (runR d r s) ss

/-- The course of least cost, of several the first one. -/
def leastR : List (Int × List Nat) → Int × List Nat
  | [] => (0, [])
  | c :: cs => cs.foldl (fun a x => if x.1 < a.1 then x else a) c
/-- What can be bent before a stint, and what that brings. -/
def tryR (d : Dye) (next : (Nat → Int) → Int × List Nat) (s : Int × Int) (r : Nat → Int) (set : Nat) : Option (Int × List Nat) :=
  if (failing d (bentR r set) s).isSome then none else some (priceR d set + (next (runR d (bentR r set) s)).1, set :: (next (runR d (bentR r set) s)).2)
def bestR (d : Dye) : List (Int × Int) → (Nat → Int) → Int × List Nat
  | [], _ => (0, [])
  | s :: ss, r => leastR ((List.range (2 ^ d.bl.length)).filterMap (tryR d (bestR d ss) s r))

def planB (d : Dye) (l : List (Int × Int)) (p : List Int) : Bool := decide ((p.length : Int) = max 0 (l.length - 1)) && p.all fun x => fromB 0 (allS d) x
def natsOf (p : List Int) : List Nat := p.map Int.toNat
def followE (d : Dye) (l : List (Int × Int)) (p : List Int) : Int × Int × Int × Int :=
  if dieB d = false then (0, 0, 0, 1) else if stintsB l = false then (0, 0, 0, 2) else if planB d l p = false then (0, 0, 0, 2) else goR d 0 zeroR 0 l (0 :: natsOf p)
def planE (d : Dye) (l : List (Int × Int)) : List Int × Int × Int :=
  if dieB d = false then ([], 0, 1) else if stintsB l = false then ([], 0, 2) else if bearsB d l = false then ([], 0, 4) else
  match l with
  | [] => ([], 0, 0)
  | s :: ss => ((bestR d ss (runR d zeroR s)).2.map Int.ofNat, (bestR d ss (runR d zeroR s)).1, 0)
def proofE (d : Dye) (l : List (Int × Int)) : List (Int × Int) × List Int × Int :=
  if dieB d = false then ([], [], 1) else if stintsB l = false then ([], [], 2) else if bearsB d l = false then ([], [], 4) else
  ((rowsR d 0 0 zeroR l).map fun x => (Int.ofNat x.1.1, Int.ofNat x.1.2), (rowsR d 0 0 zeroR l).map fun x => Int.ofNat x.2, 0)

/-! ### the document's example -/
def dyeX : Dye := ⟨[⟨(0, 5), (2, 3)⟩, ⟨(2, 4), (0, 1)⟩], 40, 10, 3⟩
def stintsX : List (Int × Int) := [(8, 0), (6, 0), (9, 5), (10, 0)]
theorem exOff : offE dyeX 0 10 = ((20, 35), 0) := by decide +kernel
theorem exLasts : lastsE dyeX 1 40 = ((36, 7000), 0) := by decide +kernel
theorem exFollow : followE dyeX stintsX [1, 1, 1] = (39, 4, 0, 0) := by decide +kernel
theorem exFollow2 : followE dyeX stintsX [1, 0, 1] = (0, 2, 0, 11) := by decide +kernel
theorem exPlan : planE dyeX stintsX = ([1, 1, 1], 39, 0) := by decide +kernel
theorem exProof : proofE dyeX stintsX = ([(0, 1), (1, 2), (2, 3)], [0, 0, 0], 0) := by decide +kernel
end Go.Proofs.Ytnplhlcifagimaa

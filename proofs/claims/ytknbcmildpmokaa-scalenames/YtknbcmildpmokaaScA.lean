/- Boxes, tests and readings: what the document says of them, in plain words. -/
namespace Go.Proofs.Ytknbcmildpmokaa

structure Knd where
  many : Int
  w : Int × Int
deriving DecidableEq
structure Bx where
  ks : List Knd
  bag : Int × Int
  lost : Int
  extra : Int
deriving DecidableEq
structure Tst where
  how : Int
  kinds : Int
  err : Int × Int
  pass : Int × Int
  cost : Int
deriving DecidableEq
structure Rdg where
  t : Tst
  got : Int
deriving DecidableEq

def fromB (lo hi n : Int) : Bool := decide (lo ≤ n) && decide (n ≤ hi)
def withinB (lo hi : Int) (s : Int × Int) : Bool := decide (lo ≤ s.1) && (decide (s.1 ≤ s.2) && decide (s.2 ≤ hi))
def kindB (k : Knd) : Bool := fromB 0 2000 k.many && withinB 0 100000 k.w
def boxB (b : Bx) : Bool := fromB 1 4 b.ks.length && (b.ks.all kindB && (withinB 0 100000 b.bag && (fromB 0 4 b.lost && fromB 0 3 b.extra)))
def howB (n : Nat) (t : Tst) : Bool := t.how == 0 || (t.how == 1 && fromB 0 (2 ^ n - 1) t.kinds)
def testB (n : Nat) (t : Tst) : Bool := howB n t && (withinB (-1000000) 1000000 t.err && (decide (t.pass.1 ≤ t.pass.2) && fromB 0 10000 t.cost))
/-- The error of a box, readings and tests. -/
def checkE (b : Bx) (l : List Rdg) (ts : List Tst) : Int :=
  if boxB b then (if l.length ≤ 16 ∧ ts.length ≤ 8 then (if l.all (fun r => testB b.ks.length r.t) && ts.all (testB b.ks.length) then 0 else 1) else 3) else 1

/-- What a kind adds to what is weighed, or counted. -/
def partW (k : Knd) (n : Int) : Int × Int := (k.w.1 * (k.many + n), k.w.2 * (k.many + n))
def inB (set : Int) (i : Nat) : Bool := (set / 2 ^ i) % 2 == 1
def partsW (ks : List Knd) (ns : List Int) : List (Int × Int) := (ks.zip ns).map fun p => partW p.1 p.2
def partsC (set : Int) (ks : List Knd) (ns : List Int) : List (Int × Int) := (ks.zip ns).zipIdx.flatMap fun p => if inB set p.2 then [(p.1.1.many + p.1.2, p.1.1.many + p.1.2)] else []
def plusP (a b : Int × Int) : Int × Int := (a.1 + b.1, a.2 + b.2)
def sumP (a : Int × Int) (l : List (Int × Int)) : Int × Int := l.foldl plusP a
/-- What a test can read of a list. -/
def readM (b : Bx) (has : List Int) (t : Tst) : Int × Int :=
  if t.how == 1 then sumP t.err (partsC t.kinds b.ks has) else sumP (plusP t.err b.bag) (partsW b.ks has)
def meetsB (s t : Int × Int) : Bool := decide (s.1 ≤ t.2) && decide (t.1 ≤ s.2)

/-- The sums of what is lost, and too many. -/
def lostS (has : List Int) : Int := (has.map fun n => - min n 0).sum
def extraS (has : List Int) : Int := (has.map fun n => max n 0).sum
/-- Does each number lie between that of all and what can be too many? -/
def fitK (extra : Int) (ks : List Knd) (ns : List Int) : Bool := (ks.zip ns).all fun p => fromB (-p.1.many) extra p.2
def canB (b : Bx) (has : List Int) : Bool := decide (has.length = b.ks.length) && (fitK b.extra b.ks has && (decide (lostS has ≤ b.lost) && decide (extraS has ≤ b.extra)))

def readsE (b : Bx) (has : List Int) (t : Tst) : (Int × Int) × Int :=
  if boxB b && testB b.ks.length t then (if canB b has then (readM b has t, 0) else ((0, 0), 2)) else ((0, 0), 1)

/-- The integers from one to another one. -/
def ints (lo hi : Int) : List Int := (List.range (hi + 1 - lo).toNat).map fun (i : Nat) => lo + (i : Int)
/-- All lists that go on, with so many that can be lost, and be too many. -/
def fillL : List Knd → Int → Int → List (List Int)
  | [], _, _ => [[]]
  | k :: ks, l, e => (ints (-(min l k.many)) e).flatMap fun n => (fillL ks (l + min n 0) (e - max n 0)).map (n :: ·)
def allL (b : Bx) : List (List Int) := fillL b.ks b.lost b.extra
def wholeB (has : List Int) : Bool := has.all fun n => decide (0 ≤ n)
def fitsB (b : Bx) (l : List Rdg) (has : List Int) : Bool := l.all fun r => meetsB (readM b has r.t) (r.got, r.got)
def passB (b : Bx) (t : Tst) (has : List Int) : Bool := meetsB (readM b has t) t.pass
def completeL (b : Bx) (l : List Rdg) : List (List Int) := (allL b).filter fun has => fitsB b l has && wholeB has
def othersL (b : Bx) (l : List Rdg) : List (List Int) := (allL b).filter fun has => fitsB b l has && !wholeB has
def judgeE (b : Bx) (l : List Rdg) : Int × Int :=
  if checkE b l [] = 0 then
    (if (completeL b l).length + (othersL b l).length = 0 then (0, 6) else if (othersL b l).length = 0 then (2, 0) else if (completeL b l).length = 0 then (0, 0) else (1, 0))
  else (0, checkE b l [])

/-- The span of the numbers of a kind. -/
def widen (s : Int × Int) (n : Int) : Int × Int := (min s.1 n, max s.2 n)
def spanK (l : List (List Int)) (k : Nat) : Int × Int := l.foldl (fun s has => widen s (has.getD k 0)) (((l.headD []).getD k 0), ((l.headD []).getD k 0))
def leftE (b : Bx) (l : List Rdg) : List (Int × Int) × Int :=
  if checkE b l [] = 0 then
    (if (completeL b l ++ othersL b l).length = 0 then ([], 6) else ((List.range b.ks.length).map (spanK (completeL b l ++ othersL b l)), 0))
  else ([], checkE b l [])

def slipB (b : Bx) (ts : List Tst) (has : List Int) : Bool := !wholeB has && ts.all fun t => passB b t has
def slipsE (b : Bx) (ts : List Tst) : List Int × Int :=
  if checkE b [] ts = 0 then (match (allL b).find? (slipB b ts) with | some has => (has, 0) | none => ([], 4)) else ([], checkE b [] ts)

/-- The set of the tests that a list could pass. -/
def passSet (b : Bx) (has : List Int) : Nat → List Tst → Nat
  | _, [] => 0
  | i, t :: ts => (if passB b t has then 2 ^ i else 0) + passSet b has (i + 1) ts
/-- What a set of tests costs. -/
def costS (set : Nat) : Nat → List Tst → Int
  | _, [] => 0
  | i, t :: ts => (if set.testBit i then t.cost else 0) + costS set (i + 1) ts
/-- Is some test of a set passed by no list that is not complete? -/
def catchB (b : Bx) (ts : List Tst) (set : Nat) : Bool := ((allL b).filter fun has => !wholeB has).all fun has => !(set &&& passSet b has 0 ts == set)
/-- The first one of those that cost least. -/
def cheapest : List (Int × Int) → Option (Int × Int)
  | [] => none
  | o :: l => some (l.foldl (fun best x => if x.2 < best.2 then x else best) o)
def setsL (b : Bx) (ts : List Tst) : List (Int × Int) := ((List.range (2 ^ ts.length)).filter (catchB b ts)).map fun (s : Nat) => ((s : Int), costS s 0 ts)
def enoughE (b : Bx) (ts : List Tst) : Int × Int × Int :=
  if checkE b [] ts = 0 then (match cheapest (setsL b ts) with | some o => (o.1, o.2, 0) | none => (0, 0, 4)) else (0, 0, checkE b [] ts)

def apartB (b : Bx) (t : Tst) (some others : List (List Int)) : Bool := others.all fun has => some.all fun r => !meetsB (readM b has t) (readM b r t)
def offersL (b : Bx) (c o : List (List Int)) : Nat → List Tst → List (Int × Int)
  | _, [] => []
  | i, t :: ts => (if apartB b t c o then [((i : Int), t.cost)] else []) ++ offersL b c o (i + 1) ts
def nextE (b : Bx) (l : List Rdg) (ts : List Tst) : Int × Int :=
  if checkE b l ts = 0 then
    (if (completeL b l).length = 0 ∨ (othersL b l).length = 0 then (0, 6) else match cheapest (offersL b (completeL b l) (othersL b l) 0 ts) with | some o => (o.1, 0) | none => (0, 4))
  else (0, checkE b l ts)

/-! ### The document's examples -/
def exBox : Bx := ⟨[⟨90, (1000, 1001)⟩, ⟨10, (2000, 2000)⟩], (500, 600), 1, 1⟩
def exCam : Tst := ⟨1, 3, (-2, 0), (98, 100), 1⟩
def exRough : Tst := ⟨0, 0, (-1000, 1000), (109500, 111690), 2⟩
def exFine : Tst := ⟨0, 0, (-50, 50), (110450, 110740), 10⟩
theorem ex_reads : readsE exBox [-1, 0] exFine = ((109450, 109739), 0) := by decide +kernel
theorem ex_judge : judgeE exBox [⟨exCam, 98⟩] = (1, 0) := by decide +kernel
theorem ex_left : leftE exBox [⟨exCam, 98⟩] = ([(-1, 1), (-1, 1)], 0) := by decide +kernel
theorem ex_slips : slipsE exBox [exCam, exRough] = ([-1, 0], 0) := by decide +kernel
theorem ex_enough : enoughE exBox [exCam, exRough, exFine] = (4, 10, 0) := by decide +kernel
theorem ex_next : nextE exBox [⟨exCam, 98⟩] [exCam, exRough, exFine] = (2, 0) := by decide +kernel
theorem ex_reads0 : readsE exBox [0, 0] exFine = ((110450, 110740), 0) := by decide +kernel
theorem ex_reads1 : readsE exBox [-1, 0] exCam = ((97, 99), 0) := by decide +kernel
theorem ex_judge2 : judgeE exBox [⟨exCam, 98⟩, ⟨exFine, 110600⟩] = (2, 0) := by decide +kernel
theorem ex_judge3 : judgeE exBox [⟨exCam, 98⟩, ⟨exFine, 109500⟩] = (0, 0) := by decide +kernel
theorem ex_left2 : leftE exBox [⟨exCam, 100⟩] = ([(-1, 1), (-1, 1)], 0) := by decide +kernel
theorem ex_slips2 : slipsE exBox [exCam] = ([-1, 0], 0) := by decide +kernel
theorem ex_slips3 : slipsE exBox [exFine] = ([], 4) := by decide +kernel
end Go.Proofs.Ytknbcmildpmokaa

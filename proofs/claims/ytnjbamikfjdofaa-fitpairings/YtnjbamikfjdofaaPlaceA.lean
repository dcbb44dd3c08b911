/- place: what lies where; three laws of the map of what is taken, inside a fence. -/
import Derived.Test.YtnjbamikfjdofaaClone
import Derived.Test.YtnjbamikfjdofaaTaken
import Derived.Maps.OwnIn
import Derived.Stop.RegionWithIn
set_option linter.unusedSimpArgs false
set_option linter.unusedVariables false
namespace Go.Proofs.Ytnjbamikfjdofaa
open Go.RowKit Go.Shelf

section
variable {F : Fence} {n : Nat} {w : World} {ops : Array Oper} {rest : List Oper} {o : Oper} {a : Act} {Q : Exit → Act → World → Prop}
theorem wpListIn_take (hg : o.guard = none) (m x v : Operand) (hop : o.op = Op.mapUpdate 123 m x v) (b : Nat) (L : List Int) (z : Int) (hm : a.eval m = .map (some b)) (hx : a.eval x = .int .i64 z) (hv : a.eval v = .bool true)
    (ht : TakenIs w b L) (h1 : -1000000 ≤ z) (h2 : z ≤ 1000000) (hz : z ∉ L) (hK : ∀ ob, TakenIs (w.putObj b ob) b (L ++ [z]) → wpListIn F n Try.prog ops Q rest (a.put o.dst undef) (w.putObj b ob)) :
    wpListIn F n Try.prog ops Q (o :: rest) a w := by
  obtain ⟨ob, hrun, ht'⟩ := ht.take h1 h2 hz
  refine wpListIn_plain hg fun K' hK' => ?_
  unfold Oper.wpIn
  refine ⟨by simp [Oper.about, hop], ?_⟩
  rw [Oper.semAt_plain F _ _ (by rw [hop]; intro c hc'; cases hc')]
  simp [execOp, hop, hm, hx, hv, hrun, Result.andThen]
  exact hK' _ _ (hK ob ht')
theorem wpListIn_give (hg : o.guard = none) (m x : Operand) (hop : o.op = Op.call { callee := Callee.builtin Builtin.delete, args := #[m, x], argTypes := #[123, 3] }) (b : Nat) (L : List Int) (z : Int) (hm : a.eval m = .map (some b)) (hx : a.eval x = .int .i64 z)
    (ht : TakenIs w b (L ++ [z])) (hz : z ∉ L) (hK : ∀ ob, TakenIs (w.putObj b ob) b L → wpListIn F n Try.prog ops Q rest (a.put o.dst (.tuple #[])) (w.putObj b ob)) :
    wpListIn F n Try.prog ops Q (o :: rest) a w := by
  obtain ⟨ob, hrun, ht'⟩ := ht.give hz o.type
  refine wpListIn_plain hg fun K' hK' => ?_
  unfold Oper.wpIn
  refine ⟨by simp [Oper.about, hop, resolve, Target.leads, Sem.run_pure], ?_⟩
  rw [Oper.semAt_plain F _ _ (by rw [hop]; intro c hc'; cases hc')]
  simp [execOp, hop, resolve, invoke, builtin, hm, hx, hrun, Result.andThen]
  exact hK' _ _ (hK ob ht')
end

/-- The pairings that go on from one, of m tabs more. -/
def pairsL (goes : List (List Int)) : Nat → List Int → List (List Int)
  | 0, pre => [pre]
  | m + 1, pre => (goes[pre.length]?.getD []).flatMap fun h => if h ∈ pre then [] else pairsL goes m (pre ++ [h])
def pairsTo (goes : List (List Int)) (m : Nat) (pre : List Int) (k : Nat) : List (List Int) := ((goes[pre.length]?.getD []).take k).flatMap fun h => if h ∈ pre then [] else pairsL goes m (pre ++ [h])
theorem pairsTo_zero (goes : List (List Int)) (m : Nat) (pre : List Int) : pairsTo goes m pre 0 = [] := by simp [pairsTo]
theorem pairsTo_all (goes : List (List Int)) (m : Nat) (pre : List Int) : pairsTo goes m pre (goes[pre.length]?.getD []).length = pairsL goes (m + 1) pre := by simp [pairsTo, pairsL]
theorem pairsTo_succ {goes : List (List Int)} {m : Nat} {pre : List Int} {k : Nat} {h : Int} (hk : (goes[pre.length]?.getD [])[k]? = some h) :
    pairsTo goes m pre (k + 1) = pairsTo goes m pre k ++ (if h ∈ pre then [] else pairsL goes m (pre ++ [h])) := by
  unfold pairsTo
  rw [List.take_add_one, hk, List.flatMap_append]
  simp

/-- The blocks that place captured. -/
structure PBlocks where
  bl : Nat
  bt : Nat
  yb : Nat
  bg : Nat
  bm : Nat
  bp : Nat
  mb : Nat
  gb : Nat
  /-- The loop that the pairings are handed over to. -/
  l : Nat
  to : Option Addr
  capt : Nat
  ao : Nat → Option Addr
  cap : Nat → Nat
  /-- From here on rows lie that came later. -/
  B : Nat
@[reducible] def PBlocks.lb (b : PBlocks) : Array Value := #[.pointer (some ⟨b.bl, 0, none⟩), .pointer (some ⟨b.bt, 0, none⟩), .pointer (some ⟨b.yb, 0, none⟩), .pointer (some ⟨b.bg, 0, none⟩), .pointer (some ⟨b.bm, 0, none⟩), .pointer (some ⟨b.bp, 0, none⟩)]

/-- What does not turn while the pairings come. -/
structure PC (b : PBlocks) (n : Nat) (goes : List (List Int)) (W : World) : Prop where
  t : W.cell? ⟨b.bt, 0, none⟩ = some (.slice b.to n b.capt)
  y : W.cell? ⟨b.yb, 0, none⟩ = some (.func (.yield b.l) #[] #[])
  g : W.cell? ⟨b.bg, 0, none⟩ = some (.slice (some ⟨b.gb, 0, none⟩) n n)
  r : ∀ k L, goes[k]? = some L → W.cell? ⟨b.gb, k, none⟩ = some (.slice (b.ao k) L.length (b.cap k)) ∧ IntsAt W (b.ao k) L
  m : W.cell? ⟨b.bm, 0, none⟩ = some (.map (some b.mb))
  p : W.cell? ⟨b.bp, 0, none⟩ = some (.func (.func 87) #[] b.lb)

/-- What lies where between two steps: the list so far in v. -/
structure PS (b : PBlocks) (n : Nat) (goes : List (List Int)) (KC : Nat → Prop) (pre : List Int) (v : Value) (W : World) : Prop where
  l : W.heap[b.bl]? = some (.cells #[v] 43)
  own : OwnV b.B W (pre, v)
  tk : TakenIs W b.mb pre
  pc : PC b n goes W
  sz : b.B ≤ W.heap.size

/-- What has been handed over lies apart from all that turns. -/
def DoneOK (b : PBlocks) (done : List Held) (v : Value) (W : World) : Prop := ∀ p ∈ done, ∀ r, p.2.ownBlock = some r → b.B ≤ r ∧ r < W.heap.size ∧ v.ownBlock ≠ some r

/-- What the blocks are to be like. -/
structure PGood (b : PBlocks) (n : Nat) (goes : List (List Int)) (KC : Nat → Prop) : Prop where
  bl : b.bl < b.B
  mb : b.mb < b.B
  ne : b.bl ≠ b.mb
  kl : ¬ KC b.bl
  km : ¬ KC b.mb
  kb : ∀ k, KC k → k < b.B
  keep : ∀ W W', PC b n goes W → KeepB KC W W' → W.heap.size ≤ W'.heap.size → PC b n goes W'
  len : goes.length = n
  small : ∀ L ∈ goes, L.length ≤ 1000 ∧ ∀ x ∈ L, -1000000 ≤ x ∧ x ≤ 1000000
  n8 : n ≤ 100
end Go.Proofs.Ytnjbamikfjdofaa

/- Several texts in one (a claim holds at most 60 files): each has its own words ahead of it. -/
import Derived.Test.YtogalmkeipigeaaRefI
import Derived.Test.YtogalmkeipigeaaMnV
import Derived.Deep.DeepCutAuto
import Derived.Deep.CutRange
import Derived.Deep.CutBlock
set_option linter.unusedSimpArgs false
set_option linter.unusedVariables false

/- CutInside: what lies within what. -/
namespace Go.Proofs.Ytogalmkeipigeaa
open Go Go.RowKit Go.Shelf

theorem insideTo_mem {R : Nat → Bool} {p x : Int} : ∀ {k : Nat}, x ∈ insideTo R p k ↔ ∃ i : Nat, i < k ∧ x = (i : Int) ∧ (i : Int) ≠ p ∧ R i = false := by
  intro k
  induction k with
  | zero => simp [insideTo]
  | succ k ih =>
    simp only [insideTo, List.mem_append, ih]
    constructor
    · rintro (⟨i, h1, h2⟩ | h)
      · exact ⟨i, by omega, h2⟩
      · split at h
        · rename_i hc
          exact ⟨k, by omega, by simpa using h, hc⟩
        · cases h
    · rintro ⟨i, h1, h2, h3, h4⟩
      by_cases e : i = k
      · subst e
        right; rw [if_pos ⟨h3, h4⟩]; simpa using h2
      · exact .inl ⟨i, by omega, h2, h3, h4⟩
theorem insideTo_asc {R : Nat → Bool} {p : Int} : ∀ k : Nat, (insideTo R p k).Pairwise (· < ·) := by
  intro k
  induction k with
  | zero => exact List.Pairwise.nil
  | succ k ih =>
    simp only [insideTo, List.pairwise_append]
    refine ⟨ih, by split <;> simp, fun a ha b hb => ?_⟩
    obtain ⟨i, h1, h2, _⟩ := insideTo_mem.1 ha
    split at hb
    · have : b = (k : Int) := by simpa using hb
      omega
    · cases hb

section
variable {g : Int × Int → Option Int} {W H : Nat} {wo : Int} {N : Nat} {R R2 : Nat → Bool}
theorem faced_ne {n r : Int} (h : r ∈ facedL g W H n) : r ≠ n := fun e => by
  subst e
  exact absurd h (List.count_eq_zero.1 (faced_self g W H r))
/-- Two neighbours are both within, or both not. -/
theorem out_same (G : Grid g W H) (hN : N ≤ 40) (h : OutInv g W H wo N N [] R) {k q : Nat} (hk : k < N) (hq : q < N) (hf : (q : Int) ∈ facedL g W H k) (h1 : (k : Int) ≠ wo) (h2 : (q : Int) ≠ wo) : R k = R q := by
  cases e : R k with
  | true => exact (h.closed k (by omega) e _ hf q rfl h2).symm
  | false =>
    cases e2 : R q with
    | false => rfl
    | true => rw [h.closed q (by omega) e2 _ (faced_sym G hf (by omega)) k rfl h1] at e; cases e
theorem faced_mem {p q : Int × Int} {n r : Int} (hp : inPic W H p) (hn : atG g p = n) (hq : q ∈ besideL p) (hr : atG g q = r) (hne : r ≠ n) : r ∈ facedL g W H n := by
  unfold facedL
  rw [List.mem_flatMap]
  refine ⟨p, cellsL_all hp, ?_⟩
  unfold facedAt
  rw [if_pos hn, List.mem_filter, List.mem_map]
  exact ⟨⟨q, hq, hr⟩, by simpa using hne⟩
/-- A row, from its first cell on: what is not hidden is not within. -/
theorem row_out (G : Grid g W H) (hgN : ∀ p, atG g p < N) (hN : N ≤ 40) (h : OutInv g W H wo N N [] R) {y : Nat} (hy : y < H) : ∀ i : Nat, i < W → (∀ j : Nat, j ≤ i → atG g ((j : Int), (y : Int)) ≠ wo) → ∀ n : Nat, atG g ((i : Int), (y : Int)) = n → R n = true := by
  have hin : ∀ i : Nat, i < W → inPic W H ((i : Int), (y : Int)) := fun i hi => ⟨by show (0 : Int) ≤ i; omega, by show (i : Int) < W; omega, by show (0 : Int) ≤ y; omega, by show (y : Int) < H; omega⟩
  intro i
  induction i with
  | zero =>
    intro hi hw n hn
    have h0 := hw 0 (Nat.le_refl _)
    rw [hn] at h0
    have hnN := hgN (((0 : Nat) : Int), (y : Int))
    rw [hn] at hnN
    refine h.done n (by omega) h0 (faced_mem (hin 0 hi) hn (q := (((0 : Nat) : Int) - 1, (y : Int))) (by unfold besideL; simp) ?_ (by omega))
    exact G.at_out (fun hp => by have := hp.1; simp at this)
  | succ i ih =>
    intro hi hw n hn
    have hnN := hgN (((i + 1 : Nat) : Int), (y : Int))
    rw [hn] at hnN
    have hc := G.at_in (hin i (by omega))
    obtain ⟨m, hm⟩ : ∃ m : Nat, atG g ((i : Int), (y : Int)) = m := ⟨(atG g ((i : Int), (y : Int))).toNat, by omega⟩
    have hR := ih (by omega) (fun j hj => hw j (by omega)) m hm
    have hmN := hgN ((i : Int), (y : Int))
    rw [hm] at hmN
    by_cases e : n = m
    · rw [e]; exact hR
    · have hw1 := hw (i + 1) (Nat.le_refl _)
      rw [hn] at hw1
      exact h.closed m (by omega) hR n (faced_mem (hin i (by omega)) hm (q := (((i + 1 : Nat) : Int), (y : Int))) (by unfold besideL; simp) hn (by omega)) n rfl hw1
/-- Of two pieces that have cells one at least is not within the other one. -/
theorem out_one (G : Grid g W H) (hgN : ∀ p, atG g p < N) (hN : N ≤ 40) {p k : Nat} (hpk : k ≠ p) (h : OutInv g W H p N N [] R) (h2 : OutInv g W H k N N [] R2) {x y : Nat} (hx : x < W) (hy : y < H) (hp : atG g ((x : Int), (y : Int)) = p) : R k = true ∨ R2 p = true := by
  classical
  -- the first cell of the row that is of one of both
  have ex : ∃ i : Nat, i ≤ x ∧ (atG g ((i : Int), (y : Int)) = p ∨ atG g ((i : Int), (y : Int)) = k) ∧ ∀ j : Nat, j < i → ¬ (atG g ((j : Int), (y : Int)) = p ∨ atG g ((j : Int), (y : Int)) = k) := by
    have aux : ∀ x : Nat, (atG g ((x : Int), (y : Int)) = p ∨ atG g ((x : Int), (y : Int)) = k) → ∃ i : Nat, i ≤ x ∧ (atG g ((i : Int), (y : Int)) = p ∨ atG g ((i : Int), (y : Int)) = k) ∧ ∀ j : Nat, j < i → ¬ (atG g ((j : Int), (y : Int)) = p ∨ atG g ((j : Int), (y : Int)) = k) := by
      intro x
      induction x using Nat.strongRecOn with
      | ind x ih =>
        intro hx
        by_cases e : ∃ j : Nat, j < x ∧ (atG g ((j : Int), (y : Int)) = p ∨ atG g ((j : Int), (y : Int)) = k)
        · obtain ⟨j, hj, hj2⟩ := e
          obtain ⟨i, h1, h2, h3⟩ := ih j hj hj2
          exact ⟨i, by omega, h2, h3⟩
        · exact ⟨x, Nat.le_refl _, hx, fun j hj hj2 => e ⟨j, hj, hj2⟩⟩
    exact aux x (.inl hp)
  obtain ⟨i, hi, h3, h4⟩ := ex
  have hiN := hgN ((i : Int), (y : Int))
  rcases h3 with h3 | h3
  · right
    refine row_out G hgN hN h2 hy i (by omega) (fun j hj => ?_) p h3
    by_cases e : j = i
    · subst e; rw [h3]; omega
    · exact fun e2 => h4 j (by omega) (.inr e2)
  · left
    refine row_out G hgN hN h hy i (by omega) (fun j hj => ?_) k h3
    by_cases e : j = i
    · subst e; rw [h3]; omega
    · exact fun e2 => h4 j (by omega) (.inl e2)
/-- What lies within a piece that lies within another one lies within that one. -/
theorem within_within (G : Grid g W H) (hgN : ∀ p, atG g p < N) (hN : N ≤ 40) {p k x : Nat} (hkN : k < N) (hxN : x < N) (hpk : k ≠ p) (h : OutInv g W H p N N [] R) (h2 : OutInv g W H k N N [] R2)
    (hcell : ∃ a b : Nat, a < W ∧ b < H ∧ atG g ((a : Int), (b : Int)) = p) (hk : R k = false) (hxk : x ≠ k) (hx : R2 x = false) : x ≠ p ∧ R x = false := by
  constructor
  · rintro rfl
    obtain ⟨a, b, ha, hb, hab⟩ := hcell
    rcases out_one G hgN hN hpk h h2 ha hb hab with e | e
    · rw [e] at hk; cases hk
    · rw [e] at hx; cases hx
  · cases e : R x with
    | false => rfl
    | true =>
      exfalso
      obtain ⟨q, hq, hqp, hqb, hc⟩ := (h.is G hN x (by omega)).1 e
      have key : ∀ r : Int, ConnP g W H p q r → ConnP g W H k q r := by
        intro r hr
        have hne : ∀ m : Nat, m < 40 → ConnP g W H p q m → (m : Int) ≠ (k : Int) := fun m hm hc e => by
          obtain rfl : m = k := by omega
          rw [(h.is G hN m hm).2 ⟨q, hq, hqp, hqb, hc⟩] at hk; cases hk
        induction hr with
        | refl h0 hw => exact ConnP.refl h0 (hne q (by omega) (.refl h0 hw))
        | step hc hr h0 hw ih =>
          have hc2 := ConnP.step hc hr h0 hw
          have := hc2.lt40 G (by omega)
          obtain ⟨m, rfl⟩ := Int.eq_ofNat_of_zero_le h0
          exact ConnP.step ih hr h0 (hne m (by omega) hc2)
      have hc2 := key x hc
      rw [(h2.is G hN x (by omega)).2 ⟨q, hq, fun e => by
        obtain rfl : q = k := by omega
        exact absurd ((h.is G hN q (by omega)).2 ⟨q, hq, hqp, hqb, .refl (by omega) hqp⟩) (by rw [hk]; simp), hqb, hc2⟩] at hx
      cases hx
end
end Go.Proofs.Ytogalmkeipigeaa

/- CutInside: its loops. (Their code and frames: written by wip/tools.) -/
namespace Go.Proofs.Ytogalmkeipigeaa
open Go Go.RowKit Go.Shelf

set_option maxRecDepth 100000 in
theorem zero59 : Try.t59.zero = some (Value.agg (Array.replicate 40 (Value.bool false))) := by kernel_rfl
theorem run_alloc59 {o : Oper} {ρ : Operand → Value} {w : World} (hop : o.op = .alloc 59) : (execOp ρ o).run Try.prog w = .ok (.value (.pointer (some ⟨w.heap.size, 0, none⟩))) (w.alloc (.cells (boolCells 40 fun _ => false) 59)) := by
  have hz := zero59
  unfold boolCells
  rw [← fcells_replicate]
  generalize Array.replicate 40 (Value.bool false) = z at *
  simp only [execOp, hop, Instr.alloc, zeroValue, newVar, newRow]
  go_simp
  done
theorem region_alloc59 {rid d : Nat} {pos : String} {ty : TypeId} {Q : Exit → Act → World → Prop} {a0 : Act} {w : World}
    (h : Q .normal (a0.put (some d) (.pointer (some ⟨w.heap.size, 0, none⟩))) (w.alloc (.cells (boolCells 40 fun _ => false) 59))) :
    (Code.region rid #[{ dst := some d, op := Op.alloc 59, type := ty, pos := pos, after := #[], guard := none }] false).wp Try.prog Q a0 w := by
  refine wp_region_lit ?_
  refine wpList_plain rfl fun K' hK => ?_
  unfold Oper.wp
  rw [run_alloc59 rfl]
  simp only [Oper.upon]
  exact hK _ _ (wpList_nil h)
/-- A row of truths, told by a function of the place. -/
def TwAt (eb : Nat) (E : Nat → Bool) (W : World) : Prop := W.heap[eb]? = some (.cells (boolCells 40 E) 59)
theorem TwAt.mod {eb : Nat} {E : Nat → Bool} {W W' : World} (h : TwAt eb E W) (hm : Mod noB W W') : TwAt eb E W' := hm.at h id
theorem TwAt.set {eb : Nat} {E : Nat → Bool} {W : World} (h : TwAt eb E W) (i : Nat) : TwAt eb (fun j => if j = i then true else E j) (W.setCell ⟨eb, i, none⟩ (.bool true)) := boolCells_store h i
theorem TwAt.cell {eb : Nat} {E : Nat → Bool} {W : World} (h : TwAt eb E W) {i : Nat} (hi : i < 40) : W.cell? ⟨eb, i, none⟩ = some (.bool (E i)) := fcells_cell h hi
theorem TwAt.frozen {eb : Nat} {E : Nat → Bool} {W : World} (h : TwAt eb E W) (i : Nat) : W.frozen? ⟨eb, i, none⟩ = false := cells_frozen h i
/-- A list of numbers in memory, behind some block. -/
def NumRow (sb0 n : Nat) (ao : Option Addr) (Q : Nat → Nat) (W : World) : Prop := 0 < n → ∃ b, ao = some ⟨b, 0, none⟩ ∧ b ≠ sb0 ∧ b < W.heap.size ∧ ∀ j, j < n → W.cell? ⟨b, j, none⟩ = some (.int .i64 (Q j : Nat))
theorem NumRow.later {sb0 eb n : Nat} {ao : Option Addr} {Q : Nat → Nat} {W W' : World} (h : NumRow sb0 n ao Q W) (hm : Mod noB W W') (he : W.heap.size ≤ eb) : NumRow eb n ao Q W' := fun hn => by
  obtain ⟨b, h1, _, h3, h4⟩ := h hn
  have := hm.size
  exact ⟨b, h1, by omega, by omega, fun j hj => (cell_same (hm.block b h3 id) _).trans (h4 j hj)⟩
/-- The numbers come in order, none is the piece; what is marked. -/
def MarkOk (N p n : Nat) (Q : Nat → Nat) (LA : Nat → Int) (IS : Nat → Nat → Bool) : Prop := ∀ j, j < n → LA j < Q j ∧ Q j < N ∧ Q j ≠ p ∧ LA (j + 1) = Q j ∧ IS (j + 1) = fun i => if i = Q j then true else IS j i

@[reducible] def in_markBody : Code := (Code.block 0 ((Code.region 12 #[{ dst := some 89, op := Op.binOp BinOp.lss 3 (Operand.tmp 88) (Operand.tmp 87) 3, type := 0, pos := "outright.go:141", after := #[], guard := none }] false).seq ((Code.cond (Operand.tmp 89) Code.skip (Code.exit 0)).seq ((Code.block 1 ((Code.region 13 #[{ dst := some 90, op := Op.indexAddr 22 (Operand.tmp 86) (Operand.tmp 88), type := 0, pos := "outright.go:141", after := #[], guard := none }, { dst := some 91, op := Op.load 3 (Operand.tmp 90), type := 3, pos := "outright.go:141", after := #[{ on := 0, ground := Ground.data }], guard := none }, { dst := some 12, op := Op.assign (Operand.tmp 91), type := 3, pos := "outright.go:141", after := #[{ on := 1, ground := Ground.data }, { on := 0, ground := Ground.phase }, { on := 1, ground := Ground.phase }], guard := none }] false).seq (((Code.region 14 #[{ dst := some 92, op := Op.move (Operand.tmp 12), type := 3, pos := "outright.go:142", after := #[], guard := none }, { dst := some 93, op := Op.move (Operand.tmp 10), type := 3, pos := "outright.go:142", after := #[], guard := none }, { dst := some 94, op := Op.binOp BinOp.leq 3 (Operand.tmp 92) (Operand.tmp 93) 3, type := 4, pos := "outright.go:142", after := #[{ on := 0, ground := Ground.data }, { on := 1, ground := Ground.data }], guard := none }, { dst := some 95, op := Op.move (Operand.tmp 94), type := 4, pos := "outright.go:142", after := #[{ on := 2, ground := Ground.data }], guard := none }, { dst := some 96, op := Op.move (Operand.tmp 12), type := 3, pos := "outright.go:142", after := #[{ on := 3, ground := Ground.guard }], guard := some (3, false) }, { dst := some 97, op := Op.move (Operand.tmp 7), type := 3, pos := "outright.go:142", after := #[{ on := 3, ground := Ground.guard }], guard := some (3, false) }, { dst := some 98, op := Op.binOp BinOp.geq 3 (Operand.tmp 96) (Operand.tmp 97) 3, type := 4, pos := "outright.go:142", after := #[{ on := 4, ground := Ground.data }, { on := 5, ground := Ground.data }, { on := 3, ground := Ground.guard }], guard := some (3, false) }, { dst := some 99, op := Op.pick (Operand.tmp 95) (Operand.const (Value.bool true)) (Operand.tmp 98), type := 4, pos := "outright.go:142", after := #[{ on := 3, ground := Ground.data }, { on := 6, ground := Ground.data }], guard := none }, { dst := some 100, op := Op.move (Operand.tmp 99), type := 4, pos := "outright.go:142", after := #[{ on := 7, ground := Ground.data }, { on := 3, ground := Ground.chain }], guard := none }, { dst := some 101, op := Op.move (Operand.tmp 12), type := 3, pos := "outright.go:142", after := #[{ on := 8, ground := Ground.guard }], guard := some (8, false) }, { dst := some 102, op := Op.move (Operand.tmp 1), type := 3, pos := "outright.go:142", after := #[{ on := 8, ground := Ground.guard }], guard := some (8, false) }, { dst := some 103, op := Op.binOp BinOp.eql 3 (Operand.tmp 101) (Operand.tmp 102) 3, type := 4, pos := "outright.go:142", after := #[{ on := 9, ground := Ground.data }, { on := 10, ground := Ground.data }, { on := 8, ground := Ground.guard }], guard := some (8, false) }, { dst := some 104, op := Op.pick (Operand.tmp 100) (Operand.const (Value.bool true)) (Operand.tmp 103), type := 4, pos := "outright.go:142", after := #[{ on := 8, ground := Ground.data }, { on := 11, ground := Ground.data }], guard := none }] false).seq (Code.cond (Operand.tmp 104) ((Code.region 15 #[{ dst := some 4, op := Op.assign (Operand.const (Value.bool false)), type := 4, pos := "outright.go:143", after := #[], guard := none }] false).seq Code.ret) Code.skip)).seq ((Code.region 16 #[{ dst := some 105, op := Op.move (Operand.tmp 12), type := 3, pos := "outright.go:145", after := #[], guard := none }, { dst := some 106, op := Op.indexAddr 59 (Operand.tmp 9) (Operand.tmp 105), type := 0, pos := "outright.go:145", after := #[{ on := 0, ground := Ground.data }, { on := 0, ground := Ground.phase }], guard := none }, { dst := none, op := Op.store 4 (Operand.tmp 106) (Operand.const (Value.bool true)), type := 0, pos := "outright.go:145", after := #[{ on := 1, ground := Ground.data }, { on := 0, ground := Ground.phase }], guard := none }] false).seq (Code.region 17 #[{ dst := some 107, op := Op.move (Operand.tmp 12), type := 3, pos := "outright.go:146", after := #[], guard := none }, { dst := some 10, op := Op.assign (Operand.tmp 107), type := 3, pos := "outright.go:146", after := #[{ on := 0, ground := Ground.data }, { on := 0, ground := Ground.phase }], guard := none }] false))))).seq (Code.region 18 #[{ dst := some 108, op := Op.binOp BinOp.add 3 (Operand.tmp 88) (Operand.const (Value.int IntKind.i64 1)) 3, type := 3, pos := "outright.go:141", after := #[], guard := none }, { dst := some 88, op := Op.move (Operand.tmp 108), type := 3, pos := "outright.go:141", after := #[{ on := 0, ground := Ground.data }], guard := none }] false)))).loop)

set_option maxRecDepth 100000 in
set_option maxHeartbeats 16000000 in
theorem in_mark {x0 x2 x3 x4 x5 x6 x8 x11 x12 x13 x14 x15 x16 x17 x18 x19 x20 x21 x22 x23 x24 x25 x26 x27 x28 x29 x30 x31 x32 x33 x34 x35 x36 x37 x38 x39 x40 x41 x42 x43 x44 x45 x46 x47 x48 x49 x50 x51 x52 x53 x54 x55 x56 x57 x58 x59 x60 x61 x62 x63 x64 x65 x66 x67 x68 x69 x70 x71 x72 x73 x74 x75 x76 x77 x78 x79 x80 x81 x82 x83 x84 x85 x89 x90 x91 x92 x93 x94 x95 x96 x97 x98 x99 x100 x101 x102 x103 x104 x105 x106 x107 x108 x109 x110 x111 x112 x113 x114 x115 x116 x117 x118 x119 x120 x121 x122 x123 x124 x125 x126 x127 x128 x129 x130 x131 x132 x133 x134 x135 x136 x137 x138 x139 x140 x141 x142 x143 x144 x145 x146 x147 x148 x149 x150 x151 x152 x153 x154 x155 x156 x157 x158 x159 x160 x161 x162 x163 x164 x165 x166 x167 x168 x169 x170 x171 x172 x173 x174 x175 x176 x177 x178 x179 x180 x181 x182 x183 x184 x185 x186 x187 x188 x189 x190 x191 : Value} (so : Option Addr) (N p n scap eb : Nat) (Q : Nat → Nat) (LA : Nat → Int) (IS : Nat → Nat → Bool) (w1 : World) (hN : N ≤ 40) (hn : n ≤ 1000) (i10 : Int) (h10 : i10 = LA 0) (HS : Hold (MarkOk N p n Q LA IS)) (HR : Hold (NumRow eb n so Q w1)) (HE : Hold (TwAt eb (IS 0) w1)) :
    Code.wp Try.prog in_markBody (only fun a' w' => ∃ v : Nat → Value, a' = { tmps := List.toArray (x0 :: Value.int .i64 ((p : Nat)) :: x2 :: x3 :: v 4 :: x5 :: x6 :: Value.int .i64 ((N : Nat)) :: x8 :: Value.pointer (some ⟨eb, 0, none⟩) :: v 10 :: x11 :: v 12 :: x13 :: x14 :: x15 :: x16 :: x17 :: x18 :: x19 :: x20 :: x21 :: x22 :: x23 :: x24 :: x25 :: x26 :: x27 :: x28 :: x29 :: x30 :: x31 :: x32 :: x33 :: x34 :: x35 :: x36 :: x37 :: x38 :: x39 :: x40 :: x41 :: x42 :: x43 :: x44 :: x45 :: x46 :: x47 :: x48 :: x49 :: x50 :: x51 :: x52 :: x53 :: x54 :: x55 :: x56 :: x57 :: x58 :: x59 :: x60 :: x61 :: x62 :: x63 :: x64 :: x65 :: x66 :: x67 :: x68 :: x69 :: x70 :: x71 :: x72 :: x73 :: x74 :: x75 :: x76 :: x77 :: x78 :: x79 :: x80 :: x81 :: x82 :: x83 :: x84 :: x85 :: Value.slice so n scap :: Value.int .i64 ((n : Nat)) :: v 88 :: v 89 :: v 90 :: v 91 :: v 92 :: v 93 :: v 94 :: v 95 :: v 96 :: v 97 :: v 98 :: v 99 :: v 100 :: v 101 :: v 102 :: v 103 :: v 104 :: v 105 :: v 106 :: v 107 :: v 108 :: x109 :: x110 :: x111 :: x112 :: x113 :: x114 :: x115 :: x116 :: x117 :: x118 :: x119 :: x120 :: x121 :: x122 :: x123 :: x124 :: x125 :: x126 :: x127 :: x128 :: x129 :: x130 :: x131 :: x132 :: x133 :: x134 :: x135 :: x136 :: x137 :: x138 :: x139 :: x140 :: x141 :: x142 :: x143 :: x144 :: x145 :: x146 :: x147 :: x148 :: x149 :: x150 :: x151 :: x152 :: x153 :: x154 :: x155 :: x156 :: x157 :: x158 :: x159 :: x160 :: x161 :: x162 :: x163 :: x164 :: x165 :: x166 :: x167 :: x168 :: x169 :: x170 :: x171 :: x172 :: x173 :: x174 :: x175 :: x176 :: x177 :: x178 :: x179 :: x180 :: x181 :: x182 :: x183 :: x184 :: x185 :: x186 :: x187 :: x188 :: x189 :: x190 :: x191 :: []), defers := [] } ∧ (TwAt eb (IS n) w' ∧ Mod (fun k => k = eb) w1 w'))
      { tmps := List.toArray (x0 :: Value.int .i64 ((p : Nat)) :: x2 :: x3 :: x4 :: x5 :: x6 :: Value.int .i64 ((N : Nat)) :: x8 :: Value.pointer (some ⟨eb, 0, none⟩) :: Value.int .i64 (i10) :: x11 :: x12 :: x13 :: x14 :: x15 :: x16 :: x17 :: x18 :: x19 :: x20 :: x21 :: x22 :: x23 :: x24 :: x25 :: x26 :: x27 :: x28 :: x29 :: x30 :: x31 :: x32 :: x33 :: x34 :: x35 :: x36 :: x37 :: x38 :: x39 :: x40 :: x41 :: x42 :: x43 :: x44 :: x45 :: x46 :: x47 :: x48 :: x49 :: x50 :: x51 :: x52 :: x53 :: x54 :: x55 :: x56 :: x57 :: x58 :: x59 :: x60 :: x61 :: x62 :: x63 :: x64 :: x65 :: x66 :: x67 :: x68 :: x69 :: x70 :: x71 :: x72 :: x73 :: x74 :: x75 :: x76 :: x77 :: x78 :: x79 :: x80 :: x81 :: x82 :: x83 :: x84 :: x85 :: Value.slice so n scap :: Value.int .i64 ((n : Nat)) :: Value.int .i64 (0) :: x89 :: x90 :: x91 :: x92 :: x93 :: x94 :: x95 :: x96 :: x97 :: x98 :: x99 :: x100 :: x101 :: x102 :: x103 :: x104 :: x105 :: x106 :: x107 :: x108 :: x109 :: x110 :: x111 :: x112 :: x113 :: x114 :: x115 :: x116 :: x117 :: x118 :: x119 :: x120 :: x121 :: x122 :: x123 :: x124 :: x125 :: x126 :: x127 :: x128 :: x129 :: x130 :: x131 :: x132 :: x133 :: x134 :: x135 :: x136 :: x137 :: x138 :: x139 :: x140 :: x141 :: x142 :: x143 :: x144 :: x145 :: x146 :: x147 :: x148 :: x149 :: x150 :: x151 :: x152 :: x153 :: x154 :: x155 :: x156 :: x157 :: x158 :: x159 :: x160 :: x161 :: x162 :: x163 :: x164 :: x165 :: x166 :: x167 :: x168 :: x169 :: x170 :: x171 :: x172 :: x173 :: x174 :: x175 :: x176 :: x177 :: x178 :: x179 :: x180 :: x181 :: x182 :: x183 :: x184 :: x185 :: x186 :: x187 :: x188 :: x189 :: x190 :: x191 :: []), defers := [] } w1 := by
  unfold in_markBody
  apply wp_block
  subst h10
  go_loopw [10, 88] (fun la i wr => ∃ j : Nat, j ≤ n ∧ la = .int .i64 (LA j) ∧ i = .int .i64 j ∧ Hold (TwAt eb (IS j) wr ∧ Mod (fun k => k = eb) w1 wr)) (fun _ i _ => n - (intOf i).toNat)
  case atStart => exact ⟨0, Nat.zero_le _, rfl, rfl, ⟨HE.out, Mod.refl _ _⟩⟩
  case round =>
    obtain ⟨j, hj, rfl, rfl, HQ⟩ := hrel
    by_cases hjn : j < n
    · have hI : (j : Int) < (n : Int) := by omega
      obtain ⟨q1, q2, q3, q5, q6⟩ := HS.out j hjn
      obtain ⟨sb, rfl, hsb, hsz, hc⟩ := HR.out (by omega)
      have hsbe : sb ≠ eb := hsb
      have c0 := (cell_same (HQ.out.2.block sb hsz hsbe) _).trans (hc j hjn)
      have HX := Hold.mk (And.intro q5 q6)
      clear hc hsb hsz hsbe q5 q6
      generalize hla : LA j = la at *
      generalize hq : Q j = q at *
      have t1 : ¬ ((q : Int) ≤ la) := by omega
      have t2 : ¬ ((N : Int) ≤ q) := by omega
      have t3 : ¬ ((q : Int) = (p : Int)) := by omega
      have t4 : ((q : Int) == (p : Int)) = false := by simpa using t3
      have hq40 : (q : Int) < 40 := by omega
      have d0 := HQ.out.1.cell (i := q) (by omega)
      have d1 := HQ.out.1.frozen q
      have HR3 : Hold (TwAt eb (IS (j + 1)) (wr.setCell ⟨eb, q, none⟩ (.bool true)) ∧ Mod (fun k => k = eb) w1 (wr.setCell ⟨eb, q, none⟩ (.bool true))) := ⟨by rw [HX.out.2]; exact HQ.out.1.set q, HQ.out.2.sq _⟩
      clear hla q1 q2 q3 hq
      go_wp2
      go_roundw
      case rel => exact ⟨j + 1, by omega, by rw [HX.out.1], by go_num, HR3⟩
      case measure => simp [intOf]; omega
    · obtain rfl : j = n := by omega
      go_wp2
      first | exact ⟨rfl, end_frame _ _ _ rfl HQ.out⟩ | exact ⟨rfl, end_frame2 _ _ rfl, HQ.out⟩

@[reducible] def in_inBody : Code := (Code.block 6 ((Code.region 36 #[{ dst := some 174, op := Op.binOp BinOp.lss 3 (Operand.tmp 173) (Operand.tmp 172) 3, type := 0, pos := "outright.go:166", after := #[], guard := none }] false).seq ((Code.cond (Operand.tmp 174) Code.skip (Code.exit 6)).seq ((Code.block 7 ((Code.region 37 #[{ dst := some 175, op := Op.indexAddr 22 (Operand.tmp 171) (Operand.tmp 173), type := 0, pos := "outright.go:166", after := #[], guard := none }, { dst := some 176, op := Op.load 3 (Operand.tmp 175), type := 3, pos := "outright.go:166", after := #[{ on := 0, ground := Ground.data }], guard := none }, { dst := some 21, op := Op.assign (Operand.tmp 176), type := 3, pos := "outright.go:166", after := #[{ on := 1, ground := Ground.data }, { on := 0, ground := Ground.phase }, { on := 1, ground := Ground.phase }], guard := none }] false).seq ((Code.region 38 #[{ dst := some 177, op := Op.move (Operand.tmp 21), type := 3, pos := "outright.go:167", after := #[], guard := none }, { dst := some 178, op := Op.binOp BinOp.lss 3 (Operand.tmp 177) (Operand.const (Value.int IntKind.i64 0)) 3, type := 4, pos := "outright.go:167", after := #[{ on := 0, ground := Ground.data }], guard := none }, { dst := some 179, op := Op.move (Operand.tmp 178), type := 4, pos := "outright.go:167", after := #[{ on := 1, ground := Ground.data }], guard := none }, { dst := some 180, op := Op.move (Operand.tmp 21), type := 3, pos := "outright.go:167", after := #[{ on := 2, ground := Ground.guard }], guard := some (2, false) }, { dst := some 181, op := Op.move (Operand.tmp 7), type := 3, pos := "outright.go:167", after := #[{ on := 2, ground := Ground.guard }], guard := some (2, false) }, { dst := some 182, op := Op.binOp BinOp.geq 3 (Operand.tmp 180) (Operand.tmp 181) 3, type := 4, pos := "outright.go:167", after := #[{ on := 3, ground := Ground.data }, { on := 4, ground := Ground.data }, { on := 2, ground := Ground.guard }], guard := some (2, false) }, { dst := some 183, op := Op.pick (Operand.tmp 179) (Operand.const (Value.bool true)) (Operand.tmp 182), type := 4, pos := "outright.go:167", after := #[{ on := 2, ground := Ground.data }, { on := 5, ground := Ground.data }], guard := none }, { dst := some 184, op := Op.move (Operand.tmp 183), type := 4, pos := "outright.go:167", after := #[{ on := 6, ground := Ground.data }, { on := 2, ground := Ground.chain }], guard := none }, { dst := some 185, op := Op.move (Operand.tmp 21), type := 3, pos := "outright.go:167", after := #[{ on := 7, ground := Ground.guard }], guard := some (7, false) }, { dst := some 186, op := Op.indexAddr 59 (Operand.tmp 9) (Operand.tmp 185), type := 0, pos := "outright.go:167", after := #[{ on := 8, ground := Ground.data }, { on := 7, ground := Ground.guard }], guard := some (7, false) }, { dst := some 187, op := Op.load 4 (Operand.tmp 186), type := 4, pos := "outright.go:167", after := #[{ on := 9, ground := Ground.data }, { on := 7, ground := Ground.guard }], guard := some (7, false) }, { dst := some 188, op := Op.unOp UnOp.not 4 (Operand.tmp 187), type := 4, pos := "outright.go:167", after := #[{ on := 10, ground := Ground.data }, { on := 7, ground := Ground.guard }], guard := some (7, false) }, { dst := some 189, op := Op.pick (Operand.tmp 184) (Operand.const (Value.bool true)) (Operand.tmp 188), type := 4, pos := "outright.go:167", after := #[{ on := 7, ground := Ground.data }, { on := 11, ground := Ground.data }], guard := none }] false).seq (Code.cond (Operand.tmp 189) ((Code.region 39 #[{ dst := some 4, op := Op.assign (Operand.const (Value.bool false)), type := 4, pos := "outright.go:168", after := #[], guard := none }] false).seq Code.ret) Code.skip)))).seq (Code.region 40 #[{ dst := some 190, op := Op.binOp BinOp.add 3 (Operand.tmp 173) (Operand.const (Value.int IntKind.i64 1)) 3, type := 3, pos := "outright.go:166", after := #[], guard := none }, { dst := some 173, op := Op.move (Operand.tmp 190), type := 3, pos := "outright.go:166", after := #[{ on := 0, ground := Ground.data }], guard := none }] false)))).loop)

set_option maxRecDepth 100000 in
set_option maxHeartbeats 16000000 in
theorem in_in {x0 x1 x2 x3 x4 x5 x6 x8 x10 x11 x12 x13 x14 x15 x16 x17 x18 x19 x20 x21 x22 x23 x24 x25 x26 x27 x28 x29 x30 x31 x32 x33 x34 x35 x36 x37 x38 x39 x40 x41 x42 x43 x44 x45 x46 x47 x48 x49 x50 x51 x52 x53 x54 x55 x56 x57 x58 x59 x60 x61 x62 x63 x64 x65 x66 x67 x68 x69 x70 x71 x72 x73 x74 x75 x76 x77 x78 x79 x80 x81 x82 x83 x84 x85 x86 x87 x88 x89 x90 x91 x92 x93 x94 x95 x96 x97 x98 x99 x100 x101 x102 x103 x104 x105 x106 x107 x108 x109 x110 x111 x112 x113 x114 x115 x116 x117 x118 x119 x120 x121 x122 x123 x124 x125 x126 x127 x128 x129 x130 x131 x132 x133 x134 x135 x136 x137 x138 x139 x140 x141 x142 x143 x144 x145 x146 x147 x148 x149 x150 x151 x152 x153 x154 x155 x156 x157 x158 x159 x160 x161 x162 x163 x164 x165 x166 x167 x168 x169 x170 x174 x175 x176 x177 x178 x179 x180 x181 x182 x183 x184 x185 x186 x187 x188 x189 x190 x191 : Value} (so : Option Addr) (N n scap eb : Nat) (Q : Nat → Nat) (IS : Nat → Bool) (w1 : World) (hN : N ≤ 40) (hn : n ≤ 1000) (HS : Hold (∀ j, j < n → Q j < N ∧ IS (Q j) = true)) (HR : Hold (NumRow eb n so Q w1)) (HE : Hold (TwAt eb IS w1)) :
    Code.wp Try.prog in_inBody (only fun a' w' => ∃ v : Nat → Value, a' = { tmps := List.toArray (x0 :: x1 :: x2 :: x3 :: v 4 :: x5 :: x6 :: Value.int .i64 ((N : Nat)) :: x8 :: Value.pointer (some ⟨eb, 0, none⟩) :: x10 :: x11 :: x12 :: x13 :: x14 :: x15 :: x16 :: x17 :: x18 :: x19 :: x20 :: v 21 :: x22 :: x23 :: x24 :: x25 :: x26 :: x27 :: x28 :: x29 :: x30 :: x31 :: x32 :: x33 :: x34 :: x35 :: x36 :: x37 :: x38 :: x39 :: x40 :: x41 :: x42 :: x43 :: x44 :: x45 :: x46 :: x47 :: x48 :: x49 :: x50 :: x51 :: x52 :: x53 :: x54 :: x55 :: x56 :: x57 :: x58 :: x59 :: x60 :: x61 :: x62 :: x63 :: x64 :: x65 :: x66 :: x67 :: x68 :: x69 :: x70 :: x71 :: x72 :: x73 :: x74 :: x75 :: x76 :: x77 :: x78 :: x79 :: x80 :: x81 :: x82 :: x83 :: x84 :: x85 :: x86 :: x87 :: x88 :: x89 :: x90 :: x91 :: x92 :: x93 :: x94 :: x95 :: x96 :: x97 :: x98 :: x99 :: x100 :: x101 :: x102 :: x103 :: x104 :: x105 :: x106 :: x107 :: x108 :: x109 :: x110 :: x111 :: x112 :: x113 :: x114 :: x115 :: x116 :: x117 :: x118 :: x119 :: x120 :: x121 :: x122 :: x123 :: x124 :: x125 :: x126 :: x127 :: x128 :: x129 :: x130 :: x131 :: x132 :: x133 :: x134 :: x135 :: x136 :: x137 :: x138 :: x139 :: x140 :: x141 :: x142 :: x143 :: x144 :: x145 :: x146 :: x147 :: x148 :: x149 :: x150 :: x151 :: x152 :: x153 :: x154 :: x155 :: x156 :: x157 :: x158 :: x159 :: x160 :: x161 :: x162 :: x163 :: x164 :: x165 :: x166 :: x167 :: x168 :: x169 :: x170 :: Value.slice so n scap :: Value.int .i64 ((n : Nat)) :: v 173 :: v 174 :: v 175 :: v 176 :: v 177 :: v 178 :: v 179 :: v 180 :: v 181 :: v 182 :: v 183 :: v 184 :: v 185 :: v 186 :: v 187 :: v 188 :: v 189 :: v 190 :: x191 :: []), defers := [] } ∧ (Mod noB w1 w'))
      { tmps := List.toArray (x0 :: x1 :: x2 :: x3 :: x4 :: x5 :: x6 :: Value.int .i64 ((N : Nat)) :: x8 :: Value.pointer (some ⟨eb, 0, none⟩) :: x10 :: x11 :: x12 :: x13 :: x14 :: x15 :: x16 :: x17 :: x18 :: x19 :: x20 :: x21 :: x22 :: x23 :: x24 :: x25 :: x26 :: x27 :: x28 :: x29 :: x30 :: x31 :: x32 :: x33 :: x34 :: x35 :: x36 :: x37 :: x38 :: x39 :: x40 :: x41 :: x42 :: x43 :: x44 :: x45 :: x46 :: x47 :: x48 :: x49 :: x50 :: x51 :: x52 :: x53 :: x54 :: x55 :: x56 :: x57 :: x58 :: x59 :: x60 :: x61 :: x62 :: x63 :: x64 :: x65 :: x66 :: x67 :: x68 :: x69 :: x70 :: x71 :: x72 :: x73 :: x74 :: x75 :: x76 :: x77 :: x78 :: x79 :: x80 :: x81 :: x82 :: x83 :: x84 :: x85 :: x86 :: x87 :: x88 :: x89 :: x90 :: x91 :: x92 :: x93 :: x94 :: x95 :: x96 :: x97 :: x98 :: x99 :: x100 :: x101 :: x102 :: x103 :: x104 :: x105 :: x106 :: x107 :: x108 :: x109 :: x110 :: x111 :: x112 :: x113 :: x114 :: x115 :: x116 :: x117 :: x118 :: x119 :: x120 :: x121 :: x122 :: x123 :: x124 :: x125 :: x126 :: x127 :: x128 :: x129 :: x130 :: x131 :: x132 :: x133 :: x134 :: x135 :: x136 :: x137 :: x138 :: x139 :: x140 :: x141 :: x142 :: x143 :: x144 :: x145 :: x146 :: x147 :: x148 :: x149 :: x150 :: x151 :: x152 :: x153 :: x154 :: x155 :: x156 :: x157 :: x158 :: x159 :: x160 :: x161 :: x162 :: x163 :: x164 :: x165 :: x166 :: x167 :: x168 :: x169 :: x170 :: Value.slice so n scap :: Value.int .i64 ((n : Nat)) :: Value.int .i64 (0) :: x174 :: x175 :: x176 :: x177 :: x178 :: x179 :: x180 :: x181 :: x182 :: x183 :: x184 :: x185 :: x186 :: x187 :: x188 :: x189 :: x190 :: x191 :: []), defers := [] } w1 := by
  unfold in_inBody
  apply wp_block
  go_loopw [173] (fun i wr => ∃ j : Nat, j ≤ n ∧ i = .int .i64 j ∧ Hold (Mod noB w1 wr)) (fun i _ => n - (intOf i).toNat)
  case atStart => exact ⟨0, Nat.zero_le _, rfl, ⟨Mod.refl _ _⟩⟩
  case round =>
    obtain ⟨j, hj, rfl, HM⟩ := hrel
    by_cases hjn : j < n
    · have hI : (j : Int) < (n : Int) := by omega
      obtain ⟨q1, q2⟩ := HS.out j hjn
      obtain ⟨sb, rfl, hsb, hsz, hc⟩ := HR.out (by omega)
      have c0 := (cell_same (HM.out.block sb hsz id) _).trans (hc j hjn)
      clear hc hsb hsz
      generalize Q j = q at *
      have t1 : ¬ ((q : Int) < 0) := by omega
      have t2 : ¬ ((N : Int) ≤ q) := by omega
      have hq40 : (q : Int) < 40 := by omega
      have d0 := (HE.out.mod HM.out).cell (i := q) (by omega)
      rw [q2] at d0
      clear q1 q2
      go_wp2
      go_roundw
      case rel => exact ⟨j + 1, by omega, by go_num, HM⟩
      case measure => simp [intOf]; omega
    · obtain rfl : j = n := by omega
      go_wp2
      first | exact ⟨rfl, end_frame _ _ _ rfl HM.out⟩ | exact ⟨rfl, end_frame2 _ _ rfl, HM.out⟩

@[reducible] def in_sidesBody : Code := (Code.block 4 ((Code.region 26 #[{ dst := some 125, op := Op.binOp BinOp.lss 3 (Operand.tmp 124) (Operand.tmp 123) 3, type := 0, pos := "outright.go:154", after := #[], guard := none }] false).seq ((Code.cond (Operand.tmp 125) Code.skip (Code.exit 4)).seq ((Code.block 5 ((Code.region 27 #[{ dst := some 126, op := Op.indexAddr 30 (Operand.tmp 122) (Operand.tmp 124), type := 0, pos := "outright.go:154", after := #[], guard := none }, { dst := some 127, op := Op.load 54 (Operand.tmp 126), type := 54, pos := "outright.go:154", after := #[{ on := 0, ground := Ground.data }], guard := none }, { dst := some 17, op := Op.alloc 54, type := 0, pos := "outright.go:154", after := #[], guard := none }, { dst := none, op := Op.store 54 (Operand.tmp 17) (Operand.tmp 127), type := 0, pos := "outright.go:154", after := #[{ on := 2, ground := Ground.data }, { on := 1, ground := Ground.data }, { on := 0, ground := Ground.phase }, { on := 1, ground := Ground.phase }, { on := 2, ground := Ground.phase }], guard := none }] false).seq ((Code.region 28 #[{ dst := some 128, op := Op.move (Operand.tmp 13), type := 3, pos := "outright.go:155", after := #[], guard := none }, { dst := some 129, op := Op.move (Operand.tmp 1), type := 3, pos := "outright.go:155", after := #[], guard := none }, { dst := some 130, op := Op.binOp BinOp.neq 3 (Operand.tmp 128) (Operand.tmp 129) 3, type := 4, pos := "outright.go:155", after := #[{ on := 0, ground := Ground.data }, { on := 1, ground := Ground.data }], guard := none }, { dst := some 131, op := Op.move (Operand.tmp 130), type := 4, pos := "outright.go:155", after := #[{ on := 2, ground := Ground.data }], guard := none }, { dst := some 132, op := Op.fieldAddr 54 (Operand.tmp 17) 0, type := 0, pos := "outright.go:155", after := #[{ on := 3, ground := Ground.guard }], guard := some (3, true) }, { dst := some 133, op := Op.load 3 (Operand.tmp 132), type := 3, pos := "outright.go:155", after := #[{ on := 4, ground := Ground.data }, { on := 3, ground := Ground.guard }], guard := some (3, true) }, { dst := some 134, op := Op.move (Operand.tmp 1), type := 3, pos := "outright.go:155", after := #[{ on := 3, ground := Ground.guard }], guard := some (3, true) }, { dst := some 135, op := Op.binOp BinOp.neq 3 (Operand.tmp 133) (Operand.tmp 134) 3, type := 4, pos := "outright.go:155", after := #[{ on := 5, ground := Ground.data }, { on := 6, ground := Ground.data }, { on := 3, ground := Ground.guard }], guard := some (3, true) }, { dst := some 136, op := Op.pick (Operand.tmp 131) (Operand.tmp 135) (Operand.const (Value.bool false)), type := 4, pos := "outright.go:155", after := #[{ on := 3, ground := Ground.data }, { on := 7, ground := Ground.data }], guard := none }, { dst := some 137, op := Op.move (Operand.tmp 136), type := 4, pos := "outright.go:155", after := #[{ on := 8, ground := Ground.data }, { on := 3, ground := Ground.chain }], guard := none }, { dst := some 138, op := Op.move (Operand.tmp 13), type := 3, pos := "outright.go:155", after := #[{ on := 9, ground := Ground.guard }], guard := some (9, true) }, { dst := some 139, op := Op.indexAddr 59 (Operand.tmp 9) (Operand.tmp 138), type := 0, pos := "outright.go:155", after := #[{ on := 10, ground := Ground.data }, { on := 9, ground := Ground.guard }], guard := some (9, true) }, { dst := some 140, op := Op.load 4 (Operand.tmp 139), type := 4, pos := "outright.go:155", after := #[{ on := 11, ground := Ground.data }, { on := 9, ground := Ground.guard }], guard := some (9, true) }, { dst := some 141, op := Op.fieldAddr 54 (Operand.tmp 17) 0, type := 0, pos := "outright.go:155", after := #[{ on := 9, ground := Ground.guard }], guard := some (9, true) }, { dst := some 142, op := Op.load 3 (Operand.tmp 141), type := 3, pos := "outright.go:155", after := #[{ on := 13, ground := Ground.data }, { on := 9, ground := Ground.guard }], guard := some (9, true) }, { dst := some 143, op := Op.binOp BinOp.geq 3 (Operand.tmp 142) (Operand.const (Value.int IntKind.i64 0)) 3, type := 4, pos := "outright.go:155", after := #[{ on := 14, ground := Ground.data }, { on := 9, ground := Ground.guard }], guard := some (9, true) }, { dst := some 144, op := Op.move (Operand.tmp 143), type := 4, pos := "outright.go:155", after := #[{ on := 15, ground := Ground.data }, { on := 9, ground := Ground.chain }, { on := 9, ground := Ground.guard }], guard := some (9, true) }, { dst := some 145, op := Op.fieldAddr 54 (Operand.tmp 17) 0, type := 0, pos := "outright.go:155", after := #[{ on := 16, ground := Ground.guard }], guard := some (16, true) }, { dst := some 146, op := Op.load 3 (Operand.tmp 145), type := 3, pos := "outright.go:155", after := #[{ on := 17, ground := Ground.data }, { on := 16, ground := Ground.guard }], guard := some (16, true) }, { dst := some 147, op := Op.move (Operand.tmp 7), type := 3, pos := "outright.go:155", after := #[{ on := 16, ground := Ground.guard }], guard := some (16, true) }, { dst := some 148, op := Op.binOp BinOp.lss 3 (Operand.tmp 146) (Operand.tmp 147) 3, type := 4, pos := "outright.go:155", after := #[{ on := 18, ground := Ground.data }, { on := 19, ground := Ground.data }, { on := 16, ground := Ground.guard }], guard := some (16, true) }, { dst := some 149, op := Op.pick (Operand.tmp 144) (Operand.tmp 148) (Operand.const (Value.bool false)), type := 4, pos := "outright.go:155", after := #[{ on := 16, ground := Ground.data }, { on := 20, ground := Ground.data }, { on := 9, ground := Ground.guard }], guard := some (9, true) }, { dst := some 150, op := Op.move (Operand.tmp 149), type := 4, pos := "outright.go:155", after := #[{ on := 21, ground := Ground.data }, { on := 16, ground := Ground.chain }, { on := 9, ground := Ground.guard }], guard := some (9, true) }, { dst := some 151, op := Op.fieldAddr 54 (Operand.tmp 17) 0, type := 0, pos := "outright.go:155", after := #[{ on := 22, ground := Ground.guard }], guard := some (22, true) }, { dst := some 152, op := Op.load 3 (Operand.tmp 151), type := 3, pos := "outright.go:155", after := #[{ on := 23, ground := Ground.data }, { on := 22, ground := Ground.guard }], guard := some (22, true) }, { dst := some 153, op := Op.indexAddr 59 (Operand.tmp 9) (Operand.tmp 152), type := 0, pos := "outright.go:155", after := #[{ on := 24, ground := Ground.data }, { on := 22, ground := Ground.guard }], guard := some (22, true) }, { dst := some 154, op := Op.load 4 (Operand.tmp 153), type := 4, pos := "outright.go:155", after := #[{ on := 25, ground := Ground.data }, { on := 22, ground := Ground.guard }], guard := some (22, true) }, { dst := some 155, op := Op.pick (Operand.tmp 150) (Operand.tmp 154) (Operand.const (Value.bool false)), type := 4, pos := "outright.go:155", after := #[{ on := 22, ground := Ground.data }, { on := 26, ground := Ground.data }, { on := 9, ground := Ground.guard }], guard := some (9, true) }, { dst := some 156, op := Op.binOp BinOp.neq 4 (Operand.tmp 140) (Operand.tmp 155) 4, type := 4, pos := "outright.go:155", after := #[{ on := 12, ground := Ground.data }, { on := 27, ground := Ground.data }, { on := 9, ground := Ground.guard }], guard := some (9, true) }, { dst := some 157, op := Op.pick (Operand.tmp 137) (Operand.tmp 156) (Operand.const (Value.bool false)), type := 4, pos := "outright.go:155", after := #[{ on := 9, ground := Ground.data }, { on := 28, ground := Ground.data }], guard := none }] true).seq (Code.cond (Operand.tmp 157) ((Code.region 29 #[{ dst := some 4, op := Op.assign (Operand.const (Value.bool false)), type := 4, pos := "outright.go:156", after := #[], guard := none }] false).seq Code.ret) Code.skip)))).seq (Code.region 30 #[{ dst := some 158, op := Op.binOp BinOp.add 3 (Operand.tmp 124) (Operand.const (Value.int IntKind.i64 1)) 3, type := 3, pos := "outright.go:154", after := #[], guard := none }, { dst := some 124, op := Op.move (Operand.tmp 158), type := 3, pos := "outright.go:154", after := #[{ on := 0, ground := Ground.data }], guard := none }] false)))).loop)

set_option maxRecDepth 100000 in
set_option maxHeartbeats 16000000 in
theorem in_sides {x0 x2 x3 x4 x5 x6 x8 x10 x11 x12 x14 x15 x16 x17 x18 x19 x20 x21 x22 x23 x24 x25 x26 x27 x28 x29 x30 x31 x32 x33 x34 x35 x36 x37 x38 x39 x40 x41 x42 x43 x44 x45 x46 x47 x48 x49 x50 x51 x52 x53 x54 x55 x56 x57 x58 x59 x60 x61 x62 x63 x64 x65 x66 x67 x68 x69 x70 x71 x72 x73 x74 x75 x76 x77 x78 x79 x80 x81 x82 x83 x84 x85 x86 x87 x88 x89 x90 x91 x92 x93 x94 x95 x96 x97 x98 x99 x100 x101 x102 x103 x104 x105 x106 x107 x108 x109 x110 x111 x112 x113 x114 x115 x116 x117 x118 x119 x120 x121 x125 x126 x127 x128 x129 x130 x131 x132 x133 x134 x135 x136 x137 x138 x139 x140 x141 x142 x143 x144 x145 x146 x147 x148 x149 x150 x151 x152 x153 x154 x155 x156 x157 x158 x159 x160 x161 x162 x163 x164 x165 x166 x167 x168 x169 x170 x171 x172 x173 x174 x175 x176 x177 x178 x179 x180 x181 x182 x183 x184 x185 x186 x187 x188 x189 x190 x191 : Value} (so : Option Addr) (N p k n scap eb : Nat) (P : Nat → Int) (M : Nat → Nat) (IS : Nat → Bool) (w1 : World) (hN : N ≤ 40) (hk : k < N) (hn : n ≤ 1000) (HS : Hold (∀ j, j < n → P j < N ∧ (k ≠ p → P j ≠ p → (P j = -1 ∧ IS k = false) ∨ ∃ q : Nat, P j = q ∧ IS k = IS q))) (HR : Hold (SideRow eb n so P M w1)) (HE : Hold (TwAt eb IS w1)) :
    Code.wp Try.prog in_sidesBody (only fun a' w' => ∃ v : Nat → Value, a' = { tmps := List.toArray (x0 :: Value.int .i64 ((p : Nat)) :: x2 :: x3 :: v 4 :: x5 :: x6 :: Value.int .i64 ((N : Nat)) :: x8 :: Value.pointer (some ⟨eb, 0, none⟩) :: x10 :: x11 :: x12 :: Value.int .i64 ((k : Nat)) :: x14 :: x15 :: x16 :: v 17 :: x18 :: x19 :: x20 :: x21 :: x22 :: x23 :: x24 :: x25 :: x26 :: x27 :: x28 :: x29 :: x30 :: x31 :: x32 :: x33 :: x34 :: x35 :: x36 :: x37 :: x38 :: x39 :: x40 :: x41 :: x42 :: x43 :: x44 :: x45 :: x46 :: x47 :: x48 :: x49 :: x50 :: x51 :: x52 :: x53 :: x54 :: x55 :: x56 :: x57 :: x58 :: x59 :: x60 :: x61 :: x62 :: x63 :: x64 :: x65 :: x66 :: x67 :: x68 :: x69 :: x70 :: x71 :: x72 :: x73 :: x74 :: x75 :: x76 :: x77 :: x78 :: x79 :: x80 :: x81 :: x82 :: x83 :: x84 :: x85 :: x86 :: x87 :: x88 :: x89 :: x90 :: x91 :: x92 :: x93 :: x94 :: x95 :: x96 :: x97 :: x98 :: x99 :: x100 :: x101 :: x102 :: x103 :: x104 :: x105 :: x106 :: x107 :: x108 :: x109 :: x110 :: x111 :: x112 :: x113 :: x114 :: x115 :: x116 :: x117 :: x118 :: x119 :: x120 :: x121 :: Value.slice so n scap :: Value.int .i64 ((n : Nat)) :: v 124 :: v 125 :: v 126 :: v 127 :: v 128 :: v 129 :: v 130 :: v 131 :: v 132 :: v 133 :: v 134 :: v 135 :: v 136 :: v 137 :: v 138 :: v 139 :: v 140 :: v 141 :: v 142 :: v 143 :: v 144 :: v 145 :: v 146 :: v 147 :: v 148 :: v 149 :: v 150 :: v 151 :: v 152 :: v 153 :: v 154 :: v 155 :: v 156 :: v 157 :: v 158 :: x159 :: x160 :: x161 :: x162 :: x163 :: x164 :: x165 :: x166 :: x167 :: x168 :: x169 :: x170 :: x171 :: x172 :: x173 :: x174 :: x175 :: x176 :: x177 :: x178 :: x179 :: x180 :: x181 :: x182 :: x183 :: x184 :: x185 :: x186 :: x187 :: x188 :: x189 :: x190 :: x191 :: []), defers := [] } ∧ (Mod noB w1 w'))
      { tmps := List.toArray (x0 :: Value.int .i64 ((p : Nat)) :: x2 :: x3 :: x4 :: x5 :: x6 :: Value.int .i64 ((N : Nat)) :: x8 :: Value.pointer (some ⟨eb, 0, none⟩) :: x10 :: x11 :: x12 :: Value.int .i64 ((k : Nat)) :: x14 :: x15 :: x16 :: x17 :: x18 :: x19 :: x20 :: x21 :: x22 :: x23 :: x24 :: x25 :: x26 :: x27 :: x28 :: x29 :: x30 :: x31 :: x32 :: x33 :: x34 :: x35 :: x36 :: x37 :: x38 :: x39 :: x40 :: x41 :: x42 :: x43 :: x44 :: x45 :: x46 :: x47 :: x48 :: x49 :: x50 :: x51 :: x52 :: x53 :: x54 :: x55 :: x56 :: x57 :: x58 :: x59 :: x60 :: x61 :: x62 :: x63 :: x64 :: x65 :: x66 :: x67 :: x68 :: x69 :: x70 :: x71 :: x72 :: x73 :: x74 :: x75 :: x76 :: x77 :: x78 :: x79 :: x80 :: x81 :: x82 :: x83 :: x84 :: x85 :: x86 :: x87 :: x88 :: x89 :: x90 :: x91 :: x92 :: x93 :: x94 :: x95 :: x96 :: x97 :: x98 :: x99 :: x100 :: x101 :: x102 :: x103 :: x104 :: x105 :: x106 :: x107 :: x108 :: x109 :: x110 :: x111 :: x112 :: x113 :: x114 :: x115 :: x116 :: x117 :: x118 :: x119 :: x120 :: x121 :: Value.slice so n scap :: Value.int .i64 ((n : Nat)) :: Value.int .i64 (0) :: x125 :: x126 :: x127 :: x128 :: x129 :: x130 :: x131 :: x132 :: x133 :: x134 :: x135 :: x136 :: x137 :: x138 :: x139 :: x140 :: x141 :: x142 :: x143 :: x144 :: x145 :: x146 :: x147 :: x148 :: x149 :: x150 :: x151 :: x152 :: x153 :: x154 :: x155 :: x156 :: x157 :: x158 :: x159 :: x160 :: x161 :: x162 :: x163 :: x164 :: x165 :: x166 :: x167 :: x168 :: x169 :: x170 :: x171 :: x172 :: x173 :: x174 :: x175 :: x176 :: x177 :: x178 :: x179 :: x180 :: x181 :: x182 :: x183 :: x184 :: x185 :: x186 :: x187 :: x188 :: x189 :: x190 :: x191 :: []), defers := [] } w1 := by
  unfold in_sidesBody
  apply wp_block
  go_loopw [124] (fun i wr => ∃ j : Nat, j ≤ n ∧ i = .int .i64 j ∧ Hold (Mod noB w1 wr)) (fun i _ => n - (intOf i).toNat)
  case atStart => exact ⟨0, Nat.zero_le _, rfl, ⟨Mod.refl _ _⟩⟩
  case round =>
    obtain ⟨j, hj, rfl, HM⟩ := hrel
    by_cases hjn : j < n
    · have hI : (j : Int) < (n : Int) := by omega
      obtain ⟨q1, q2⟩ := HS.out j hjn
      obtain ⟨sb, rfl, hsb, hsz, hc⟩ := HR.out (by omega)
      have c0 := (cell_same (HM.out.block sb hsz id) _).trans (hc j hjn).1
      have c1 := (cell_same (HM.out.block sb hsz id) _).trans (hc j hjn).2
      clear hc hsb hsz
      generalize hP : P j = pj at *
      generalize M j = mj at *
      have hk40 : (k : Int) < 40 := by omega
      have hD : Hold (∀ (i : Nat) (o : Obj), i < 40 → wr.cell? ⟨eb, i, none⟩ = some (.bool (IS i)) ∧ (wr.alloc o).cell? ⟨eb, i, none⟩ = some (.bool (IS i))) := ⟨fun i o hi => ⟨(HE.out.mod HM.out).cell hi, (HE.out.mod (HM.out.alloc o)).cell hi⟩⟩
      by_cases hkp : k = p
      · have e1 : (k : Int) = (p : Int) := by omega
        clear q2 hP
        subst hkp
        go_wp2
        go_quiet (fail)
        go_wp2
        go_roundw
        case rel => exact ⟨j + 1, by omega, by go_num, ⟨(HM.out.alloc _).drewN _⟩⟩
        case measure => simp [intOf]; omega
      · have e1 : ¬ ((k : Int) = (p : Int)) := by omega
        have e2 : ((k : Int) != (p : Int)) = true := by simpa using e1
        by_cases hpp : pj = p
        · clear q2 hP
          subst hpp
          go_wp2
          go_quiet (fail)
          go_wp2
          go_roundw
          case rel => exact ⟨j + 1, by omega, by go_num, ⟨(HM.out.alloc _).drewN _⟩⟩
          case measure => simp [intOf]; omega
        · have e3 : (pj != (p : Int)) = true := by simpa using hpp
          rcases q2 hkp hpp with ⟨rfl, hf⟩ | ⟨q, rfl, hf⟩
          · have d0 := (hD.out k (.cells #[.int .i64 (-1), .int .i64 (mj : Nat)] 54) (by omega)).2
            rw [hf] at d0
            clear q1 q2 hP hf
            go_wp2
            go_quiet (fail)
            go_wp2
            go_roundw
            case rel => exact ⟨j + 1, by omega, by go_num, ⟨(HM.out.alloc _).drewN _⟩⟩
            case measure => simp [intOf]; omega
          · have d0 := (hD.out k (.cells #[.int .i64 (q : Int), .int .i64 (mj : Nat)] 54) (by omega)).2
            have d1 := (hD.out q (.cells #[.int .i64 (q : Int), .int .i64 (mj : Nat)] 54) (by omega)).2
            rw [hf] at d0
            have g1 : (0 : Int) ≤ (q : Int) := by omega
            have g2 : (q : Int) < 40 := by omega
            generalize IS q = b at *
            clear q2 hP hf
            cases b
            all_goals
              go_wp2
              go_quiet (fail)
              go_wp2
              go_roundw
              case rel => exact ⟨j + 1, by omega, by go_num, ⟨(HM.out.alloc _).drewN _⟩⟩
              case measure => simp [intOf]; omega
    · obtain rfl : j = n := by omega
      go_wp2
      first | exact ⟨rfl, end_frame _ _ _ rfl HM.out⟩ | exact ⟨rfl, end_frame2 _ _ rfl, HM.out⟩

end Go.Proofs.Ytogalmkeipigeaa

/- CutInside: the loop over all pieces. (Its code and frame: written by wip/tools.) -/
namespace Go.Proofs.Ytogalmkeipigeaa
open Go Go.RowKit Go.Shelf

@[reducible] def in_allBody : Code := (Code.block 2 (((Code.region 20 #[{ dst := some 109, op := Op.move (Operand.tmp 13), type := 3, pos := "outright.go:148", after := #[], guard := none }, { dst := some 110, op := Op.move (Operand.tmp 7), type := 3, pos := "outright.go:148", after := #[], guard := none }, { dst := some 111, op := Op.binOp BinOp.lss 3 (Operand.tmp 109) (Operand.tmp 110) 3, type := 4, pos := "outright.go:148", after := #[{ on := 0, ground := Ground.data }, { on := 1, ground := Ground.data }], guard := none }] false).seq (Code.cond (Operand.tmp 111) Code.skip (Code.exit 2))).seq ((Code.block 3 ((Code.region 22 #[{ dst := some 115, op := Op.load 24 (Operand.tmp 2), type := 24, pos := "outright.go:149", after := #[], guard := none }, { dst := some 116, op := Op.move (Operand.tmp 13), type := 3, pos := "outright.go:149", after := #[], guard := none }, { dst := some 117, op := Op.call { callee := Callee.value (Operand.func 16), args := #[Operand.tmp 115, Operand.tmp 116], argTypes := #[24, 3] }, type := 31, pos := "outright.go:149", after := #[{ on := 0, ground := Ground.data }, { on := 1, ground := Ground.data }], guard := none }, { dst := some 114, op := Op.move (Operand.tmp 117), type := 31, pos := "outright.go:149", after := #[{ on := 2, ground := Ground.data }], guard := none }, { dst := some 118, op := Op.extract (Operand.tmp 114) 0, type := 30, pos := "outright.go:149", after := #[{ on := 3, ground := Ground.data }], guard := none }, { dst := some 119, op := Op.extract (Operand.tmp 114) 1, type := 27, pos := "outright.go:149", after := #[{ on := 3, ground := Ground.data }, { on := 6, ground := Ground.gcOnly Go.Departure.lateStores }], guard := none }, { dst := some 14, op := Op.assign (Operand.tmp 118), type := 30, pos := "outright.go:149", after := #[{ on := 4, ground := Ground.data }, { on := 2, ground := Ground.chain }, { on := 0, ground := Ground.phase }, { on := 1, ground := Ground.phase }, { on := 2, ground := Ground.phase }, { on := 3, ground := Ground.phase }, { on := 4, ground := Ground.phase }, { on := 5, ground := Ground.textOnly Go.Departure.lateStores }], guard := none }, { dst := some 15, op := Op.assign (Operand.tmp 119), type := 27, pos := "outright.go:149", after := #[{ on := 5, ground := Ground.data }, { on := 6, ground := Ground.chain }, { on := 0, ground := Ground.phase }, { on := 1, ground := Ground.phase }, { on := 2, ground := Ground.phase }, { on := 3, ground := Ground.phase }, { on := 4, ground := Ground.phase }, { on := 5, ground := Ground.phase }, { on := 6, ground := Ground.phase }], guard := none }] false).seq (((Code.region 23 #[{ dst := some 120, op := Op.move (Operand.tmp 15), type := 27, pos := "outright.go:150", after := #[], guard := none }, { dst := some 121, op := Op.binOp BinOp.neq 27 (Operand.tmp 120) (Operand.const (Value.int IntKind.i64 0)) 27, type := 4, pos := "outright.go:150", after := #[{ on := 0, ground := Ground.data }], guard := none }] false).seq (Code.cond (Operand.tmp 121) ((Code.region 24 #[{ dst := some 4, op := Op.assign (Operand.const (Value.bool false)), type := 4, pos := "outright.go:151", after := #[], guard := none }] false).seq Code.ret) Code.skip)).seq (((Code.region 25 #[{ dst := some 122, op := Op.move (Operand.tmp 14), type := 30, pos := "outright.go:154", after := #[], guard := none }, { dst := some 123, op := Op.call { callee := Callee.builtin Builtin.len, args := #[Operand.tmp 122], argTypes := #[30] }, type := 3, pos := "outright.go:154", after := #[{ on := 0, ground := Ground.data }], guard := none }, { dst := some 124, op := Op.move (Operand.const (Value.int IntKind.i64 0)), type := 3, pos := "outright.go:154", after := #[], guard := none }] false).seq (Code.block 4 ((Code.region 26 #[{ dst := some 125, op := Op.binOp BinOp.lss 3 (Operand.tmp 124) (Operand.tmp 123) 3, type := 0, pos := "outright.go:154", after := #[], guard := none }] false).seq ((Code.cond (Operand.tmp 125) Code.skip (Code.exit 4)).seq ((Code.block 5 ((Code.region 27 #[{ dst := some 126, op := Op.indexAddr 30 (Operand.tmp 122) (Operand.tmp 124), type := 0, pos := "outright.go:154", after := #[], guard := none }, { dst := some 127, op := Op.load 54 (Operand.tmp 126), type := 54, pos := "outright.go:154", after := #[{ on := 0, ground := Ground.data }], guard := none }, { dst := some 17, op := Op.alloc 54, type := 0, pos := "outright.go:154", after := #[], guard := none }, { dst := none, op := Op.store 54 (Operand.tmp 17) (Operand.tmp 127), type := 0, pos := "outright.go:154", after := #[{ on := 2, ground := Ground.data }, { on := 1, ground := Ground.data }, { on := 0, ground := Ground.phase }, { on := 1, ground := Ground.phase }, { on := 2, ground := Ground.phase }], guard := none }] false).seq ((Code.region 28 #[{ dst := some 128, op := Op.move (Operand.tmp 13), type := 3, pos := "outright.go:155", after := #[], guard := none }, { dst := some 129, op := Op.move (Operand.tmp 1), type := 3, pos := "outright.go:155", after := #[], guard := none }, { dst := some 130, op := Op.binOp BinOp.neq 3 (Operand.tmp 128) (Operand.tmp 129) 3, type := 4, pos := "outright.go:155", after := #[{ on := 0, ground := Ground.data }, { on := 1, ground := Ground.data }], guard := none }, { dst := some 131, op := Op.move (Operand.tmp 130), type := 4, pos := "outright.go:155", after := #[{ on := 2, ground := Ground.data }], guard := none }, { dst := some 132, op := Op.fieldAddr 54 (Operand.tmp 17) 0, type := 0, pos := "outright.go:155", after := #[{ on := 3, ground := Ground.guard }], guard := some (3, true) }, { dst := some 133, op := Op.load 3 (Operand.tmp 132), type := 3, pos := "outright.go:155", after := #[{ on := 4, ground := Ground.data }, { on := 3, ground := Ground.guard }], guard := some (3, true) }, { dst := some 134, op := Op.move (Operand.tmp 1), type := 3, pos := "outright.go:155", after := #[{ on := 3, ground := Ground.guard }], guard := some (3, true) }, { dst := some 135, op := Op.binOp BinOp.neq 3 (Operand.tmp 133) (Operand.tmp 134) 3, type := 4, pos := "outright.go:155", after := #[{ on := 5, ground := Ground.data }, { on := 6, ground := Ground.data }, { on := 3, ground := Ground.guard }], guard := some (3, true) }, { dst := some 136, op := Op.pick (Operand.tmp 131) (Operand.tmp 135) (Operand.const (Value.bool false)), type := 4, pos := "outright.go:155", after := #[{ on := 3, ground := Ground.data }, { on := 7, ground := Ground.data }], guard := none }, { dst := some 137, op := Op.move (Operand.tmp 136), type := 4, pos := "outright.go:155", after := #[{ on := 8, ground := Ground.data }, { on := 3, ground := Ground.chain }], guard := none }, { dst := some 138, op := Op.move (Operand.tmp 13), type := 3, pos := "outright.go:155", after := #[{ on := 9, ground := Ground.guard }], guard := some (9, true) }, { dst := some 139, op := Op.indexAddr 59 (Operand.tmp 9) (Operand.tmp 138), type := 0, pos := "outright.go:155", after := #[{ on := 10, ground := Ground.data }, { on := 9, ground := Ground.guard }], guard := some (9, true) }, { dst := some 140, op := Op.load 4 (Operand.tmp 139), type := 4, pos := "outright.go:155", after := #[{ on := 11, ground := Ground.data }, { on := 9, ground := Ground.guard }], guard := some (9, true) }, { dst := some 141, op := Op.fieldAddr 54 (Operand.tmp 17) 0, type := 0, pos := "outright.go:155", after := #[{ on := 9, ground := Ground.guard }], guard := some (9, true) }, { dst := some 142, op := Op.load 3 (Operand.tmp 141), type := 3, pos := "outright.go:155", after := #[{ on := 13, ground := Ground.data }, { on := 9, ground := Ground.guard }], guard := some (9, true) }, { dst := some 143, op := Op.binOp BinOp.geq 3 (Operand.tmp 142) (Operand.const (Value.int IntKind.i64 0)) 3, type := 4, pos := "outright.go:155", after := #[{ on := 14, ground := Ground.data }, { on := 9, ground := Ground.guard }], guard := some (9, true) }, { dst := some 144, op := Op.move (Operand.tmp 143), type := 4, pos := "outright.go:155", after := #[{ on := 15, ground := Ground.data }, { on := 9, ground := Ground.chain }, { on := 9, ground := Ground.guard }], guard := some (9, true) }, { dst := some 145, op := Op.fieldAddr 54 (Operand.tmp 17) 0, type := 0, pos := "outright.go:155", after := #[{ on := 16, ground := Ground.guard }], guard := some (16, true) }, { dst := some 146, op := Op.load 3 (Operand.tmp 145), type := 3, pos := "outright.go:155", after := #[{ on := 17, ground := Ground.data }, { on := 16, ground := Ground.guard }], guard := some (16, true) }, { dst := some 147, op := Op.move (Operand.tmp 7), type := 3, pos := "outright.go:155", after := #[{ on := 16, ground := Ground.guard }], guard := some (16, true) }, { dst := some 148, op := Op.binOp BinOp.lss 3 (Operand.tmp 146) (Operand.tmp 147) 3, type := 4, pos := "outright.go:155", after := #[{ on := 18, ground := Ground.data }, { on := 19, ground := Ground.data }, { on := 16, ground := Ground.guard }], guard := some (16, true) }, { dst := some 149, op := Op.pick (Operand.tmp 144) (Operand.tmp 148) (Operand.const (Value.bool false)), type := 4, pos := "outright.go:155", after := #[{ on := 16, ground := Ground.data }, { on := 20, ground := Ground.data }, { on := 9, ground := Ground.guard }], guard := some (9, true) }, { dst := some 150, op := Op.move (Operand.tmp 149), type := 4, pos := "outright.go:155", after := #[{ on := 21, ground := Ground.data }, { on := 16, ground := Ground.chain }, { on := 9, ground := Ground.guard }], guard := some (9, true) }, { dst := some 151, op := Op.fieldAddr 54 (Operand.tmp 17) 0, type := 0, pos := "outright.go:155", after := #[{ on := 22, ground := Ground.guard }], guard := some (22, true) }, { dst := some 152, op := Op.load 3 (Operand.tmp 151), type := 3, pos := "outright.go:155", after := #[{ on := 23, ground := Ground.data }, { on := 22, ground := Ground.guard }], guard := some (22, true) }, { dst := some 153, op := Op.indexAddr 59 (Operand.tmp 9) (Operand.tmp 152), type := 0, pos := "outright.go:155", after := #[{ on := 24, ground := Ground.data }, { on := 22, ground := Ground.guard }], guard := some (22, true) }, { dst := some 154, op := Op.load 4 (Operand.tmp 153), type := 4, pos := "outright.go:155", after := #[{ on := 25, ground := Ground.data }, { on := 22, ground := Ground.guard }], guard := some (22, true) }, { dst := some 155, op := Op.pick (Operand.tmp 150) (Operand.tmp 154) (Operand.const (Value.bool false)), type := 4, pos := "outright.go:155", after := #[{ on := 22, ground := Ground.data }, { on := 26, ground := Ground.data }, { on := 9, ground := Ground.guard }], guard := some (9, true) }, { dst := some 156, op := Op.binOp BinOp.neq 4 (Operand.tmp 140) (Operand.tmp 155) 4, type := 4, pos := "outright.go:155", after := #[{ on := 12, ground := Ground.data }, { on := 27, ground := Ground.data }, { on := 9, ground := Ground.guard }], guard := some (9, true) }, { dst := some 157, op := Op.pick (Operand.tmp 137) (Operand.tmp 156) (Operand.const (Value.bool false)), type := 4, pos := "outright.go:155", after := #[{ on := 9, ground := Ground.data }, { on := 28, ground := Ground.data }], guard := none }] true).seq (Code.cond (Operand.tmp 157) ((Code.region 29 #[{ dst := some 4, op := Op.assign (Operand.const (Value.bool false)), type := 4, pos := "outright.go:156", after := #[], guard := none }] false).seq Code.ret) Code.skip)))).seq (Code.region 30 #[{ dst := some 158, op := Op.binOp BinOp.add 3 (Operand.tmp 124) (Operand.const (Value.int IntKind.i64 1)) 3, type := 3, pos := "outright.go:154", after := #[], guard := none }, { dst := some 124, op := Op.move (Operand.tmp 158), type := 3, pos := "outright.go:154", after := #[{ on := 0, ground := Ground.data }], guard := none }] false)))).loop)).seq (((Code.region 31 #[{ dst := some 159, op := Op.move (Operand.tmp 13), type := 3, pos := "outright.go:159", after := #[], guard := none }, { dst := some 160, op := Op.indexAddr 59 (Operand.tmp 9) (Operand.tmp 159), type := 0, pos := "outright.go:159", after := #[{ on := 0, ground := Ground.data }], guard := none }, { dst := some 161, op := Op.load 4 (Operand.tmp 160), type := 4, pos := "outright.go:159", after := #[{ on := 1, ground := Ground.data }], guard := none }, { dst := some 162, op := Op.unOp UnOp.not 4 (Operand.tmp 161), type := 4, pos := "outright.go:159", after := #[{ on := 2, ground := Ground.data }], guard := none }] false).seq (Code.cond (Operand.tmp 162) (Code.exit 3) Code.skip)).seq ((Code.region 32 #[{ dst := some 164, op := Op.load 24 (Operand.tmp 2), type := 24, pos := "outright.go:162", after := #[], guard := none }, { dst := some 165, op := Op.move (Operand.tmp 13), type := 3, pos := "outright.go:162", after := #[], guard := none }, { dst := some 166, op := Op.call { callee := Callee.value (Operand.func 18), args := #[Operand.tmp 164, Operand.tmp 165], argTypes := #[24, 3] }, type := 33, pos := "outright.go:162", after := #[{ on := 0, ground := Ground.data }, { on := 1, ground := Ground.data }], guard := none }, { dst := some 163, op := Op.move (Operand.tmp 166), type := 33, pos := "outright.go:162", after := #[{ on := 2, ground := Ground.data }], guard := none }, { dst := some 167, op := Op.extract (Operand.tmp 163) 0, type := 22, pos := "outright.go:162", after := #[{ on := 3, ground := Ground.data }], guard := none }, { dst := some 168, op := Op.extract (Operand.tmp 163) 1, type := 27, pos := "outright.go:162", after := #[{ on := 3, ground := Ground.data }, { on := 6, ground := Ground.gcOnly Go.Departure.lateStores }], guard := none }, { dst := some 18, op := Op.assign (Operand.tmp 167), type := 22, pos := "outright.go:162", after := #[{ on := 4, ground := Ground.data }, { on := 2, ground := Ground.chain }, { on := 0, ground := Ground.phase }, { on := 1, ground := Ground.phase }, { on := 2, ground := Ground.phase }, { on := 3, ground := Ground.phase }, { on := 4, ground := Ground.phase }, { on := 5, ground := Ground.textOnly Go.Departure.lateStores }], guard := none }, { dst := some 19, op := Op.assign (Operand.tmp 168), type := 27, pos := "outright.go:162", after := #[{ on := 5, ground := Ground.data }, { on := 6, ground := Ground.chain }, { on := 0, ground := Ground.phase }, { on := 1, ground := Ground.phase }, { on := 2, ground := Ground.phase }, { on := 3, ground := Ground.phase }, { on := 4, ground := Ground.phase }, { on := 5, ground := Ground.phase }, { on := 6, ground := Ground.phase }], guard := none }] false).seq (((Code.region 33 #[{ dst := some 169, op := Op.move (Operand.tmp 19), type := 27, pos := "outright.go:163", after := #[], guard := none }, { dst := some 170, op := Op.binOp BinOp.neq 27 (Operand.tmp 169) (Operand.const (Value.int IntKind.i64 0)) 27, type := 4, pos := "outright.go:163", after := #[{ on := 0, ground := Ground.data }], guard := none }] false).seq (Code.cond (Operand.tmp 170) ((Code.region 34 #[{ dst := some 4, op := Op.assign (Operand.const (Value.bool false)), type := 4, pos := "outright.go:164", after := #[], guard := none }] false).seq Code.ret) Code.skip)).seq ((Code.region 35 #[{ dst := some 171, op := Op.move (Operand.tmp 18), type := 22, pos := "outright.go:166", after := #[], guard := none }, { dst := some 172, op := Op.call { callee := Callee.builtin Builtin.len, args := #[Operand.tmp 171], argTypes := #[22] }, type := 3, pos := "outright.go:166", after := #[{ on := 0, ground := Ground.data }], guard := none }, { dst := some 173, op := Op.move (Operand.const (Value.int IntKind.i64 0)), type := 3, pos := "outright.go:166", after := #[], guard := none }] false).seq (Code.block 6 ((Code.region 36 #[{ dst := some 174, op := Op.binOp BinOp.lss 3 (Operand.tmp 173) (Operand.tmp 172) 3, type := 0, pos := "outright.go:166", after := #[], guard := none }] false).seq ((Code.cond (Operand.tmp 174) Code.skip (Code.exit 6)).seq ((Code.block 7 ((Code.region 37 #[{ dst := some 175, op := Op.indexAddr 22 (Operand.tmp 171) (Operand.tmp 173), type := 0, pos := "outright.go:166", after := #[], guard := none }, { dst := some 176, op := Op.load 3 (Operand.tmp 175), type := 3, pos := "outright.go:166", after := #[{ on := 0, ground := Ground.data }], guard := none }, { dst := some 21, op := Op.assign (Operand.tmp 176), type := 3, pos := "outright.go:166", after := #[{ on := 1, ground := Ground.data }, { on := 0, ground := Ground.phase }, { on := 1, ground := Ground.phase }], guard := none }] false).seq ((Code.region 38 #[{ dst := some 177, op := Op.move (Operand.tmp 21), type := 3, pos := "outright.go:167", after := #[], guard := none }, { dst := some 178, op := Op.binOp BinOp.lss 3 (Operand.tmp 177) (Operand.const (Value.int IntKind.i64 0)) 3, type := 4, pos := "outright.go:167", after := #[{ on := 0, ground := Ground.data }], guard := none }, { dst := some 179, op := Op.move (Operand.tmp 178), type := 4, pos := "outright.go:167", after := #[{ on := 1, ground := Ground.data }], guard := none }, { dst := some 180, op := Op.move (Operand.tmp 21), type := 3, pos := "outright.go:167", after := #[{ on := 2, ground := Ground.guard }], guard := some (2, false) }, { dst := some 181, op := Op.move (Operand.tmp 7), type := 3, pos := "outright.go:167", after := #[{ on := 2, ground := Ground.guard }], guard := some (2, false) }, { dst := some 182, op := Op.binOp BinOp.geq 3 (Operand.tmp 180) (Operand.tmp 181) 3, type := 4, pos := "outright.go:167", after := #[{ on := 3, ground := Ground.data }, { on := 4, ground := Ground.data }, { on := 2, ground := Ground.guard }], guard := some (2, false) }, { dst := some 183, op := Op.pick (Operand.tmp 179) (Operand.const (Value.bool true)) (Operand.tmp 182), type := 4, pos := "outright.go:167", after := #[{ on := 2, ground := Ground.data }, { on := 5, ground := Ground.data }], guard := none }, { dst := some 184, op := Op.move (Operand.tmp 183), type := 4, pos := "outright.go:167", after := #[{ on := 6, ground := Ground.data }, { on := 2, ground := Ground.chain }], guard := none }, { dst := some 185, op := Op.move (Operand.tmp 21), type := 3, pos := "outright.go:167", after := #[{ on := 7, ground := Ground.guard }], guard := some (7, false) }, { dst := some 186, op := Op.indexAddr 59 (Operand.tmp 9) (Operand.tmp 185), type := 0, pos := "outright.go:167", after := #[{ on := 8, ground := Ground.data }, { on := 7, ground := Ground.guard }], guard := some (7, false) }, { dst := some 187, op := Op.load 4 (Operand.tmp 186), type := 4, pos := "outright.go:167", after := #[{ on := 9, ground := Ground.data }, { on := 7, ground := Ground.guard }], guard := some (7, false) }, { dst := some 188, op := Op.unOp UnOp.not 4 (Operand.tmp 187), type := 4, pos := "outright.go:167", after := #[{ on := 10, ground := Ground.data }, { on := 7, ground := Ground.guard }], guard := some (7, false) }, { dst := some 189, op := Op.pick (Operand.tmp 184) (Operand.const (Value.bool true)) (Operand.tmp 188), type := 4, pos := "outright.go:167", after := #[{ on := 7, ground := Ground.data }, { on := 11, ground := Ground.data }], guard := none }] false).seq (Code.cond (Operand.tmp 189) ((Code.region 39 #[{ dst := some 4, op := Op.assign (Operand.const (Value.bool false)), type := 4, pos := "outright.go:168", after := #[], guard := none }] false).seq Code.ret) Code.skip)))).seq (Code.region 40 #[{ dst := some 190, op := Op.binOp BinOp.add 3 (Operand.tmp 173) (Operand.const (Value.int IntKind.i64 1)) 3, type := 3, pos := "outright.go:166", after := #[], guard := none }, { dst := some 173, op := Op.move (Operand.tmp 190), type := 3, pos := "outright.go:166", after := #[{ on := 0, ground := Ground.data }], guard := none }] false)))).loop))))))))).seq (Code.region 21 #[{ dst := some 112, op := Op.move (Operand.tmp 13), type := 3, pos := "outright.go:148", after := #[], guard := none }, { dst := some 113, op := Op.binOp BinOp.add 3 (Operand.tmp 112) (Operand.const (Value.int IntKind.i64 1)) 3, type := 3, pos := "outright.go:148", after := #[{ on := 0, ground := Ground.data }], guard := none }, { dst := some 13, op := Op.assign (Operand.tmp 113), type := 3, pos := "outright.go:148", after := #[{ on := 1, ground := Ground.data }, { on := 0, ground := Ground.phase }, { on := 1, ground := Ground.phase }], guard := none }] false))).loop)

set_option maxRecDepth 100000 in
set_option maxHeartbeats 16000000 in
theorem in_all {x0 x3 x4 x5 x6 x8 x10 x11 x12 x14 x15 x16 x17 x18 x19 x20 x21 x22 x23 x24 x25 x26 x27 x28 x29 x30 x31 x32 x33 x34 x35 x36 x37 x38 x39 x40 x41 x42 x43 x44 x45 x46 x47 x48 x49 x50 x51 x52 x53 x54 x55 x56 x57 x58 x59 x60 x61 x62 x63 x64 x65 x66 x67 x68 x69 x70 x71 x72 x73 x74 x75 x76 x77 x78 x79 x80 x81 x82 x83 x84 x85 x86 x87 x88 x89 x90 x91 x92 x93 x94 x95 x96 x97 x98 x99 x100 x101 x102 x103 x104 x105 x106 x107 x108 x109 x110 x111 x112 x113 x114 x115 x116 x117 x118 x119 x120 x121 x122 x123 x124 x125 x126 x127 x128 x129 x130 x131 x132 x133 x134 x135 x136 x137 x138 x139 x140 x141 x142 x143 x144 x145 x146 x147 x148 x149 x150 x151 x152 x153 x154 x155 x156 x157 x158 x159 x160 x161 x162 x163 x164 x165 x166 x167 x168 x169 x170 x171 x172 x173 x174 x175 x176 x177 x178 x179 x180 x181 x182 x183 x184 x185 x186 x187 x188 x189 x190 x191 : Value} (W H : Nat) (ao : Option Addr) (zs : List Int) (cap N p eb cb : Nat) (n : Nat → Nat) (P : Nat → Nat → Int) (M : Nat → Nat → Nat) (IS : Nat → Bool) (w1 : World) (hN : N ≤ 40) (HFB : Hold (∀ W', Mod noB w1 W' → W'.heap[cb]? = some (.cells #[.int .i64 W, .int .i64 H, .slice ao zs.length cap] 24) ∧ IntsAt W' ao zs))
    (H16 : Hold (∀ (k : Nat) (W' : World), k < N → IntsAt W' ao zs → eb < W'.heap.size → Calls Try.prog 16 #[cutV W H ao zs.length cap, .int .i64 k] W' fun e w' => ∃ so scap, e = .returned (.tuple #[.slice so (n k) scap, .int .i64 0]) ∧ SideRow eb (n k) so (P k) (M k) w' ∧ Mod noB W' w'))
    (H18 : Hold (∀ (k : Nat) (W' : World), k < N → IS k = true → IntsAt W' ao zs → eb < W'.heap.size → Calls Try.prog 18 #[cutV W H ao zs.length cap, .int .i64 k] W' fun e w' => ∃ so scap m Q, e = .returned (.tuple #[.slice so m scap, .int .i64 0]) ∧ (NumRow eb m so Q w' ∧ m ≤ 1000 ∧ ∀ j, j < m → Q j < N ∧ IS (Q j) = true) ∧ Mod noB W' w'))
    (HS : Hold (∀ k, k < N → n k ≤ 1000 ∧ ∀ j, j < n k → P k j < N ∧ (k ≠ p → P k j ≠ p → (P k j = -1 ∧ IS k = false) ∨ ∃ q : Nat, P k j = q ∧ IS k = IS q)))
    (HE : Hold (TwAt eb IS w1)) :
    Code.wp Try.prog in_allBody (only fun a' w' => ∃ v : Nat → Value, a' = { tmps := List.toArray (x0 :: Value.int .i64 ((p : Nat)) :: Value.pointer (some ⟨cb, 0, none⟩) :: x3 :: v 4 :: x5 :: x6 :: Value.int .i64 ((N : Nat)) :: x8 :: Value.pointer (some ⟨eb, 0, none⟩) :: x10 :: x11 :: x12 :: v 13 :: v 14 :: v 15 :: x16 :: v 17 :: v 18 :: v 19 :: x20 :: v 21 :: x22 :: x23 :: x24 :: x25 :: x26 :: x27 :: x28 :: x29 :: x30 :: x31 :: x32 :: x33 :: x34 :: x35 :: x36 :: x37 :: x38 :: x39 :: x40 :: x41 :: x42 :: x43 :: x44 :: x45 :: x46 :: x47 :: x48 :: x49 :: x50 :: x51 :: x52 :: x53 :: x54 :: x55 :: x56 :: x57 :: x58 :: x59 :: x60 :: x61 :: x62 :: x63 :: x64 :: x65 :: x66 :: x67 :: x68 :: x69 :: x70 :: x71 :: x72 :: x73 :: x74 :: x75 :: x76 :: x77 :: x78 :: x79 :: x80 :: x81 :: x82 :: x83 :: x84 :: x85 :: x86 :: x87 :: x88 :: x89 :: x90 :: x91 :: x92 :: x93 :: x94 :: x95 :: x96 :: x97 :: x98 :: x99 :: x100 :: x101 :: x102 :: x103 :: x104 :: x105 :: x106 :: x107 :: x108 :: v 109 :: v 110 :: v 111 :: v 112 :: v 113 :: v 114 :: v 115 :: v 116 :: v 117 :: v 118 :: v 119 :: v 120 :: v 121 :: v 122 :: v 123 :: v 124 :: v 125 :: v 126 :: v 127 :: v 128 :: v 129 :: v 130 :: v 131 :: v 132 :: v 133 :: v 134 :: v 135 :: v 136 :: v 137 :: v 138 :: v 139 :: v 140 :: v 141 :: v 142 :: v 143 :: v 144 :: v 145 :: v 146 :: v 147 :: v 148 :: v 149 :: v 150 :: v 151 :: v 152 :: v 153 :: v 154 :: v 155 :: v 156 :: v 157 :: v 158 :: v 159 :: v 160 :: v 161 :: v 162 :: v 163 :: v 164 :: v 165 :: v 166 :: v 167 :: v 168 :: v 169 :: v 170 :: v 171 :: v 172 :: v 173 :: v 174 :: v 175 :: v 176 :: v 177 :: v 178 :: v 179 :: v 180 :: v 181 :: v 182 :: v 183 :: v 184 :: v 185 :: v 186 :: v 187 :: v 188 :: v 189 :: v 190 :: x191 :: []), defers := [] } ∧ (Mod noB w1 w'))
      { tmps := List.toArray (x0 :: Value.int .i64 ((p : Nat)) :: Value.pointer (some ⟨cb, 0, none⟩) :: x3 :: x4 :: x5 :: x6 :: Value.int .i64 ((N : Nat)) :: x8 :: Value.pointer (some ⟨eb, 0, none⟩) :: x10 :: x11 :: x12 :: Value.int .i64 (0) :: x14 :: x15 :: x16 :: x17 :: x18 :: x19 :: x20 :: x21 :: x22 :: x23 :: x24 :: x25 :: x26 :: x27 :: x28 :: x29 :: x30 :: x31 :: x32 :: x33 :: x34 :: x35 :: x36 :: x37 :: x38 :: x39 :: x40 :: x41 :: x42 :: x43 :: x44 :: x45 :: x46 :: x47 :: x48 :: x49 :: x50 :: x51 :: x52 :: x53 :: x54 :: x55 :: x56 :: x57 :: x58 :: x59 :: x60 :: x61 :: x62 :: x63 :: x64 :: x65 :: x66 :: x67 :: x68 :: x69 :: x70 :: x71 :: x72 :: x73 :: x74 :: x75 :: x76 :: x77 :: x78 :: x79 :: x80 :: x81 :: x82 :: x83 :: x84 :: x85 :: x86 :: x87 :: x88 :: x89 :: x90 :: x91 :: x92 :: x93 :: x94 :: x95 :: x96 :: x97 :: x98 :: x99 :: x100 :: x101 :: x102 :: x103 :: x104 :: x105 :: x106 :: x107 :: x108 :: x109 :: x110 :: x111 :: x112 :: x113 :: x114 :: x115 :: x116 :: x117 :: x118 :: x119 :: x120 :: x121 :: x122 :: x123 :: x124 :: x125 :: x126 :: x127 :: x128 :: x129 :: x130 :: x131 :: x132 :: x133 :: x134 :: x135 :: x136 :: x137 :: x138 :: x139 :: x140 :: x141 :: x142 :: x143 :: x144 :: x145 :: x146 :: x147 :: x148 :: x149 :: x150 :: x151 :: x152 :: x153 :: x154 :: x155 :: x156 :: x157 :: x158 :: x159 :: x160 :: x161 :: x162 :: x163 :: x164 :: x165 :: x166 :: x167 :: x168 :: x169 :: x170 :: x171 :: x172 :: x173 :: x174 :: x175 :: x176 :: x177 :: x178 :: x179 :: x180 :: x181 :: x182 :: x183 :: x184 :: x185 :: x186 :: x187 :: x188 :: x189 :: x190 :: x191 :: []), defers := [] } w1 := by
  unfold in_allBody
  apply wp_block
  go_loopw [13] (fun i wr => ∃ k : Nat, k ≤ N ∧ i = .int .i64 k ∧ Hold (Mod noB w1 wr)) (fun i _ => N - (intOf i).toNat)
  case atStart => exact ⟨0, Nat.zero_le _, rfl, ⟨Mod.refl _ _⟩⟩
  case round =>
    obtain ⟨k, hk, rfl, HQ⟩ := hrel
    by_cases hkN : k < N
    · have hI : (k : Int) < (N : Int) := by omega
      have HK : Hold (k < N) := ⟨hkN⟩
      have HS1 := Hold.mk (HS.out k hkN)
      have H16' := Hold.mk (fun W' => H16.out k W' HK.out)
      have HF1 : Hold (wr.heap[cb]? = some (.cells #[.int .i64 W, .int .i64 H, .slice ao zs.length cap] 24) ∧ IntsAt wr ao zs ∧ eb < wr.heap.size) := ⟨(HFB.out wr HQ.out).1, (HFB.out wr HQ.out).2, (Array.getElem?_eq_some_iff.1 (HE.out.mod HQ.out)).1⟩
      go_upto_block 4 with (first
        | (refine wpList_load_row rfl 24 (.tmp 2) rfl cb rfl 24 _ (0, 0) _ HF1.out.1 Try.underlying24 rfl info24w ?_)
        | (go_at_call 16; refine (H16'.out wr HF1.out.2.1 HF1.out.2.2).mono ?_; rintro e w3 ⟨so, scap, rfl, hR, hM⟩; have HR3 := Hold.mk (And.intro hR (HQ.out.trans hM)); clear hR hM))
      refine wp_mono (in_sides so N p k (n k) scap eb (P k) (M k) IS w3 hN hkN HS1.out.1 ⟨HS1.out.2⟩ ⟨HR3.out.1⟩ ⟨HE.out.mod HR3.out.2⟩) (then_only ?_)
      rintro a' w4 ⟨v, rfl, hm⟩
      have HM4 : Hold (Mod noB w1 w4) := ⟨HR3.out.2.trans hm⟩
      have HF4 : Hold (w4.heap[cb]? = some (.cells #[.int .i64 W, .int .i64 H, .slice ao zs.length cap] 24) ∧ IntsAt w4 ao zs ∧ eb < w4.heap.size) := ⟨(HFB.out w4 HM4.out).1, (HFB.out w4 HM4.out).2, (Array.getElem?_eq_some_iff.1 (HE.out.mod HM4.out)).1⟩
      clear hm HR3 HF1 H16'
      have hk40 : (k : Int) < 40 := by omega
      have d0 := (HE.out.mod HM4.out).cell (i := k) (by omega)
      obtain ⟨b, hb⟩ : ∃ b, IS k = b := ⟨_, rfl⟩
      rw [hb] at d0
      cases b
      · clear hb
        go_wp2
        go_roundw
        case rel => exact ⟨k + 1, by omega, by go_num, HM4⟩
        case measure => simp [intOf]; omega
      · have H18' := Hold.mk (fun W' => H18.out k W' HK.out hb)
        clear hb
        go_upto_block 6 with (first
          | (refine wpList_load_row rfl 24 (.tmp 2) rfl cb rfl 24 _ (0, 0) _ HF4.out.1 Try.underlying24 rfl info24w ?_)
          | (go_at_call 18; refine (H18'.out w4 HF4.out.2.1 HF4.out.2.2).mono ?_; rintro e w5 ⟨so2, scap2, m, Q, rfl, hR, hM⟩; have HR5 := Hold.mk (And.intro hR (HM4.out.trans hM)); clear hR hM))
        refine wp_mono (in_in so2 N m scap2 eb Q IS w5 hN HR5.out.1.2.1 ⟨HR5.out.1.2.2⟩ ⟨HR5.out.1.1⟩ ⟨HE.out.mod HR5.out.2⟩) (blk_only ?_)
        rintro a' w6 ⟨v2, rfl, hm⟩
        have HM6 : Hold (Mod noB w1 w6) := ⟨HR5.out.2.trans hm⟩
        clear hm HR5
        go_wp2
        go_roundw
        case rel => exact ⟨k + 1, by omega, by go_num, HM6⟩
        case measure => simp [intOf]; omega
    · obtain rfl : k = N := by omega
      go_wp2
      first | exact ⟨rfl, end_frame _ _ _ rfl HQ.out⟩ | exact ⟨rfl, end_frame2 _ _ rfl, HQ.out⟩

end Go.Proofs.Ytogalmkeipigeaa

/- CutInside: its walk. -/
namespace Go.Proofs.Ytogalmkeipigeaa
open Go Go.RowKit Go.Shelf

set_option maxRecDepth 100000 in
set_option maxHeartbeats 2000000 in
/-- What has too many numbers is no cut. -/
theorem refCut_far (W H : Int) (ao : Option Addr) (n cap : Nat) (w : World) (hn : 288 < n) :
    Calls Try.prog 30 #[cutV W H ao n cap] w fun e w' => e = .returned (.bool false) ∧ Mod noB w w' := by
  by_cases h1 : 1 ≤ W ∧ W ≤ 12
  · have Hin := Hold.mk (in_is W 1 12 true (by simp; omega))
    by_cases h2 : 1 ≤ H ∧ H ≤ 12
    · have Hin2 := Hold.mk (in_is H 1 12 true (by simp; omega))
      obtain ⟨w1, w2⟩ := h1
      obtain ⟨h1, h2⟩ := h2
      have m1 : 0 ≤ W * H := Int.mul_nonneg (by omega) (by omega)
      have m2 : W * H ≤ 12 * 12 := Int.mul_le_mul (by omega) (by omega) (by omega) (by omega)
      have m3 : -9223372036854775808 ≤ W * H := by omega
      have m4 : W * H ≤ 9223372036854775807 := by omega
      have h5 : ¬ (n : Int) = W * H := by omega
      have h5' : ((n : Int) != W * H) = true := by simpa using h5
      clear h5
      go_enter Try.func30, Try.ntmps30
      go_wp2_with (first
        | (go_at_call 59; refine (Hin.out _).mono ?_; rintro e w' ⟨rfl, rfl⟩; clear Hin)
        | (go_at_call 59; refine (Hin2.out _).mono ?_; rintro e w' ⟨rfl, rfl⟩))
      go_ret
      exact ⟨rfl, (Mod.refl _ _).alloc _⟩
    · have Hin2 := Hold.mk (in_is H 1 12 false (by simp; omega))
      obtain ⟨w1, w2⟩ := h1
      clear h2
      go_enter Try.func30, Try.ntmps30
      go_wp2_with (first
        | (go_at_call 59; refine (Hin.out _).mono ?_; rintro e w' ⟨rfl, rfl⟩; clear Hin)
        | (go_at_call 59; refine (Hin2.out _).mono ?_; rintro e w' ⟨rfl, rfl⟩))
      go_ret
      exact ⟨rfl, (Mod.refl _ _).alloc _⟩
  · have Hin := Hold.mk (in_is W 1 12 false (by simp; omega))
    clear h1
    go_enter Try.func30, Try.ntmps30
    go_wp2_with (go_at_call 59; refine (Hin.out _).mono ?_; rintro e w' ⟨rfl, rfl⟩)
    go_ret
    exact ⟨rfl, (Mod.refl _ _).alloc _⟩

set_option maxRecDepth 100000 in
set_option maxHeartbeats 4000000 in
/-- What is no cut. -/
theorem inside_nocut (W H : Int) (ao : Option Addr) (n cap : Nat) (p : Int) (w : World) (h : ∀ w1, Mod noB (w.alloc (.cells #[.int .i64 W, .int .i64 H, .slice ao n cap] 24)) w1 → Calls Try.prog 30 #[cutV W H ao n cap] w1 fun e w' => e = .returned (.bool false) ∧ Mod noB w1 w') :
    Calls Try.prog 8 #[cutV W H ao n cap, .int .i64 p] w fun e w' => e = .returned (.bool true) ∧ Mod noB w w' := by
  have HM0 := Hold.mk ((Mod.refl noB w).alloc (.cells #[.int .i64 W, .int .i64 H, .slice ao n cap] 24))
  have HO := Hold.mk (h _ (Mod.refl _ _))
  clear h
  go_enter Try.func8, Try.ntmps8
  go_wp2_with (first
    | (go_at_call 30; refine HO.out.mono ?_; rintro e w1 ⟨rfl, hM⟩; have HM1 := Hold.mk hM; clear hM)
    | (go_at_call 13; refine (awake_any _).mono ?_; rintro e w2 ⟨rfl, hM⟩; have HM2 := Hold.mk hM; clear hM))
  go_ret
  exact ⟨rfl, (HM0.out.trans HM1.out).trans HM2.out⟩

set_option maxRecDepth 100000 in
set_option maxHeartbeats 4000000 in
/-- A cut that is not whole, or no such piece. -/
theorem inside_err (W H : Int) (ao : Option Addr) (zs : List Int) (cap : Nat) (p : Int) (w : World) (hs : IntsAt w ao zs) (hb : isCutB W H zs = true) (er : Int)
    (he : ((checkR W H zs).2 = er ∧ er ≠ 0) ∨ (checkR W H zs = (((many zs : Nat) : Int), 0) ∧ er = 2 ∧ ¬ (0 ≤ p ∧ p < many zs)))
    (h18 : ∀ w1, IntsAt w1 ao zs → Calls Try.prog 18 #[cutV W H ao zs.length cap, .int .i64 p] w1 fun e w' => e = .returned (.tuple #[.slice none 0 0, .int .i64 er]) ∧ Mod noB w1 w') :
    Calls Try.prog 8 #[cutV W H ao zs.length cap, .int .i64 p] w fun e w' => e = .returned (.bool true) ∧ Mod noB w w' := by
  have HB := Hold.mk (box_facts (W := W) (H := H) (cap := cap) hs)
  have HM0 := Hold.mk ((Mod.refl noB w).alloc (.cells #[.int .i64 W, .int .i64 H, .slice ao zs.length cap] 24))
  have HD : Hold (∀ w1, IntsAt w1 ao zs → Calls Try.prog 30 #[cutV W H ao zs.length cap] w1 fun e w' => e = .returned (.bool true) ∧ Mod noB w1 w') := ⟨fun w1 hi => by
    have := refCut_any W H ao zs cap w1 hi
    rw [hb] at this
    exact this⟩
  have HI := Hold.mk h18
  have HC := Hold.mk (fun w1 => check_any W H ao zs cap w1)
  clear hs hb h18
  rcases he with ⟨he, h0⟩ | ⟨he, rfl, hp⟩
  · rw [he] at HC
    generalize (checkR W H zs).1 = k1 at *
    have h1 : (er != 0) = true := by simpa using h0
    clear he
    go_enter Try.func8, Try.ntmps8
    go_wp2_with (first
      | (go_at_call 30; refine (HD.out _ (HB.out _ (Mod.refl _ _)).2.2.2).mono ?_; rintro e w1 ⟨rfl, hM⟩; obtain ⟨c0, c1, c2, hI⟩ := HB.out _ hM; have HW1 := Hold.mk (And.intro hM hI); clear hM hI HD)
      | (go_at_call 18; refine (HI.out w1 HW1.out.2).mono ?_; rintro e w2 ⟨rfl, hM⟩; clear c0 c1 c2; obtain ⟨c0, c1, c2, hI⟩ := HB.out _ (HW1.out.1.trans hM); have HW2 := Hold.mk (And.intro (HW1.out.1.trans hM) hI); clear hM hI HI)
      | (go_at_call 14; refine (HC.out w2 HW2.out.2).mono ?_; rintro e w3 ⟨rfl, hM⟩; have HW3 := Hold.mk (HW2.out.1.trans hM); clear hM HC)
      | (go_at_call 13; refine (awake_any _).mono ?_; rintro e w4 ⟨rfl, hM⟩; have HW4 := Hold.mk hM; clear hM))
    all_goals go_ret
    all_goals exact ⟨rfl, HM0.out.trans (HW3.out.trans HW4.out)⟩
  · rw [he] at HC
    generalize many zs = N at *
    clear he
    have hp2 : p < 0 ∨ (N : Int) ≤ p := by omega
    clear hp
    by_cases hp0 : p < 0
    · clear hp2
      go_enter Try.func8, Try.ntmps8
      go_wp2_with (first
        | (go_at_call 30; refine (HD.out _ (HB.out _ (Mod.refl _ _)).2.2.2).mono ?_; rintro e w1 ⟨rfl, hM⟩; obtain ⟨c0, c1, c2, hI⟩ := HB.out _ hM; have HW1 := Hold.mk (And.intro hM hI); clear hM hI HD)
        | (go_at_call 18; refine (HI.out w1 HW1.out.2).mono ?_; rintro e w2 ⟨rfl, hM⟩; clear c0 c1 c2; obtain ⟨c0, c1, c2, hI⟩ := HB.out _ (HW1.out.1.trans hM); have HW2 := Hold.mk (And.intro (HW1.out.1.trans hM) hI); clear hM hI HI)
        | (go_at_call 14; refine (HC.out w2 HW2.out.2).mono ?_; rintro e w3 ⟨rfl, hM⟩; have HW3 := Hold.mk (HW2.out.1.trans hM); clear hM HC)
        | (go_at_call 13; refine (awake_any _).mono ?_; rintro e w4 ⟨rfl, hM⟩; have HW4 := Hold.mk hM; clear hM))
      all_goals go_ret
      all_goals exact ⟨rfl, HM0.out.trans (HW3.out.trans HW4.out)⟩
    · have hp3 : (N : Int) ≤ p := by omega
      clear hp2
      go_enter Try.func8, Try.ntmps8
      go_wp2_with (first
        | (go_at_call 30; refine (HD.out _ (HB.out _ (Mod.refl _ _)).2.2.2).mono ?_; rintro e w1 ⟨rfl, hM⟩; obtain ⟨c0, c1, c2, hI⟩ := HB.out _ hM; have HW1 := Hold.mk (And.intro hM hI); clear hM hI HD)
        | (go_at_call 18; refine (HI.out w1 HW1.out.2).mono ?_; rintro e w2 ⟨rfl, hM⟩; clear c0 c1 c2; obtain ⟨c0, c1, c2, hI⟩ := HB.out _ (HW1.out.1.trans hM); have HW2 := Hold.mk (And.intro (HW1.out.1.trans hM) hI); clear hM hI HI)
        | (go_at_call 14; refine (HC.out w2 HW2.out.2).mono ?_; rintro e w3 ⟨rfl, hM⟩; have HW3 := Hold.mk (HW2.out.1.trans hM); clear hM HC)
        | (go_at_call 13; refine (awake_any _).mono ?_; rintro e w4 ⟨rfl, hM⟩; have HW4 := Hold.mk hM; clear hM))
      all_goals go_ret
      all_goals exact ⟨rfl, HM0.out.trans (HW3.out.trans HW4.out)⟩
end Go.Proofs.Ytogalmkeipigeaa

/- CutInside: a piece of a cut that is whole. -/
namespace Go.Proofs.Ytogalmkeipigeaa
open Go Go.RowKit Go.Shelf

/-- Who can be reached from the border without the piece. -/
noncomputable def outB (g : Int × Int → Option Int) (W H : Nat) (p : Int) (N : Nat) : Nat → Bool := fun j => @decide (OutsP g W H p N j) (Classical.propDecidable _)
theorem outB_iff {g : Int × Int → Option Int} {W H : Nat} {p : Int} {N j : Nat} : outB g W H p N j = true ↔ OutsP g W H p N j := by simp [outB]
theorem outB_inv {g : Int × Int → Option Int} {W H : Nat} (p : Int) (N : Nat) : OutInv g W H p N N [] (outB g W H p N) :=
  ⟨fun j _ h => outB_iff.1 h, fun j _ h r hr m hm hw => by
    obtain ⟨q, h1, h2, h3, h4⟩ := outB_iff.1 h
    subst hm
    exact outB_iff.2 ⟨q, h1, h2, h3, .step h4 hr (by omega) hw⟩, fun q hq hw hf => outB_iff.2 ⟨q, hq, hw, hf, .refl (by omega) hw⟩, fun h => (by cases h)⟩
/-- Those that lie within it. -/
noncomputable def inL (g : Int × Int → Option Int) (W H N k : Nat) : List Int := insideTo (outB g W H k N) k N
noncomputable def isIn (g : Int × Int → Option Int) (W H N k : Nat) : Nat → Bool := fun i => decide (i < N) && (decide (i ≠ k) && !outB g W H k N i)
noncomputable def qAt (L : List Int) (j : Nat) : Nat := (L[j]?.getD 0).toNat
noncomputable def lastQ (L : List Int) (j : Nat) : Int := if j = 0 then -1 else (qAt L (j - 1) : Int)
noncomputable def markQ (L : List Int) (j : Nat) : Nat → Bool := fun i => (L.take j).contains (i : Int)

theorem inL_mem {g : Int × Int → Option Int} {W H N k : Nat} {x : Int} : x ∈ inL g W H N k ↔ ∃ i : Nat, x = i ∧ isIn g W H N k i = true := by
  unfold inL isIn
  rw [insideTo_mem]
  constructor
  · rintro ⟨i, h1, h2, h3, h4⟩
    exact ⟨i, h2, by simp [h1, h4]; omega⟩
  · rintro ⟨i, h1, h2⟩
    simp only [Bool.and_eq_true, decide_eq_true_eq, Bool.not_eq_true'] at h2
    exact ⟨i, h2.1, h1, by omega, h2.2.2⟩
theorem qAt_in {g : Int × Int → Option Int} {W H N k j : Nat} (hj : j < (inL g W H N k).length) : ((qAt (inL g W H N k) j : Nat) : Int) = (inL g W H N k)[j] ∧ isIn g W H N k (qAt (inL g W H N k) j) = true := by
  have hm := List.getElem_mem hj
  obtain ⟨i, h1, h2⟩ := inL_mem.1 hm
  have e : qAt (inL g W H N k) j = i := by unfold qAt; rw [List.getElem?_eq_getElem hj, Option.getD_some, h1]; simp
  rw [e]
  exact ⟨h1.symm, h2⟩
theorem isIn_lt {g : Int × Int → Option Int} {W H N k i : Nat} (h : isIn g W H N k i = true) : i < N ∧ i ≠ k ∧ outB g W H k N i = false := by
  simpa [isIn] using h
theorem mark_ok {g : Int × Int → Option Int} {W H N k : Nat} : MarkOk N k (inL g W H N k).length (qAt (inL g W H N k)) (lastQ (inL g W H N k)) (markQ (inL g W H N k)) := by
  intro j hj
  obtain ⟨h1, h2⟩ := qAt_in hj
  obtain ⟨h3, h4, _⟩ := isIn_lt h2
  refine ⟨?_, h3, h4, ?_, ?_⟩
  · unfold lastQ
    split
    · omega
    · rename_i h0
      obtain ⟨h5, _⟩ := qAt_in (show j - 1 < (inL g W H N k).length by omega)
      rw [h5, h1]
      exact List.pairwise_iff_getElem.1 (show (inL g W H N k).Pairwise (· < ·) from insideTo_asc N) (j - 1) j (by omega) hj (by omega)
  · unfold lastQ; rw [if_neg (by omega), Nat.add_sub_cancel]
  · funext i
    unfold markQ
    rw [List.take_add_one, List.getElem?_eq_getElem hj]
    simp only [Option.toList_some, List.contains_eq_mem, List.mem_append, List.mem_singleton]
    by_cases e : i = qAt (inL g W H N k) j
    · rw [if_pos e, ← h1]; simp [e]
    · rw [if_neg e, ← h1]
      have : ¬ (i : Int) = ((qAt (inL g W H N k) j : Nat) : Int) := by omega
      simp [this]
theorem mark_all {g : Int × Int → Option Int} {W H N k : Nat} : markQ (inL g W H N k) (inL g W H N k).length = isIn g W H N k := by
  funext i
  unfold markQ
  rw [List.take_length, Bool.eq_iff_iff, List.contains_iff_mem, inL_mem]
  constructor
  · rintro ⟨m, h1, h2⟩
    obtain rfl : i = m := by omega
    exact h2
  · exact fun h => ⟨i, rfl, h⟩

theorem numRow_of {w : World} {base : Nat} {v : Value} {L : List Int} (hL : ∀ x ∈ L, 0 ≤ x) (h : w.ownsRow base 3 1 v L.length (L.map (Value.int .i64))) (sb0 : Nat) (hb : sb0 < base) :
    ∃ ao cap, v = .slice ao L.length cap ∧ NumRow sb0 L.length ao (qAt L) w := by
  obtain ⟨hl, ⟨rfl, e0⟩ | ⟨r, cap, cur, rfl, hbr, hg, h1, _, h2, h3⟩⟩ := h
  · exact ⟨none, 0, by rw [e0], fun h => absurd e0 (by omega)⟩
  · refine ⟨_, cap, rfl, fun _ => ⟨r, rfl, by omega, (Array.getElem?_eq_some_iff.1 hg).1, fun j hj => ?_⟩⟩
    have e1 : (cur.toList.take (L.length * 1))[j]? = cur.toList[j]? := List.getElem?_take_of_lt (by omega)
    rw [h3] at e1
    simp only [World.cell?, hg]
    rw [List.getElem?_map, List.getElem?_eq_getElem hj] at e1
    have e2 : ((qAt L j : Nat) : Int) = L[j] := by
      unfold qAt
      rw [List.getElem?_eq_getElem hj, Option.getD_some]
      have := hL _ (List.getElem_mem hj)
      omega
    rw [e2]
    simp only [Array.getElem?_toList] at e1
    simpa using e1.symm

set_option maxRecDepth 100000 in
set_option maxHeartbeats 16000000 in
theorem insideLaw_yes {W H : Nat} {zs : List Int} (C : CutN W H zs) (ao : Option Addr) (cap : Nat) (p : Nat) (w : World) (hs : IntsAt w ao zs) (h : (checkR W H zs).2 = 0) (hp : p < many zs) :
    Calls Try.prog 8 #[cutV W H ao zs.length cap, .int .i64 p] w fun e w' => e = .returned (.bool true) ∧ Mod noB w w' := by
  have HB := Hold.mk (box_facts (W := W) (H := H) (cap := cap) hs)
  have HM0 := Hold.mk ((Mod.refl noB w).alloc (.cells #[.int .i64 W, .int .i64 H, .slice ao zs.length cap] 24))
  obtain ⟨g, hg⟩ : ∃ g, laidG W zs zs.length = g := ⟨_, rfl⟩
  obtain ⟨N, hN⟩ : ∃ N, many zs = N := ⟨_, rfl⟩
  have hN1 : 1 ≤ N := by rw [← hN]; exact C.many_le.1
  have hN40 : N ≤ 40 := by rw [← hN]; exact C.many_le.2
  have hb := (checkR_ok h).1
  have hgN : ∀ q, atG g q < N := fun q => by rw [← hg, ← hN]; exact at_many2 C q
  have G := C.grid
  rw [hg] at G
  rw [hN] at hp
  have hck : checkR W H zs = ((N : Int), 0) := by rw [(checkR_ok h).2, hN]
  have HC : Hold (∀ w1, IntsAt w1 ao zs → Calls Try.prog 14 #[cutV W H ao zs.length cap] w1 fun e w' => e = .returned (.tuple #[.int .i64 (N : Int), .int .i64 0]) ∧ Mod noB w1 w') := ⟨fun w1 hi => by
    have := check_any W H ao zs cap w1 hi
    rw [hck] at this
    exact this⟩
  have HD : Hold (∀ w1, IntsAt w1 ao zs → Calls Try.prog 30 #[cutV W H ao zs.length cap] w1 fun e w' => e = .returned (.bool true) ∧ Mod noB w1 w') := ⟨fun w1 hi => by
    have := refCut_any W H ao zs cap w1 hi
    rw [hb] at this
    exact this⟩
  have hlen : ∀ k : Nat, (inL g W H N k).length ≤ 40 := fun k => Nat.le_trans (insideTo_len _ _ _) hN40
  have H16' : ∀ (eb k : Nat) (W' : World), k < N → IntsAt W' ao zs → eb < W'.heap.size → Calls Try.prog 16 #[cutV W H ao zs.length cap, .int .i64 k] W' fun e w' => ∃ so scap, e = .returned (.tuple #[.slice so (sdL g W H N k).length scap, .int .i64 0]) ∧ SideRow eb (sdL g W H N k).length so (pAt (sdL g W H N k)) (mAt (sdL g W H N k)) w' ∧ Mod noB W' w' := fun eb k W' hk hi he => by
    refine (sides_yes C ao cap k W' hi h (by omega) (by omega)).mono ?_
    rintro e w' ⟨v, rfl, ho, hm⟩
    have e0 : sidesR W H zs (k : Int) = sdL g W H N k := by unfold sidesR sdL; rw [hg, hN]
    rw [e0] at ho
    obtain ⟨so, scap, rfl, hr⟩ := sideRow_of (n := 0) (fun q hq => by
      obtain ⟨i, hi⟩ := List.getElem?_of_mem hq
      have := (sides_at hi).2.2.1
      omega) ho eb he
    exact ⟨so, scap, rfl, hr, hm⟩
  have H18' : ∀ (eb k : Nat) (W' : World), k < N → IntsAt W' ao zs → eb < W'.heap.size → Calls Try.prog 18 #[cutV W H ao zs.length cap, .int .i64 k] W' fun e w' => ∃ so scap, e = .returned (.tuple #[.slice so (inL g W H N k).length scap, .int .i64 0]) ∧ NumRow eb (inL g W H N k).length so (qAt (inL g W H N k)) w' ∧ Mod noB W' w' := fun eb k W' hk hi he => by
    refine (inside_yes C ao cap k W' hi h (by omega) (by omega)).mono ?_
    rintro e w' ⟨v, R, rfl, hR, hown, hm⟩
    rw [hg, hN] at hR
    have e0 : insideTo R (k : Int) (many zs) = inL g W H N k := by
      rw [hN]
      exact inside_same fun j hj => (hR.is G hN40 j (by omega)).trans ((outB_inv (k : Int) N).is G hN40 j (by omega)).symm
    rw [e0] at hown
    obtain ⟨so, scap, rfl, hr⟩ := numRow_of (fun x hx => by obtain ⟨i, h1, _⟩ := inL_mem.1 hx; omega) hown eb he
    exact ⟨so, scap, rfl, hr, hm⟩
  have hcell : ∀ k : Nat, k < N → ∃ a b : Nat, a < W ∧ b < H ∧ atG g ((a : Int), (b : Int)) = k := fun k hk => by
    have h1 := count_pos C h k (by omega)
    have h2 : (k : Int) ∈ zs := by
      rcases Nat.eq_zero_or_pos (zs.count (k : Int)) with e | e
      · exact absurd e h1
      · exact List.count_pos_iff.1 e
    obtain ⟨m, hm⟩ := List.getElem?_of_mem h2
    have hlt := (List.getElem?_eq_some_iff.1 hm).1
    rw [C.len] at hlt
    have hW := C.w1
    have hmod : m % W < W := Nat.mod_lt _ hW
    have hdiv : m / W < H := Nat.div_lt_of_lt_mul hlt
    refine ⟨m % W, m / W, hmod, hdiv, ?_⟩
    rw [← hg, C.g hmod hdiv, Nat.div_add_mod' m W, hm]; rfl
  have HS : Hold (∀ k, k < N → (sdL g W H N k).length ≤ 1000 ∧ ∀ j, j < (sdL g W H N k).length → pAt (sdL g W H N k) j < N ∧ (k ≠ p → pAt (sdL g W H N k) j ≠ p → (pAt (sdL g W H N k) j = -1 ∧ isIn g W H N p k = false) ∨ ∃ q : Nat, pAt (sdL g W H N k) j = q ∧ isIn g W H N p k = isIn g W H N p q)) := ⟨fun k hk => by
    have h0 := sidesTo_len (facedL g W H (k : Int)) (N + 1)
    refine ⟨by unfold sdL; omega, fun j hj => ?_⟩
    obtain ⟨x, hx⟩ : ∃ x, (sdL g W H N k)[j]? = some x := ⟨_, List.getElem?_eq_getElem hj⟩
    have s1 := sides_at (F := facedL g W H (k : Int)) (n := N + 1) hx
    have eP : pAt (sdL g W H N k) j = x.1 := by unfold pAt; rw [hx]; rfl
    rw [eP]
    refine ⟨by omega, fun hkp hxp => ?_⟩
    have hf := List.count_pos_iff.1 s1.2.2.2
    by_cases e : x.1 = -1
    · refine .inl ⟨e, ?_⟩
      rw [e] at hf
      have := (outB_inv (g := g) (W := W) (H := H) (p : Int) N).done k hk (by omega) hf
      unfold isIn; rw [this]; simp
    · obtain ⟨q, hq⟩ : ∃ q : Nat, x.1 = q := ⟨x.1.toNat, by omega⟩
      refine .inr ⟨q, hq, ?_⟩
      rw [hq] at hf hxp
      have := out_same G hN40 (outB_inv (p : Int) N) hk (by omega) hf (by omega) (by omega)
      unfold isIn
      rw [this, decide_eq_true hk, decide_eq_true (show q < N by omega), decide_eq_true hkp, decide_eq_true (show q ≠ p by omega)]⟩
  have HW : Hold (∀ k, k < N → isIn g W H N p k = true → ∀ j, j < (inL g W H N k).length → qAt (inL g W H N k) j < N ∧ isIn g W H N p (qAt (inL g W H N k) j) = true) := ⟨fun k hk hi j hj => by
    obtain ⟨_, h2⟩ := qAt_in hj
    obtain ⟨h3, h4, h5⟩ := isIn_lt h2
    obtain ⟨h6, h7, h8⟩ := isIn_lt hi
    obtain ⟨h9, h10⟩ := within_within G hgN hN40 hk h3 h7 (outB_inv (p : Int) N) (outB_inv (k : Int) N) (hcell p hp) h8 h4 h5
    exact ⟨h3, by unfold isIn; simp [h3, h9, h10]⟩⟩
  have HMK := Hold.mk (mark_ok (g := g) (W := W) (H := H) (N := N) (k := p))
  have HMA := Hold.mk (mark_all (g := g) (W := W) (H := H) (N := N) (k := p))
  have HLN := Hold.mk (hlen p)
  have H16 := Hold.mk H16'
  have H18 : Hold (∀ (eb k : Nat) (W' : World), k < N → isIn g W H N p k = true → IntsAt W' ao zs → eb < W'.heap.size → Calls Try.prog 18 #[cutV W H ao zs.length cap, .int .i64 k] W' fun e w' => ∃ so scap m Q, e = .returned (.tuple #[.slice so m scap, .int .i64 0]) ∧ (NumRow eb m so Q w' ∧ m ≤ 1000 ∧ ∀ j, j < m → Q j < N ∧ isIn g W H N p (Q j) = true) ∧ Mod noB W' w') := ⟨fun eb k W' hk hin hi he => by
    refine (H18' eb k W' hk hi he).mono ?_
    rintro e w' ⟨so, scap, rfl, hr, hm⟩
    exact ⟨so, scap, _, _, rfl, ⟨hr, by have := hlen k; omega, HW.out k hk hin⟩, hm⟩⟩
  have HI18 : Hold (∀ W', IntsAt W' ao zs → w.heap.size < W'.heap.size → Calls Try.prog 18 #[cutV W H ao zs.length cap, .int .i64 p] W' fun e w' => ∃ so scap, e = .returned (.tuple #[.slice so (inL g W H N p).length scap, .int .i64 0]) ∧ NumRow w.heap.size (inL g W H N p).length so (qAt (inL g W H N p)) w' ∧ Mod noB W' w') := ⟨fun W' hi hsz => H18' w.heap.size p W' hp hi hsz⟩
  have q0 : ¬ ((p : Int) < 0) := by omega
  have q1 : ¬ ((N : Int) ≤ (p : Int)) := by omega
  have q2 : ¬ ((40 : Int) < (N : Int)) := by omega
  have HN : Hold (N ≤ 40) := ⟨hN40⟩
  have HSZ : Hold (∀ w1, Mod noB (w.alloc (.cells #[.int .i64 W, .int .i64 H, .slice ao zs.length cap] 24)) w1 → w.heap.size < w1.heap.size) := ⟨fun w1 hm => by have := hm.size; simp only [World.size_alloc] at this; omega⟩
  have H0 : Hold (markQ (inL g W H N p) 0 = fun _ => false) := ⟨by funext i; rfl⟩
  clear h hb hck hg hN C H16' H18' hs hgN G hlen hcell HW
  go_enter Try.func8, Try.ntmps8
  go_upto_region 9 with (first
    | (go_at_call 30; refine (HD.out _ (HB.out _ (Mod.refl _ _)).2.2.2).mono ?_; rintro e w1 ⟨rfl, hM⟩; obtain ⟨c0, c1, c2, hI⟩ := HB.out _ hM; have HW1 := Hold.mk (And.intro hM hI); clear hM hI HD)
    | (go_at_call 18; refine (HI18.out w1 HW1.out.2 (HSZ.out w1 HW1.out.1)).mono ?_; rintro e w2 ⟨so, scap, rfl, hR, hM⟩; clear c0 c1 c2; obtain ⟨c0, c1, c2, hI⟩ := HB.out _ (HW1.out.1.trans hM); have HW2 := Hold.mk (And.intro (HW1.out.1.trans hM) (And.intro hI hR)); clear hM hI hR HI18)
    | (go_at_call 14; refine (HC.out w2 HW2.out.2.1).mono ?_; rintro e w3 ⟨rfl, hM⟩; clear c0 c1 c2; have HW3 := Hold.mk (And.intro (HW2.out.1.trans hM) hM); clear hM HC))
  refine region_alloc59 ?_
  simp only [Act.put, List.setIfInBounds_toArray, List.set_cons_succ, List.set_cons_zero]
  obtain ⟨w4, hw4⟩ : ∃ w4, w3.alloc (.cells (boolCells 40 fun _ => false) 59) = w4 := ⟨_, rfl⟩
  have HE4 : Hold (TwAt w3.heap.size (markQ (inL g W H N p) 0) w4) := ⟨by rw [H0.out, ← hw4]; exact World.alloc_heap_new _ _⟩
  have HM4 : Hold (Mod noB (w.alloc (.cells #[.int .i64 W, .int .i64 H, .slice ao zs.length cap] 24)) w4) := ⟨by rw [← hw4]; exact HW3.out.1.alloc _⟩
  have HR4 : Hold (NumRow w3.heap.size (inL g W H N p).length so (qAt (inL g W H N p)) w4) := ⟨HW2.out.2.2.later (by rw [← hw4]; exact HW3.out.2.alloc _) HW3.out.2.size⟩
  have HLT : Hold ((w.alloc (.cells #[.int .i64 W, .int .i64 H, .slice ao zs.length cap] 24)).heap.size ≤ w3.heap.size) := ⟨HW3.out.1.size⟩
  have HF : Hold (∀ W', Mod (fun k => k = w3.heap.size) w4 W' → Mod noB (w.alloc (.cells #[.int .i64 W, .int .i64 H, .slice ao zs.length cap] 24)) W') := ⟨fun W' hm => HM4.out.then hm (fun i h1 h2 => by have := HLT.out; omega)⟩
  rw [hw4]
  clear hw4
  go_upto_block 0 with fail
  refine wp_mono (in_mark so N p (inL g W H N p).length scap w3.heap.size (qAt (inL g W H N p)) (lastQ (inL g W H N p)) (markQ (inL g W H N p)) w4 HN.out (by have := HLN.out; omega) (-1) rfl HMK HR4 HE4) (then_only ?_)
  rintro a' w5 ⟨v, rfl, ho, hm⟩
  have HR5 : Hold (TwAt w3.heap.size (isIn g W H N p) w5 ∧ Mod (fun k => k = w3.heap.size) w4 w5) := ⟨by rw [← HMA.out]; exact ho, hm⟩
  clear ho hm
  have HFB : Hold (∀ W', Mod noB w5 W' → W'.heap[w.heap.size]? = some (.cells #[.int .i64 W, .int .i64 H, .slice ao zs.length cap] 24) ∧ IntsAt W' ao zs) := ⟨fun W' hm => ⟨(HF.out W' (HR5.out.2.thenB hm)).at (World.alloc_heap_new w _) id, (HB.out _ (HF.out W' (HR5.out.2.thenB hm))).2.2.2⟩⟩
  go_upto_block 2 with fail
  refine wp_mono (in_all W H ao zs cap N p w3.heap.size w.heap.size (fun k => (sdL g W H N k).length) (fun k => pAt (sdL g W H N k)) (fun k => mAt (sdL g W H N k)) (isIn g W H N p) w5 HN.out HFB ⟨H16.out w3.heap.size⟩ ⟨H18.out w3.heap.size⟩ HS ⟨HR5.out.1⟩) (then_only ?_)
  rintro a' w6 ⟨v2, rfl, hm⟩
  have HM6 : Hold (Mod noB w w6) := ⟨HM0.out.trans (HF.out _ (HR5.out.2.thenB hm))⟩
  clear hm
  go_wp2_with (go_at_call 13; refine (awake_any _).mono ?_; rintro e w7 ⟨rfl, hM⟩; have HM7 := Hold.mk hM; clear hM)
  go_ret
  exact ⟨rfl, HM6.out.trans HM7.out⟩
end Go.Proofs.Ytogalmkeipigeaa

/- FitEnds: the loop's body, and small words. -/
import Derived.Test.YtnjbamikfjdofaaLawE
import Derived.Test.YtnjbamikfjdofaaRefC
set_option linter.unusedSimpArgs false
set_option linter.unusedVariables false
namespace Go.Proofs.Ytnjbamikfjdofaa
open Go.RowKit Go.Shelf

theorem kept_drew {w : World} {F : World → Prop} (h : Kept w F) : Kept w.drew F := fun w' hm => h w' ⟨hm.os, hm.tape, hm.output, hm.size, hm.block⟩
/-- In the loop over three differences. -/
def EL (p : Ply) (g : Gp) (x y z : Int × Int) (w : World) (G B : Nat) (w' : World) : Prop :=
  ((Mod noB w w' ∧ w'.heap[w.heap.size]? = some (.cells (plC p) 25)) ∧ w'.heap[G]? = some (.cells (gpC g) 32)) ∧ w'.heap[B]? = some (.cells (dfC x y z) 23)

/-- In a round: the span and what Between says of it. -/
def ER (p : Ply) (g : Gp) (x y z : Int × Int) (w : World) (G B : Nat) (s o : Int × Int) (b : Nat) (w' : World) : Prop :=
  (EL p g x y z w G B w' ∧ w'.heap[b]? = some (.cells #[.int .i64 s.1, .int .i64 s.2] 23)) ∧ w'.heap[b + 1 + 1]? = some (.cells #[.int .i64 o.1, .int .i64 o.2] 23)
theorem er_kept {p : Ply} {g : Gp} {x y z : Int × Int} {w wr : World} {G B : Nat} (h : Kept wr (EL p g x y z w G B)) (s o : Int × Int) (m : Obj) :
    Kept (((wr.alloc (.cells #[.int .i64 s.1, .int .i64 s.2] 23)).alloc m).alloc (.cells #[.int .i64 o.1, .int .i64 o.2] 23)) (ER p g x y z w G B s o wr.heap.size) := fun w' hm => by
  rw [allocL3] at hm
  exact ⟨⟨h w' ((allocL_mod noB _ wr).trans hm), at_allocL _ hm 0 _ rfl⟩, at_allocL _ hm 2 _ rfl⟩

theorem ok_both {s : Int × Int} {lo hi d : Int} (h1 : 1000 * lo ≤ s.1 * (1000 + d)) (h2 : s.2 * (1000 + d) ≤ 1000 * hi) : okD s lo hi d = true := by unfold okD; rw [decide_eq_true h1, decide_eq_true h2]; rfl
theorem ok_not1 {s : Int × Int} {lo hi d : Int} (h1 : ¬ 1000 * lo ≤ s.1 * (1000 + d)) : okD s lo hi d = false := by unfold okD; rw [decide_eq_false h1]; rfl
theorem ok_not2 {s : Int × Int} {lo hi d : Int} (h2 : ¬ s.2 * (1000 + d) ≤ 1000 * hi) : okD s lo hi d = false := by unfold okD; rw [decide_eq_false h2, Bool.and_false]
theorem ok_step {A A0 An : Bool} {s : Int × Int} {lo hi d : Int} (HA : Hold (A = A0)) (Hn : Hold (An = (A0 && okD s lo hi d))) : (A && okD s lo hi d) = An := by rw [HA.out, Hn.out]
theorem out_yes1 {s : Int × Int} {lo hi d : Int} (h1 : nearR s * (1000 + d) < 1000 * lo) : outD s lo hi d = true := by unfold outD; rw [decide_eq_true h1]; rfl
theorem out_yes2 {s : Int × Int} {lo hi d : Int} (h2 : 1000 * hi < nearR s * (1000 + d)) : outD s lo hi d = true := by unfold outD; rw [decide_eq_true h2, Bool.or_true]
theorem out_no {s : Int × Int} {lo hi d : Int} (h1 : ¬ nearR s * (1000 + d) < 1000 * lo) (h2 : ¬ 1000 * hi < nearR s * (1000 + d)) : outD s lo hi d = false := by unfold outD; rw [decide_eq_false h1, decide_eq_false h2]; rfl
theorem min_small {L a b : Int} (h : L = min (min a a) b) (h1 : -20000000000 ≤ a ∧ a ≤ 20000000000) (h2 : -20000000000 ≤ b ∧ b ≤ 20000000000) : -1000000000000 ≤ L ∧ L ≤ 1000000000000 := by omega
theorem max_small {L a b : Int} (h : L = max (max a a) b) (h1 : -20000000000 ≤ a ∧ a ≤ 20000000000) (h2 : -20000000000 ≤ b ∧ b ≤ 20000000000) : -1000000000000 ≤ L ∧ L ≤ 1000000000000 := by omega

/-- The body of the loop over three differences. -/
noncomputable def bodyE : Code :=
  ((Code.region 11
          #[{ dst := some 97, op := Op.binOp BinOp.lss 3 (Operand.tmp 96) (Operand.tmp 95) 3, type := 0,
              pos := "outright.go:139", after := #[], guard := none }]
          false).seq
      ((Code.cond (Operand.tmp 97) Code.skip (Code.exit 0)).seq
        ((Code.block 1
              ((Code.region 12
                    #[{ dst := some 98, op := Op.move (Operand.tmp 96), type := 3, pos := "outright.go:139",
                        after := #[], guard := none },
                      { dst := some 99, op := Op.indexAddr 64 (Operand.tmp 94) (Operand.tmp 96), type := 0,
                        pos := "outright.go:139", after := #[], guard := none },
                      { dst := some 100, op := Op.load 23 (Operand.tmp 99), type := 23, pos := "outright.go:139",
                        after := #[{ on := 1, ground := Ground.data }], guard := none },
                      { dst := some 18, op := Op.alloc 23, type := 0, pos := "outright.go:139", after := #[],
                        guard := none },
                      { dst := some 17, op := Op.assign (Operand.tmp 98), type := 3, pos := "outright.go:139",
                        after :=
                          #[{ on := 0, ground := Ground.data }, { on := 0, ground := Ground.phase },
                            { on := 1, ground := Ground.phase }, { on := 2, ground := Ground.phase },
                            { on := 3, ground := Ground.phase }],
                        guard := none },
                      { dst := none, op := Op.store 23 (Operand.tmp 18) (Operand.tmp 100), type := 0,
                        pos := "outright.go:139",
                        after :=
                          #[{ on := 3, ground := Ground.data }, { on := 2, ground := Ground.data },
                            { on := 4, ground := Ground.chain }, { on := 0, ground := Ground.phase },
                            { on := 1, ground := Ground.phase }, { on := 2, ground := Ground.phase },
                            { on := 3, ground := Ground.phase }, { on := 4, ground := Ground.phase }],
                        guard := none }]
                    false).seq
                ((Code.region 13
                      #[{ dst := some 101, op := Op.fieldAddr 32 (Operand.tmp 7) 0, type := 0, pos := "outright.go:140",
                          after := #[], guard := none },
                        { dst := some 102, op := Op.load 23 (Operand.tmp 101), type := 23, pos := "outright.go:140",
                          after := #[{ on := 0, ground := Ground.data }], guard := none },
                        { dst := some 103, op := Op.fieldAddr 32 (Operand.tmp 7) 1, type := 0, pos := "outright.go:140",
                          after := #[], guard := none },
                        { dst := some 104, op := Op.load 23 (Operand.tmp 103), type := 23, pos := "outright.go:140",
                          after := #[{ on := 2, ground := Ground.data }], guard := none },
                        { dst := some 105, op := Op.fieldAddr 32 (Operand.tmp 7) 2, type := 0, pos := "outright.go:140",
                          after := #[], guard := none },
                        { dst := some 106, op := Op.load 23 (Operand.tmp 105), type := 23, pos := "outright.go:140",
                          after := #[{ on := 4, ground := Ground.data }], guard := none },
                        { dst := some 107,
                          op := Op.buildSlice 64 3 #[(0, Operand.tmp 102), (1, Operand.tmp 104), (2, Operand.tmp 106)],
                          type := 64, pos := "outright.go:140",
                          after :=
                            #[{ on := 1, ground := Ground.data }, { on := 3, ground := Ground.data },
                              { on := 5, ground := Ground.data }],
                          guard := none },
                        { dst := some 108, op := Op.move (Operand.tmp 17), type := 3, pos := "outright.go:140",
                          after := #[], guard := none },
                        { dst := some 109, op := Op.indexAddr 64 (Operand.tmp 107) (Operand.tmp 108), type := 0,
                          pos := "outright.go:140",
                          after := #[{ on := 6, ground := Ground.data }, { on := 7, ground := Ground.data }],
                          guard := none },
                        { dst := some 110, op := Op.load 23 (Operand.tmp 109), type := 23, pos := "outright.go:140",
                          after := #[{ on := 8, ground := Ground.data }], guard := none },
                        { dst := some 19, op := Op.alloc 23, type := 0, pos := "outright.go:140", after := #[],
                          guard := none },
                        { dst := none, op := Op.store 23 (Operand.tmp 19) (Operand.tmp 110), type := 0,
                          pos := "outright.go:140",
                          after :=
                            #[{ on := 10, ground := Ground.data }, { on := 9, ground := Ground.data },
                              { on := 0, ground := Ground.phase }, { on := 1, ground := Ground.phase },
                              { on := 2, ground := Ground.phase }, { on := 3, ground := Ground.phase },
                              { on := 4, ground := Ground.phase }, { on := 5, ground := Ground.phase },
                              { on := 6, ground := Ground.phase }, { on := 7, ground := Ground.phase },
                              { on := 8, ground := Ground.phase }, { on := 9, ground := Ground.phase },
                              { on := 10, ground := Ground.phase }],
                          guard := none }]
                      false).seq
                  ((Code.region 14
                        #[{ dst := some 111, op := Op.fieldAddr 25 (Operand.tmp 3) 2, type := 0,
                            pos := "outright.go:141",
                            after := #[{ on := 2, ground := Ground.gcOnly Departure.lateStores }], guard := none },
                          { dst := some 112, op := Op.load 3 (Operand.tmp 111), type := 3, pos := "outright.go:141",
                            after :=
                              #[{ on := 0, ground := Ground.data },
                                { on := 2, ground := Ground.gcOnly Departure.lateStores }],
                            guard := none },
                          { dst := some 20, op := Op.assign (Operand.const (Value.int IntKind.i64 0)), type := 3,
                            pos := "outright.go:141",
                            after :=
                              #[{ on := 0, ground := Ground.textOnly Departure.lateStores },
                                { on := 1, ground := Ground.textOnly Departure.lateStores }],
                            guard := none },
                          { dst := some 21, op := Op.assign (Operand.tmp 112), type := 3, pos := "outright.go:141",
                            after :=
                              #[{ on := 1, ground := Ground.data }, { on := 2, ground := Ground.chain },
                                { on := 0, ground := Ground.phase }, { on := 1, ground := Ground.phase },
                                { on := 2, ground := Ground.phase }],
                            guard := none }]
                        true).seq
                    (((Code.region 15
                              #[{ dst := some 113, op := Op.move (Operand.tmp 17), type := 3, pos := "outright.go:142",
                                  after := #[], guard := none },
                                { dst := some 114,
                                  op :=
                                    Op.binOp BinOp.eql 3 (Operand.tmp 113) (Operand.const (Value.int IntKind.i64 0)) 3,
                                  type := 4, pos := "outright.go:142", after := #[{ on := 0, ground := Ground.data }],
                                  guard := none }]
                              false).seq
                          (Code.cond (Operand.tmp 114)
                            (Code.region 16
                              #[{ dst := some 115, op := Op.fieldAddr 25 (Operand.tmp 3) 1, type := 0,
                                  pos := "outright.go:143", after := #[], guard := none },
                                { dst := some 116, op := Op.load 3 (Operand.tmp 115), type := 3,
                                  pos := "outright.go:143", after := #[{ on := 0, ground := Ground.data }],
                                  guard := none },
                                { dst := some 117, op := Op.unOp UnOp.neg 3 (Operand.tmp 116), type := 3,
                                  pos := "outright.go:143", after := #[{ on := 1, ground := Ground.data }],
                                  guard := none },
                                { dst := some 118, op := Op.fieldAddr 25 (Operand.tmp 3) 1, type := 0,
                                  pos := "outright.go:143",
                                  after := #[{ on := 5, ground := Ground.gcOnly Departure.lateStores }],
                                  guard := none },
                                { dst := some 119, op := Op.load 3 (Operand.tmp 118), type := 3,
                                  pos := "outright.go:143",
                                  after :=
                                    #[{ on := 3, ground := Ground.data },
                                      { on := 5, ground := Ground.gcOnly Departure.lateStores }],
                                  guard := none },
                                { dst := some 20, op := Op.assign (Operand.tmp 117), type := 3,
                                  pos := "outright.go:143",
                                  after :=
                                    #[{ on := 2, ground := Ground.data }, { on := 0, ground := Ground.phase },
                                      { on := 1, ground := Ground.phase }, { on := 2, ground := Ground.phase },
                                      { on := 3, ground := Ground.textOnly Departure.lateStores },
                                      { on := 4, ground := Ground.textOnly Departure.lateStores }],
                                  guard := none },
                                { dst := some 21, op := Op.assign (Operand.tmp 119), type := 3,
                                  pos := "outright.go:143",
                                  after :=
                                    #[{ on := 4, ground := Ground.data }, { on := 5, ground := Ground.chain },
                                      { on := 0, ground := Ground.phase }, { on := 1, ground := Ground.phase },
                                      { on := 2, ground := Ground.phase }, { on := 3, ground := Ground.phase },
                                      { on := 4, ground := Ground.phase }, { on := 5, ground := Ground.phase }],
                                  guard := none }]
                              true)
                            Code.skip)).seq
                      ((Code.region 17
                            #[{ dst := some 120, op := Op.fieldAddr 23 (Operand.tmp 18) 0, type := 0,
                                pos := "outright.go:145", after := #[], guard := none },
                              { dst := some 121, op := Op.load 3 (Operand.tmp 120), type := 3, pos := "outright.go:145",
                                after := #[{ on := 0, ground := Ground.data }], guard := none },
                              { dst := some 122, op := Op.fieldAddr 25 (Operand.tmp 3) 3, type := 0,
                                pos := "outright.go:145", after := #[], guard := none },
                              { dst := some 123, op := Op.fieldAddr 23 (Operand.tmp 122) 0, type := 0,
                                pos := "outright.go:145", after := #[{ on := 2, ground := Ground.data }],
                                guard := none },
                              { dst := some 124, op := Op.load 3 (Operand.tmp 123), type := 3, pos := "outright.go:145",
                                after := #[{ on := 3, ground := Ground.data }], guard := none },
                              { dst := some 125,
                                op :=
                                  Op.binOp BinOp.add 3 (Operand.const (Value.int IntKind.i64 1000)) (Operand.tmp 124) 3,
                                type := 3, pos := "outright.go:145", after := #[{ on := 4, ground := Ground.data }],
                                guard := none },
                              { dst := some 126, op := Op.binOp BinOp.mul 3 (Operand.tmp 121) (Operand.tmp 125) 3,
                                type := 3, pos := "outright.go:145",
                                after := #[{ on := 1, ground := Ground.data }, { on := 5, ground := Ground.data }],
                                guard := none },
                              { dst := some 127, op := Op.fieldAddr 23 (Operand.tmp 18) 1, type := 0,
                                pos := "outright.go:145",
                                after := #[{ on := 14, ground := Ground.gcOnly Departure.lateStores }], guard := none },
                              { dst := some 128, op := Op.load 3 (Operand.tmp 127), type := 3, pos := "outright.go:145",
                                after :=
                                  #[{ on := 7, ground := Ground.data },
                                    { on := 14, ground := Ground.gcOnly Departure.lateStores }],
                                guard := none },
                              { dst := some 129, op := Op.fieldAddr 25 (Operand.tmp 3) 3, type := 0,
                                pos := "outright.go:145",
                                after := #[{ on := 14, ground := Ground.gcOnly Departure.lateStores }], guard := none },
                              { dst := some 130, op := Op.fieldAddr 23 (Operand.tmp 129) 0, type := 0,
                                pos := "outright.go:145",
                                after :=
                                  #[{ on := 9, ground := Ground.data },
                                    { on := 14, ground := Ground.gcOnly Departure.lateStores }],
                                guard := none },
                              { dst := some 131, op := Op.load 3 (Operand.tmp 130), type := 3, pos := "outright.go:145",
                                after :=
                                  #[{ on := 10, ground := Ground.data },
                                    { on := 14, ground := Ground.gcOnly Departure.lateStores }],
                                guard := none },
                              { dst := some 132,
                                op :=
                                  Op.binOp BinOp.add 3 (Operand.const (Value.int IntKind.i64 1000)) (Operand.tmp 131) 3,
                                type := 3, pos := "outright.go:145",
                                after :=
                                  #[{ on := 11, ground := Ground.data },
                                    { on := 14, ground := Ground.gcOnly Departure.lateStores }],
                                guard := none },
                              { dst := some 133, op := Op.binOp BinOp.mul 3 (Operand.tmp 128) (Operand.tmp 132) 3,
                                type := 3, pos := "outright.go:145",
                                after :=
                                  #[{ on := 8, ground := Ground.data }, { on := 12, ground := Ground.data },
                                    { on := 14, ground := Ground.gcOnly Departure.lateStores }],
                                guard := none },
                              { dst := some 22, op := Op.assign (Operand.tmp 126), type := 3, pos := "outright.go:145",
                                after :=
                                  #[{ on := 6, ground := Ground.data }, { on := 0, ground := Ground.phase },
                                    { on := 1, ground := Ground.phase }, { on := 2, ground := Ground.phase },
                                    { on := 3, ground := Ground.phase }, { on := 4, ground := Ground.phase },
                                    { on := 5, ground := Ground.phase }, { on := 6, ground := Ground.phase },
                                    { on := 7, ground := Ground.textOnly Departure.lateStores },
                                    { on := 8, ground := Ground.textOnly Departure.lateStores },
                                    { on := 9, ground := Ground.textOnly Departure.lateStores },
                                    { on := 10, ground := Ground.textOnly Departure.lateStores },
                                    { on := 11, ground := Ground.textOnly Departure.lateStores },
                                    { on := 12, ground := Ground.textOnly Departure.lateStores },
                                    { on := 13, ground := Ground.textOnly Departure.lateStores }],
                                guard := none },
                              { dst := some 23, op := Op.assign (Operand.tmp 133), type := 3, pos := "outright.go:145",
                                after :=
                                  #[{ on := 13, ground := Ground.data }, { on := 14, ground := Ground.chain },
                                    { on := 0, ground := Ground.phase }, { on := 1, ground := Ground.phase },
                                    { on := 2, ground := Ground.phase }, { on := 3, ground := Ground.phase },
                                    { on := 4, ground := Ground.phase }, { on := 5, ground := Ground.phase },
                                    { on := 6, ground := Ground.phase }, { on := 7, ground := Ground.phase },
                                    { on := 8, ground := Ground.phase }, { on := 9, ground := Ground.phase },
                                    { on := 10, ground := Ground.phase }, { on := 11, ground := Ground.phase },
                                    { on := 12, ground := Ground.phase }, { on := 13, ground := Ground.phase },
                                    { on := 14, ground := Ground.phase }],
                                guard := none },
                              { dst := some 24, op := Op.assign (Operand.const (Value.int IntKind.i64 0)), type := 3,
                                pos := "outright.go:145",
                                after :=
                                  #[{ on := 15, ground := Ground.chain }, { on := 0, ground := Ground.phase },
                                    { on := 1, ground := Ground.phase }, { on := 2, ground := Ground.phase },
                                    { on := 3, ground := Ground.phase }, { on := 4, ground := Ground.phase },
                                    { on := 5, ground := Ground.phase }, { on := 6, ground := Ground.phase },
                                    { on := 7, ground := Ground.phase }, { on := 8, ground := Ground.phase },
                                    { on := 9, ground := Ground.phase }, { on := 10, ground := Ground.phase },
                                    { on := 11, ground := Ground.phase }, { on := 12, ground := Ground.phase },
                                    { on := 13, ground := Ground.phase }, { on := 14, ground := Ground.phase },
                                    { on := 15, ground := Ground.phase }],
                                guard := none }]
                            true).seq
                        (((Code.region 18
                                  #[{ dst := some 134, op := Op.fieldAddr 25 (Operand.tmp 3) 3, type := 0,
                                      pos := "outright.go:146", after := #[], guard := none },
                                    { dst := some 135, op := Op.fieldAddr 23 (Operand.tmp 134) 0, type := 0,
                                      pos := "outright.go:146", after := #[{ on := 0, ground := Ground.data }],
                                      guard := none },
                                    { dst := some 136, op := Op.load 3 (Operand.tmp 135), type := 3,
                                      pos := "outright.go:146", after := #[{ on := 1, ground := Ground.data }],
                                      guard := none },
                                    { dst := some 137, op := Op.fieldAddr 25 (Operand.tmp 3) 3, type := 0,
                                      pos := "outright.go:146", after := #[], guard := none },
                                    { dst := some 138, op := Op.fieldAddr 23 (Operand.tmp 137) 1, type := 0,
                                      pos := "outright.go:146", after := #[{ on := 3, ground := Ground.data }],
                                      guard := none },
                                    { dst := some 139, op := Op.load 3 (Operand.tmp 138), type := 3,
                                      pos := "outright.go:146", after := #[{ on := 4, ground := Ground.data }],
                                      guard := none },
                                    { dst := some 140,
                                      op := Op.buildSlice 43 2 #[(0, Operand.tmp 136), (1, Operand.tmp 139)],
                                      type := 43, pos := "outright.go:146",
                                      after :=
                                        #[{ on := 2, ground := Ground.data }, { on := 5, ground := Ground.data }],
                                      guard := none },
                                    { dst := some 141,
                                      op :=
                                        Op.call
                                          { callee := Callee.builtin Builtin.len, args := #[Operand.tmp 140],
                                            argTypes := #[43] },
                                      type := 3, pos := "outright.go:146",
                                      after := #[{ on := 6, ground := Ground.data }], guard := none },
                                    { dst := some 142, op := Op.move (Operand.const (Value.int IntKind.i64 0)),
                                      type := 3, pos := "outright.go:146", after := #[], guard := none }]
                                  false).seq
                              (Code.block 2
                                ((Code.region 19
                                        #[{ dst := some 143,
                                            op := Op.binOp BinOp.lss 3 (Operand.tmp 142) (Operand.tmp 141) 3, type := 0,
                                            pos := "outright.go:146", after := #[], guard := none }]
                                        false).seq
                                    ((Code.cond (Operand.tmp 143) Code.skip (Code.exit 2)).seq
                                      ((Code.block 3
                                            ((Code.region 20
                                                  #[{ dst := some 144,
                                                      op := Op.indexAddr 43 (Operand.tmp 140) (Operand.tmp 142),
                                                      type := 0, pos := "outright.go:146", after := #[],
                                                      guard := none },
                                                    { dst := some 145, op := Op.load 3 (Operand.tmp 144), type := 3,
                                                      pos := "outright.go:146",
                                                      after := #[{ on := 0, ground := Ground.data }], guard := none },
                                                    { dst := some 26, op := Op.assign (Operand.tmp 145), type := 3,
                                                      pos := "outright.go:146",
                                                      after :=
                                                        #[{ on := 1, ground := Ground.data },
                                                          { on := 0, ground := Ground.phase },
                                                          { on := 1, ground := Ground.phase }],
                                                      guard := none }]
                                                  false).seq
                                              ((Code.region 21
                                                    #[{ dst := some 146, op := Op.move (Operand.tmp 22), type := 3,
                                                        pos := "outright.go:147", after := #[], guard := none },
                                                      { dst := some 147, op := Op.fieldAddr 23 (Operand.tmp 18) 0,
                                                        type := 0, pos := "outright.go:147", after := #[],
                                                        guard := none },
                                                      { dst := some 148, op := Op.load 3 (Operand.tmp 147), type := 3,
                                                        pos := "outright.go:147",
                                                        after := #[{ on := 1, ground := Ground.data }], guard := none },
                                                      { dst := some 149, op := Op.move (Operand.tmp 26), type := 3,
                                                        pos := "outright.go:147", after := #[], guard := none },
                                                      { dst := some 150,
                                                        op :=
                                                          Op.binOp BinOp.add 3
                                                            (Operand.const (Value.int IntKind.i64 1000))
                                                            (Operand.tmp 149) 3,
                                                        type := 3, pos := "outright.go:147",
                                                        after := #[{ on := 3, ground := Ground.data }], guard := none },
                                                      { dst := some 151,
                                                        op :=
                                                          Op.binOp BinOp.mul 3 (Operand.tmp 148) (Operand.tmp 150) 3,
                                                        type := 3, pos := "outright.go:147",
                                                        after :=
                                                          #[{ on := 2, ground := Ground.data },
                                                            { on := 4, ground := Ground.data }],
                                                        guard := none },
                                                      { dst := some 152,
                                                        op :=
                                                          Op.call
                                                            { callee := Callee.builtin Builtin.min,
                                                              args := #[Operand.tmp 146, Operand.tmp 151],
                                                              argTypes := #[3, 3] },
                                                        type := 3, pos := "outright.go:147",
                                                        after :=
                                                          #[{ on := 0, ground := Ground.data },
                                                            { on := 5, ground := Ground.data }],
                                                        guard := none },
                                                      { dst := some 153, op := Op.move (Operand.tmp 23), type := 3,
                                                        pos := "outright.go:147", after := #[], guard := none },
                                                      { dst := some 154, op := Op.fieldAddr 23 (Operand.tmp 18) 1,
                                                        type := 0, pos := "outright.go:147", after := #[],
                                                        guard := none },
                                                      { dst := some 155, op := Op.load 3 (Operand.tmp 154), type := 3,
                                                        pos := "outright.go:147",
                                                        after := #[{ on := 8, ground := Ground.data }], guard := none },
                                                      { dst := some 156, op := Op.move (Operand.tmp 26), type := 3,
                                                        pos := "outright.go:147", after := #[], guard := none },
                                                      { dst := some 157,
                                                        op :=
                                                          Op.binOp BinOp.add 3
                                                            (Operand.const (Value.int IntKind.i64 1000))
                                                            (Operand.tmp 156) 3,
                                                        type := 3, pos := "outright.go:147",
                                                        after := #[{ on := 10, ground := Ground.data }],
                                                        guard := none },
                                                      { dst := some 158,
                                                        op :=
                                                          Op.binOp BinOp.mul 3 (Operand.tmp 155) (Operand.tmp 157) 3,
                                                        type := 3, pos := "outright.go:147",
                                                        after :=
                                                          #[{ on := 9, ground := Ground.data },
                                                            { on := 11, ground := Ground.data }],
                                                        guard := none },
                                                      { dst := some 159,
                                                        op :=
                                                          Op.call
                                                            { callee := Callee.builtin Builtin.max,
                                                              args := #[Operand.tmp 153, Operand.tmp 158],
                                                              argTypes := #[3, 3] },
                                                        type := 3, pos := "outright.go:147",
                                                        after :=
                                                          #[{ on := 7, ground := Ground.data },
                                                            { on := 12, ground := Ground.data }],
                                                        guard := none },
                                                      { dst := some 22, op := Op.assign (Operand.tmp 152), type := 3,
                                                        pos := "outright.go:147",
                                                        after :=
                                                          #[{ on := 6, ground := Ground.data },
                                                            { on := 0, ground := Ground.phase },
                                                            { on := 1, ground := Ground.phase },
                                                            { on := 2, ground := Ground.phase },
                                                            { on := 3, ground := Ground.phase },
                                                            { on := 4, ground := Ground.phase },
                                                            { on := 5, ground := Ground.phase },
                                                            { on := 6, ground := Ground.phase },
                                                            { on := 7, ground := Ground.textOnly Departure.lateStores },
                                                            { on := 8, ground := Ground.textOnly Departure.lateStores },
                                                            { on := 9, ground := Ground.textOnly Departure.lateStores },
                                                            { on := 10,
                                                              ground := Ground.textOnly Departure.lateStores },
                                                            { on := 11,
                                                              ground := Ground.textOnly Departure.lateStores },
                                                            { on := 12,
                                                              ground := Ground.textOnly Departure.lateStores },
                                                            { on := 13,
                                                              ground := Ground.textOnly Departure.lateStoresUnsure }],
                                                        guard := none },
                                                      { dst := some 23, op := Op.assign (Operand.tmp 159), type := 3,
                                                        pos := "outright.go:147",
                                                        after :=
                                                          #[{ on := 13, ground := Ground.data },
                                                            { on := 14, ground := Ground.chain },
                                                            { on := 0, ground := Ground.phase },
                                                            { on := 1, ground := Ground.phase },
                                                            { on := 2, ground := Ground.phase },
                                                            { on := 3, ground := Ground.phase },
                                                            { on := 4, ground := Ground.phase },
                                                            { on := 5, ground := Ground.phase },
                                                            { on := 6, ground := Ground.phase },
                                                            { on := 7, ground := Ground.phase },
                                                            { on := 8, ground := Ground.phase },
                                                            { on := 9, ground := Ground.phase },
                                                            { on := 10, ground := Ground.phase },
                                                            { on := 11, ground := Ground.phase },
                                                            { on := 12, ground := Ground.phase },
                                                            { on := 13, ground := Ground.phase },
                                                            { on := 14, ground := Ground.phase }],
                                                        guard := none }]
                                                    true).seq
                                                (Code.region 22
                                                  #[{ dst := some 160, op := Op.move (Operand.tmp 15), type := 4,
                                                      pos := "outright.go:148", after := #[], guard := none },
                                                    { dst := some 161, op := Op.move (Operand.tmp 160), type := 4,
                                                      pos := "outright.go:148",
                                                      after := #[{ on := 0, ground := Ground.data }], guard := none },
                                                    { dst := some 162, op := Op.fieldAddr 23 (Operand.tmp 18) 0,
                                                      type := 0, pos := "outright.go:148",
                                                      after := #[{ on := 1, ground := Ground.guard }],
                                                      guard := some (1, true) },
                                                    { dst := some 163, op := Op.load 3 (Operand.tmp 162), type := 3,
                                                      pos := "outright.go:148",
                                                      after :=
                                                        #[{ on := 2, ground := Ground.data },
                                                          { on := 1, ground := Ground.guard }],
                                                      guard := some (1, true) },
                                                    { dst := some 164, op := Op.move (Operand.tmp 26), type := 3,
                                                      pos := "outright.go:148",
                                                      after := #[{ on := 1, ground := Ground.guard }],
                                                      guard := some (1, true) },
                                                    { dst := some 165,
                                                      op :=
                                                        Op.binOp BinOp.add 3
                                                          (Operand.const (Value.int IntKind.i64 1000)) (Operand.tmp 164)
                                                          3,
                                                      type := 3, pos := "outright.go:148",
                                                      after :=
                                                        #[{ on := 4, ground := Ground.data },
                                                          { on := 1, ground := Ground.guard }],
                                                      guard := some (1, true) },
                                                    { dst := some 166,
                                                      op := Op.binOp BinOp.mul 3 (Operand.tmp 163) (Operand.tmp 165) 3,
                                                      type := 3, pos := "outright.go:148",
                                                      after :=
                                                        #[{ on := 3, ground := Ground.data },
                                                          { on := 5, ground := Ground.data },
                                                          { on := 1, ground := Ground.guard }],
                                                      guard := some (1, true) },
                                                    { dst := some 167, op := Op.move (Operand.tmp 20), type := 3,
                                                      pos := "outright.go:148",
                                                      after := #[{ on := 1, ground := Ground.guard }],
                                                      guard := some (1, true) },
                                                    { dst := some 168,
                                                      op :=
                                                        Op.binOp BinOp.mul 3
                                                          (Operand.const (Value.int IntKind.i64 1000)) (Operand.tmp 167)
                                                          3,
                                                      type := 3, pos := "outright.go:148",
                                                      after :=
                                                        #[{ on := 7, ground := Ground.data },
                                                          { on := 1, ground := Ground.guard }],
                                                      guard := some (1, true) },
                                                    { dst := some 169,
                                                      op := Op.binOp BinOp.geq 3 (Operand.tmp 166) (Operand.tmp 168) 3,
                                                      type := 4, pos := "outright.go:148",
                                                      after :=
                                                        #[{ on := 6, ground := Ground.data },
                                                          { on := 8, ground := Ground.data },
                                                          { on := 1, ground := Ground.guard }],
                                                      guard := some (1, true) },
                                                    { dst := some 170,
                                                      op :=
                                                        Op.pick (Operand.tmp 161) (Operand.tmp 169)
                                                          (Operand.const (Value.bool false)),
                                                      type := 4, pos := "outright.go:148",
                                                      after :=
                                                        #[{ on := 1, ground := Ground.data },
                                                          { on := 9, ground := Ground.data }],
                                                      guard := none },
                                                    { dst := some 171, op := Op.move (Operand.tmp 170), type := 4,
                                                      pos := "outright.go:148",
                                                      after :=
                                                        #[{ on := 10, ground := Ground.data },
                                                          { on := 1, ground := Ground.chain }],
                                                      guard := none },
                                                    { dst := some 172, op := Op.fieldAddr 23 (Operand.tmp 18) 1,
                                                      type := 0, pos := "outright.go:148",
                                                      after := #[{ on := 11, ground := Ground.guard }],
                                                      guard := some (11, true) },
                                                    { dst := some 173, op := Op.load 3 (Operand.tmp 172), type := 3,
                                                      pos := "outright.go:148",
                                                      after :=
                                                        #[{ on := 12, ground := Ground.data },
                                                          { on := 11, ground := Ground.guard }],
                                                      guard := some (11, true) },
                                                    { dst := some 174, op := Op.move (Operand.tmp 26), type := 3,
                                                      pos := "outright.go:148",
                                                      after := #[{ on := 11, ground := Ground.guard }],
                                                      guard := some (11, true) },
                                                    { dst := some 175,
                                                      op :=
                                                        Op.binOp BinOp.add 3
                                                          (Operand.const (Value.int IntKind.i64 1000)) (Operand.tmp 174)
                                                          3,
                                                      type := 3, pos := "outright.go:148",
                                                      after :=
                                                        #[{ on := 14, ground := Ground.data },
                                                          { on := 11, ground := Ground.guard }],
                                                      guard := some (11, true) },
                                                    { dst := some 176,
                                                      op := Op.binOp BinOp.mul 3 (Operand.tmp 173) (Operand.tmp 175) 3,
                                                      type := 3, pos := "outright.go:148",
                                                      after :=
                                                        #[{ on := 13, ground := Ground.data },
                                                          { on := 15, ground := Ground.data },
                                                          { on := 11, ground := Ground.guard }],
                                                      guard := some (11, true) },
                                                    { dst := some 177, op := Op.move (Operand.tmp 21), type := 3,
                                                      pos := "outright.go:148",
                                                      after := #[{ on := 11, ground := Ground.guard }],
                                                      guard := some (11, true) },
                                                    { dst := some 178,
                                                      op :=
                                                        Op.binOp BinOp.mul 3
                                                          (Operand.const (Value.int IntKind.i64 1000)) (Operand.tmp 177)
                                                          3,
                                                      type := 3, pos := "outright.go:148",
                                                      after :=
                                                        #[{ on := 17, ground := Ground.data },
                                                          { on := 11, ground := Ground.guard }],
                                                      guard := some (11, true) },
                                                    { dst := some 179,
                                                      op := Op.binOp BinOp.leq 3 (Operand.tmp 176) (Operand.tmp 178) 3,
                                                      type := 4, pos := "outright.go:148",
                                                      after :=
                                                        #[{ on := 16, ground := Ground.data },
                                                          { on := 18, ground := Ground.data },
                                                          { on := 11, ground := Ground.guard }],
                                                      guard := some (11, true) },
                                                    { dst := some 180,
                                                      op :=
                                                        Op.pick (Operand.tmp 171) (Operand.tmp 179)
                                                          (Operand.const (Value.bool false)),
                                                      type := 4, pos := "outright.go:148",
                                                      after :=
                                                        #[{ on := 11, ground := Ground.data },
                                                          { on := 19, ground := Ground.data }],
                                                      guard := none },
                                                    { dst := some 15, op := Op.assign (Operand.tmp 180), type := 4,
                                                      pos := "outright.go:148",
                                                      after :=
                                                        #[{ on := 20, ground := Ground.data },
                                                          { on := 11, ground := Ground.chain },
                                                          { on := 0, ground := Ground.phase },
                                                          { on := 1, ground := Ground.phase },
                                                          { on := 2, ground := Ground.phase },
                                                          { on := 3, ground := Ground.phase },
                                                          { on := 4, ground := Ground.phase },
                                                          { on := 5, ground := Ground.phase },
                                                          { on := 6, ground := Ground.phase },
                                                          { on := 7, ground := Ground.phase },
                                                          { on := 8, ground := Ground.phase },
                                                          { on := 9, ground := Ground.phase },
                                                          { on := 10, ground := Ground.phase },
                                                          { on := 11, ground := Ground.phase },
                                                          { on := 12, ground := Ground.phase },
                                                          { on := 13, ground := Ground.phase },
                                                          { on := 14, ground := Ground.phase },
                                                          { on := 15, ground := Ground.phase },
                                                          { on := 16, ground := Ground.phase },
                                                          { on := 17, ground := Ground.phase },
                                                          { on := 18, ground := Ground.phase },
                                                          { on := 19, ground := Ground.phase },
                                                          { on := 20, ground := Ground.phase }],
                                                      guard := none }]
                                                  false)))).seq
                                        (Code.region 23
                                          #[{ dst := some 181,
                                              op :=
                                                Op.binOp BinOp.add 3 (Operand.tmp 142)
                                                  (Operand.const (Value.int IntKind.i64 1)) 3,
                                              type := 3, pos := "outright.go:146", after := #[], guard := none },
                                            { dst := some 142, op := Op.move (Operand.tmp 181), type := 3,
                                              pos := "outright.go:146", after := #[{ on := 0, ground := Ground.data }],
                                              guard := none }]
                                          false)))).loop)).seq
                          (((Code.region 24
                                    #[{ dst := some 182, op := Op.fieldAddr 23 (Operand.tmp 18) 0, type := 0,
                                        pos := "outright.go:150", after := #[], guard := none },
                                      { dst := some 183, op := Op.load 3 (Operand.tmp 182), type := 3,
                                        pos := "outright.go:150", after := #[{ on := 0, ground := Ground.data }],
                                        guard := none },
                                      { dst := some 184,
                                        op :=
                                          Op.binOp BinOp.gtr 3 (Operand.tmp 183)
                                            (Operand.const (Value.int IntKind.i64 0)) 3,
                                        type := 4, pos := "outright.go:150",
                                        after := #[{ on := 1, ground := Ground.data }], guard := none }]
                                    false).seq
                                (Code.cond (Operand.tmp 184)
                                  (Code.region 25
                                    #[{ dst := some 185, op := Op.fieldAddr 23 (Operand.tmp 18) 0, type := 0,
                                        pos := "outright.go:151", after := #[], guard := none },
                                      { dst := some 186, op := Op.load 3 (Operand.tmp 185), type := 3,
                                        pos := "outright.go:151", after := #[{ on := 0, ground := Ground.data }],
                                        guard := none },
                                      { dst := some 24, op := Op.assign (Operand.tmp 186), type := 3,
                                        pos := "outright.go:151",
                                        after :=
                                          #[{ on := 1, ground := Ground.data }, { on := 0, ground := Ground.phase },
                                            { on := 1, ground := Ground.phase }],
                                        guard := none }]
                                    false)
                                  Code.skip)).seq
                            (((Code.region 26
                                      #[{ dst := some 187, op := Op.fieldAddr 23 (Operand.tmp 18) 1, type := 0,
                                          pos := "outright.go:153", after := #[], guard := none },
                                        { dst := some 188, op := Op.load 3 (Operand.tmp 187), type := 3,
                                          pos := "outright.go:153", after := #[{ on := 0, ground := Ground.data }],
                                          guard := none },
                                        { dst := some 189,
                                          op :=
                                            Op.binOp BinOp.lss 3 (Operand.tmp 188)
                                              (Operand.const (Value.int IntKind.i64 0)) 3,
                                          type := 4, pos := "outright.go:153",
                                          after := #[{ on := 1, ground := Ground.data }], guard := none }]
                                      false).seq
                                  (Code.cond (Operand.tmp 189)
                                    (Code.region 27
                                      #[{ dst := some 190, op := Op.fieldAddr 23 (Operand.tmp 18) 1, type := 0,
                                          pos := "outright.go:154", after := #[], guard := none },
                                        { dst := some 191, op := Op.load 3 (Operand.tmp 190), type := 3,
                                          pos := "outright.go:154", after := #[{ on := 0, ground := Ground.data }],
                                          guard := none },
                                        { dst := some 24, op := Op.assign (Operand.tmp 191), type := 3,
                                          pos := "outright.go:154",
                                          after :=
                                            #[{ on := 1, ground := Ground.data }, { on := 0, ground := Ground.phase },
                                              { on := 1, ground := Ground.phase }],
                                          guard := none }]
                                      false)
                                    Code.skip)).seq
                              ((Code.region 28
                                    #[{ dst := some 192, op := Op.move (Operand.tmp 16), type := 4,
                                        pos := "outright.go:156", after := #[], guard := none },
                                      { dst := some 193, op := Op.move (Operand.tmp 192), type := 4,
                                        pos := "outright.go:156", after := #[{ on := 0, ground := Ground.data }],
                                        guard := none },
                                      { dst := some 194, op := Op.move (Operand.tmp 24), type := 3,
                                        pos := "outright.go:156", after := #[{ on := 1, ground := Ground.guard }],
                                        guard := some (1, false) },
                                      { dst := some 195, op := Op.fieldAddr 25 (Operand.tmp 3) 3, type := 0,
                                        pos := "outright.go:156", after := #[{ on := 1, ground := Ground.guard }],
                                        guard := some (1, false) },
                                      { dst := some 196, op := Op.fieldAddr 23 (Operand.tmp 195) 0, type := 0,
                                        pos := "outright.go:156",
                                        after :=
                                          #[{ on := 3, ground := Ground.data }, { on := 1, ground := Ground.guard }],
                                        guard := some (1, false) },
                                      { dst := some 197, op := Op.load 3 (Operand.tmp 196), type := 3,
                                        pos := "outright.go:156",
                                        after :=
                                          #[{ on := 4, ground := Ground.data }, { on := 1, ground := Ground.guard }],
                                        guard := some (1, false) },
                                      { dst := some 198,
                                        op :=
                                          Op.binOp BinOp.add 3 (Operand.const (Value.int IntKind.i64 1000))
                                            (Operand.tmp 197) 3,
                                        type := 3, pos := "outright.go:156",
                                        after :=
                                          #[{ on := 5, ground := Ground.data }, { on := 1, ground := Ground.guard }],
                                        guard := some (1, false) },
                                      { dst := some 199,
                                        op := Op.binOp BinOp.mul 3 (Operand.tmp 194) (Operand.tmp 198) 3, type := 3,
                                        pos := "outright.go:156",
                                        after :=
                                          #[{ on := 2, ground := Ground.data }, { on := 6, ground := Ground.data },
                                            { on := 1, ground := Ground.guard }],
                                        guard := some (1, false) },
                                      { dst := some 200, op := Op.move (Operand.tmp 20), type := 3,
                                        pos := "outright.go:156", after := #[{ on := 1, ground := Ground.guard }],
                                        guard := some (1, false) },
                                      { dst := some 201,
                                        op :=
                                          Op.binOp BinOp.mul 3 (Operand.const (Value.int IntKind.i64 1000))
                                            (Operand.tmp 200) 3,
                                        type := 3, pos := "outright.go:156",
                                        after :=
                                          #[{ on := 8, ground := Ground.data }, { on := 1, ground := Ground.guard }],
                                        guard := some (1, false) },
                                      { dst := some 202,
                                        op := Op.binOp BinOp.lss 3 (Operand.tmp 199) (Operand.tmp 201) 3, type := 4,
                                        pos := "outright.go:156",
                                        after :=
                                          #[{ on := 7, ground := Ground.data }, { on := 9, ground := Ground.data },
                                            { on := 1, ground := Ground.guard }],
                                        guard := some (1, false) },
                                      { dst := some 203,
                                        op :=
                                          Op.pick (Operand.tmp 193) (Operand.const (Value.bool true)) (Operand.tmp 202),
                                        type := 4, pos := "outright.go:156",
                                        after :=
                                          #[{ on := 1, ground := Ground.data }, { on := 10, ground := Ground.data }],
                                        guard := none },
                                      { dst := some 204, op := Op.move (Operand.tmp 203), type := 4,
                                        pos := "outright.go:156",
                                        after :=
                                          #[{ on := 11, ground := Ground.data }, { on := 1, ground := Ground.chain }],
                                        guard := none },
                                      { dst := some 205, op := Op.move (Operand.tmp 24), type := 3,
                                        pos := "outright.go:156", after := #[{ on := 12, ground := Ground.guard }],
                                        guard := some (12, false) },
                                      { dst := some 206, op := Op.fieldAddr 25 (Operand.tmp 3) 3, type := 0,
                                        pos := "outright.go:156", after := #[{ on := 12, ground := Ground.guard }],
                                        guard := some (12, false) },
                                      { dst := some 207, op := Op.fieldAddr 23 (Operand.tmp 206) 0, type := 0,
                                        pos := "outright.go:156",
                                        after :=
                                          #[{ on := 14, ground := Ground.data }, { on := 12, ground := Ground.guard }],
                                        guard := some (12, false) },
                                      { dst := some 208, op := Op.load 3 (Operand.tmp 207), type := 3,
                                        pos := "outright.go:156",
                                        after :=
                                          #[{ on := 15, ground := Ground.data }, { on := 12, ground := Ground.guard }],
                                        guard := some (12, false) },
                                      { dst := some 209,
                                        op :=
                                          Op.binOp BinOp.add 3 (Operand.const (Value.int IntKind.i64 1000))
                                            (Operand.tmp 208) 3,
                                        type := 3, pos := "outright.go:156",
                                        after :=
                                          #[{ on := 16, ground := Ground.data }, { on := 12, ground := Ground.guard }],
                                        guard := some (12, false) },
                                      { dst := some 210,
                                        op := Op.binOp BinOp.mul 3 (Operand.tmp 205) (Operand.tmp 209) 3, type := 3,
                                        pos := "outright.go:156",
                                        after :=
                                          #[{ on := 13, ground := Ground.data }, { on := 17, ground := Ground.data },
                                            { on := 12, ground := Ground.guard }],
                                        guard := some (12, false) },
                                      { dst := some 211, op := Op.move (Operand.tmp 21), type := 3,
                                        pos := "outright.go:156", after := #[{ on := 12, ground := Ground.guard }],
                                        guard := some (12, false) },
                                      { dst := some 212,
                                        op :=
                                          Op.binOp BinOp.mul 3 (Operand.const (Value.int IntKind.i64 1000))
                                            (Operand.tmp 211) 3,
                                        type := 3, pos := "outright.go:156",
                                        after :=
                                          #[{ on := 19, ground := Ground.data }, { on := 12, ground := Ground.guard }],
                                        guard := some (12, false) },
                                      { dst := some 213,
                                        op := Op.binOp BinOp.gtr 3 (Operand.tmp 210) (Operand.tmp 212) 3, type := 4,
                                        pos := "outright.go:156",
                                        after :=
                                          #[{ on := 18, ground := Ground.data }, { on := 20, ground := Ground.data },
                                            { on := 12, ground := Ground.guard }],
                                        guard := some (12, false) },
                                      { dst := some 214,
                                        op :=
                                          Op.pick (Operand.tmp 204) (Operand.const (Value.bool true)) (Operand.tmp 213),
                                        type := 4, pos := "outright.go:156",
                                        after :=
                                          #[{ on := 12, ground := Ground.data }, { on := 21, ground := Ground.data }],
                                        guard := none },
                                      { dst := some 16, op := Op.assign (Operand.tmp 214), type := 4,
                                        pos := "outright.go:156",
                                        after :=
                                          #[{ on := 22, ground := Ground.data }, { on := 12, ground := Ground.chain },
                                            { on := 0, ground := Ground.phase }, { on := 1, ground := Ground.phase },
                                            { on := 2, ground := Ground.phase }, { on := 3, ground := Ground.phase },
                                            { on := 4, ground := Ground.phase }, { on := 5, ground := Ground.phase },
                                            { on := 6, ground := Ground.phase }, { on := 7, ground := Ground.phase },
                                            { on := 8, ground := Ground.phase }, { on := 9, ground := Ground.phase },
                                            { on := 10, ground := Ground.phase }, { on := 11, ground := Ground.phase },
                                            { on := 12, ground := Ground.phase }, { on := 13, ground := Ground.phase },
                                            { on := 14, ground := Ground.phase }, { on := 15, ground := Ground.phase },
                                            { on := 16, ground := Ground.phase }, { on := 17, ground := Ground.phase },
                                            { on := 18, ground := Ground.phase }, { on := 19, ground := Ground.phase },
                                            { on := 20, ground := Ground.phase }, { on := 21, ground := Ground.phase },
                                            { on := 22, ground := Ground.phase }],
                                        guard := none }]
                                    false).seq
                                ((Code.region 29
                                      #[{ dst := some 215, op := Op.fieldAddr 23 (Operand.tmp 19) 0, type := 0,
                                          pos := "outright.go:157", after := #[], guard := none },
                                        { dst := some 216, op := Op.load 3 (Operand.tmp 215), type := 3,
                                          pos := "outright.go:157", after := #[{ on := 0, ground := Ground.data }],
                                          guard := none },
                                        { dst := some 217, op := Op.move (Operand.tmp 22), type := 3,
                                          pos := "outright.go:157", after := #[], guard := none },
                                        { dst := some 218,
                                          op :=
                                            Op.call
                                              { callee := Callee.value (Operand.func 41),
                                                args := #[Operand.tmp 217, Operand.const (Value.int IntKind.i64 1000)],
                                                argTypes := #[3, 3] },
                                          type := 3, pos := "outright.go:157",
                                          after := #[{ on := 2, ground := Ground.data }], guard := none },
                                        { dst := some 219,
                                          op := Op.binOp BinOp.neq 3 (Operand.tmp 216) (Operand.tmp 218) 3, type := 4,
                                          pos := "outright.go:157",
                                          after :=
                                            #[{ on := 1, ground := Ground.data }, { on := 3, ground := Ground.data }],
                                          guard := none },
                                        { dst := some 220, op := Op.move (Operand.tmp 219), type := 4,
                                          pos := "outright.go:157",
                                          after :=
                                            #[{ on := 4, ground := Ground.data }, { on := 3, ground := Ground.chain }],
                                          guard := none },
                                        { dst := some 221, op := Op.fieldAddr 23 (Operand.tmp 19) 1, type := 0,
                                          pos := "outright.go:157", after := #[{ on := 5, ground := Ground.guard }],
                                          guard := some (5, false) },
                                        { dst := some 222, op := Op.load 3 (Operand.tmp 221), type := 3,
                                          pos := "outright.go:157",
                                          after :=
                                            #[{ on := 6, ground := Ground.data }, { on := 5, ground := Ground.guard }],
                                          guard := some (5, false) },
                                        { dst := some 223, op := Op.move (Operand.tmp 23), type := 3,
                                          pos := "outright.go:157", after := #[{ on := 5, ground := Ground.guard }],
                                          guard := some (5, false) },
                                        { dst := some 224,
                                          op :=
                                            Op.call
                                              { callee := Callee.value (Operand.func 42),
                                                args := #[Operand.tmp 223, Operand.const (Value.int IntKind.i64 1000)],
                                                argTypes := #[3, 3] },
                                          type := 3, pos := "outright.go:157",
                                          after :=
                                            #[{ on := 8, ground := Ground.data }, { on := 5, ground := Ground.chain },
                                              { on := 5, ground := Ground.guard }],
                                          guard := some (5, false) },
                                        { dst := some 225,
                                          op := Op.binOp BinOp.neq 3 (Operand.tmp 222) (Operand.tmp 224) 3, type := 4,
                                          pos := "outright.go:157",
                                          after :=
                                            #[{ on := 7, ground := Ground.data }, { on := 9, ground := Ground.data },
                                              { on := 5, ground := Ground.guard }],
                                          guard := some (5, false) },
                                        { dst := some 226,
                                          op :=
                                            Op.pick (Operand.tmp 220) (Operand.const (Value.bool true))
                                              (Operand.tmp 225),
                                          type := 4, pos := "outright.go:157",
                                          after :=
                                            #[{ on := 5, ground := Ground.data }, { on := 10, ground := Ground.data }],
                                          guard := none }]
                                      true).seq
                                  (Code.cond (Operand.tmp 226)
                                    ((Code.region 30
                                          #[{ dst := some 6, op := Op.assign (Operand.const (Value.bool false)),
                                              type := 4, pos := "outright.go:158", after := #[], guard := none }]
                                          false).seq
                                      Code.ret)
                                    Code.skip)))))))))))).seq
          (Code.region 31
            #[{ dst := some 227,
                op := Op.binOp BinOp.add 3 (Operand.tmp 96) (Operand.const (Value.int IntKind.i64 1)) 3, type := 3,
                pos := "outright.go:139", after := #[], guard := none },
              { dst := some 96, op := Op.move (Operand.tmp 227), type := 3, pos := "outright.go:139",
                after := #[{ on := 0, ground := Ground.data }], guard := none }]
            false))))
end Go.Proofs.Ytnjbamikfjdofaa

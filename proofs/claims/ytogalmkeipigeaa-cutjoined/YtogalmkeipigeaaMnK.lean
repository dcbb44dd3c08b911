/- Several texts in one (a claim holds at most 60 files): each has its own words ahead of it. -/
import Derived.Test.YtogalmkeipigeaaMnJ
import Derived.Test.YtogalmkeipigeaaRefJoin
import Derived.Test.YtogalmkeipigeaaMnI
set_option linter.unusedSimpArgs false
set_option linter.unusedVariables false

/- CutJoined: the loop that gathers what is wanted. (Its code and frame: written by wip/tools.) -/
namespace Go.Proofs.Ytogalmkeipigeaa
open Go Go.RowKit Go.Shelf

/-- What one number more wants. -/
def GatherOk (E : Int → Int → Nat) (N lo hi p : Nat) (WT : Nat → Nat → Nat) : Prop := ∀ j, j ≤ N →
  (jf lo hi ((j : Int) - 1) = jf lo hi p → WT (j + 1) = WT j) ∧
  (jf lo hi ((j : Int) - 1) ≠ jf lo hi p → ∃ q : Nat, jf lo hi ((j : Int) - 1) + 1 = (q : Int) ∧ q < 41 ∧ WT (j + 1) = fun i => if i = q then WT j q + edW E lo hi p j else WT j i) ∧ ∀ i, WT j i ≤ 1000000

@[reducible] def jo_wantBody : Code := (Code.block 4 (((Code.region 31 #[{ dst := some 214, op := Op.move (Operand.tmp 26), type := 3, pos := "outright.go:336", after := #[], guard := none }, { dst := some 215, op := Op.move (Operand.tmp 11), type := 3, pos := "outright.go:336", after := #[], guard := none }, { dst := some 216, op := Op.binOp BinOp.lss 3 (Operand.tmp 214) (Operand.tmp 215) 3, type := 4, pos := "outright.go:336", after := #[{ on := 0, ground := Ground.data }, { on := 1, ground := Ground.data }], guard := none }] false).seq (Code.cond (Operand.tmp 216) Code.skip (Code.exit 4))).seq ((Code.block 5 ((Code.region 33 #[{ dst := some 27, op := Op.assign (Operand.const (Value.int IntKind.i64 0)), type := 3, pos := "outright.go:337", after := #[], guard := none }] false).seq (((Code.region 34 #[{ dst := some 219, op := Op.move (Operand.tmp 26), type := 3, pos := "outright.go:338", after := #[], guard := none }, { dst := some 220, op := Op.move (Operand.tmp 24), type := 3, pos := "outright.go:338", after := #[], guard := none }, { dst := some 221, op := Op.binOp BinOp.neq 3 (Operand.tmp 219) (Operand.tmp 220) 3, type := 4, pos := "outright.go:338", after := #[{ on := 0, ground := Ground.data }, { on := 1, ground := Ground.data }], guard := none }] false).seq (Code.cond (Operand.tmp 221) (Code.region 35 #[{ dst := some 222, op := Op.load 24 (Operand.tmp 3), type := 24, pos := "outright.go:339", after := #[], guard := none }, { dst := some 223, op := Op.move (Operand.tmp 24), type := 3, pos := "outright.go:339", after := #[], guard := none }, { dst := some 224, op := Op.move (Operand.tmp 26), type := 3, pos := "outright.go:339", after := #[], guard := none }, { dst := some 225, op := Op.call { callee := Callee.value (Operand.func 37), args := #[Operand.tmp 222, Operand.tmp 223, Operand.tmp 224], argTypes := #[24, 3, 3] }, type := 3, pos := "outright.go:339", after := #[{ on := 0, ground := Ground.data }, { on := 1, ground := Ground.data }, { on := 2, ground := Ground.data }], guard := none }, { dst := some 27, op := Op.assign (Operand.tmp 225), type := 3, pos := "outright.go:339", after := #[{ on := 3, ground := Ground.data }, { on := 3, ground := Ground.chain }, { on := 0, ground := Ground.phase }, { on := 1, ground := Ground.phase }, { on := 2, ground := Ground.phase }, { on := 3, ground := Ground.phase }], guard := none }] false) Code.skip)).seq (((Code.region 36 #[{ dst := some 226, op := Op.move (Operand.tmp 24), type := 3, pos := "outright.go:341", after := #[], guard := none }, { dst := some 227, op := Op.load 3 (Operand.tmp 20), type := 3, pos := "outright.go:341", after := #[], guard := none }, { dst := some 228, op := Op.binOp BinOp.eql 3 (Operand.tmp 226) (Operand.tmp 227) 3, type := 4, pos := "outright.go:341", after := #[{ on := 0, ground := Ground.data }, { on := 1, ground := Ground.data }], guard := none }, { dst := some 229, op := Op.move (Operand.tmp 228), type := 4, pos := "outright.go:341", after := #[{ on := 2, ground := Ground.data }], guard := none }, { dst := some 230, op := Op.move (Operand.tmp 26), type := 3, pos := "outright.go:341", after := #[{ on := 3, ground := Ground.guard }], guard := some (3, true) }, { dst := some 231, op := Op.load 3 (Operand.tmp 21), type := 3, pos := "outright.go:341", after := #[{ on := 3, ground := Ground.guard }], guard := some (3, true) }, { dst := some 232, op := Op.binOp BinOp.neq 3 (Operand.tmp 230) (Operand.tmp 231) 3, type := 4, pos := "outright.go:341", after := #[{ on := 4, ground := Ground.data }, { on := 5, ground := Ground.data }, { on := 3, ground := Ground.guard }], guard := some (3, true) }, { dst := some 233, op := Op.pick (Operand.tmp 229) (Operand.tmp 232) (Operand.const (Value.bool false)), type := 4, pos := "outright.go:341", after := #[{ on := 3, ground := Ground.data }, { on := 6, ground := Ground.data }], guard := none }] false).seq (Code.cond (Operand.tmp 233) (Code.region 37 #[{ dst := some 234, op := Op.move (Operand.tmp 27), type := 3, pos := "outright.go:342", after := #[], guard := none }, { dst := some 235, op := Op.load 24 (Operand.tmp 3), type := 24, pos := "outright.go:342", after := #[], guard := none }, { dst := some 236, op := Op.load 3 (Operand.tmp 21), type := 3, pos := "outright.go:342", after := #[], guard := none }, { dst := some 237, op := Op.move (Operand.tmp 26), type := 3, pos := "outright.go:342", after := #[], guard := none }, { dst := some 238, op := Op.call { callee := Callee.value (Operand.func 37), args := #[Operand.tmp 235, Operand.tmp 236, Operand.tmp 237], argTypes := #[24, 3, 3] }, type := 3, pos := "outright.go:342", after := #[{ on := 1, ground := Ground.data }, { on := 2, ground := Ground.data }, { on := 3, ground := Ground.data }], guard := none }, { dst := some 239, op := Op.binOp BinOp.add 3 (Operand.tmp 234) (Operand.tmp 238) 3, type := 3, pos := "outright.go:342", after := #[{ on := 0, ground := Ground.data }, { on := 4, ground := Ground.data }], guard := none }, { dst := some 27, op := Op.assign (Operand.tmp 239), type := 3, pos := "outright.go:342", after := #[{ on := 5, ground := Ground.data }, { on := 4, ground := Ground.chain }, { on := 0, ground := Ground.phase }, { on := 1, ground := Ground.phase }, { on := 2, ground := Ground.phase }, { on := 3, ground := Ground.phase }, { on := 4, ground := Ground.phase }, { on := 5, ground := Ground.phase }], guard := none }] false) Code.skip)).seq ((Code.region 38 #[{ dst := some 240, op := Op.move (Operand.tmp 22), type := 66, pos := "outright.go:344", after := #[], guard := none }, { dst := some 241, op := Op.move (Operand.tmp 26), type := 3, pos := "outright.go:344", after := #[], guard := none }, { dst := some 242, op := Op.call { callee := Callee.value (Operand.tmp 240), args := #[Operand.tmp 241], argTypes := #[3] }, type := 3, pos := "outright.go:344", after := #[{ on := 0, ground := Ground.data }, { on := 1, ground := Ground.data }], guard := none }, { dst := some 243, op := Op.move (Operand.tmp 22), type := 66, pos := "outright.go:344", after := #[], guard := none }, { dst := some 244, op := Op.move (Operand.tmp 24), type := 3, pos := "outright.go:344", after := #[], guard := none }, { dst := some 245, op := Op.call { callee := Callee.value (Operand.tmp 243), args := #[Operand.tmp 244], argTypes := #[3] }, type := 3, pos := "outright.go:344", after := #[{ on := 3, ground := Ground.data }, { on := 4, ground := Ground.data }, { on := 2, ground := Ground.chain }], guard := none }, { dst := some 246, op := Op.binOp BinOp.neq 3 (Operand.tmp 242) (Operand.tmp 245) 3, type := 4, pos := "outright.go:344", after := #[{ on := 2, ground := Ground.data }, { on := 5, ground := Ground.data }], guard := none }] false).seq (Code.cond (Operand.tmp 246) (Code.region 39 #[{ dst := some 247, op := Op.move (Operand.tmp 22), type := 66, pos := "outright.go:345", after := #[], guard := none }, { dst := some 248, op := Op.move (Operand.tmp 26), type := 3, pos := "outright.go:345", after := #[], guard := none }, { dst := some 249, op := Op.call { callee := Callee.value (Operand.tmp 247), args := #[Operand.tmp 248], argTypes := #[3] }, type := 3, pos := "outright.go:345", after := #[{ on := 0, ground := Ground.data }, { on := 1, ground := Ground.data }], guard := none }, { dst := some 250, op := Op.binOp BinOp.add 3 (Operand.tmp 249) (Operand.const (Value.int IntKind.i64 1)) 3, type := 3, pos := "outright.go:345", after := #[{ on := 2, ground := Ground.data }], guard := none }, { dst := some 251, op := Op.move (Operand.tmp 22), type := 66, pos := "outright.go:345", after := #[], guard := none }, { dst := some 252, op := Op.move (Operand.tmp 26), type := 3, pos := "outright.go:345", after := #[], guard := none }, { dst := some 253, op := Op.call { callee := Callee.value (Operand.tmp 251), args := #[Operand.tmp 252], argTypes := #[3] }, type := 3, pos := "outright.go:345", after := #[{ on := 4, ground := Ground.data }, { on := 5, ground := Ground.data }, { on := 2, ground := Ground.chain }], guard := none }, { dst := some 254, op := Op.binOp BinOp.add 3 (Operand.tmp 253) (Operand.const (Value.int IntKind.i64 1)) 3, type := 3, pos := "outright.go:345", after := #[{ on := 6, ground := Ground.data }], guard := none }, { dst := some 255, op := Op.indexAddr 67 (Operand.tmp 25) (Operand.tmp 254), type := 0, pos := "outright.go:345", after := #[{ on := 7, ground := Ground.data }], guard := none }, { dst := some 256, op := Op.load 3 (Operand.tmp 255), type := 3, pos := "outright.go:345", after := #[{ on := 8, ground := Ground.data }], guard := none }, { dst := some 257, op := Op.move (Operand.tmp 27), type := 3, pos := "outright.go:345", after := #[], guard := none }, { dst := some 258, op := Op.binOp BinOp.add 3 (Operand.tmp 256) (Operand.tmp 257) 3, type := 3, pos := "outright.go:345", after := #[{ on := 9, ground := Ground.data }, { on := 10, ground := Ground.data }], guard := none }, { dst := some 259, op := Op.indexAddr 67 (Operand.tmp 25) (Operand.tmp 250), type := 0, pos := "outright.go:345", after := #[{ on := 3, ground := Ground.data }, { on := 0, ground := Ground.phase }, { on := 1, ground := Ground.phase }, { on := 2, ground := Ground.phase }, { on := 3, ground := Ground.phase }, { on := 4, ground := Ground.phase }, { on := 5, ground := Ground.phase }, { on := 6, ground := Ground.phase }, { on := 7, ground := Ground.phase }, { on := 8, ground := Ground.phase }, { on := 9, ground := Ground.phase }, { on := 10, ground := Ground.phase }, { on := 11, ground := Ground.phase }], guard := none }, { dst := none, op := Op.store 3 (Operand.tmp 259) (Operand.tmp 258), type := 0, pos := "outright.go:345", after := #[{ on := 12, ground := Ground.data }, { on := 11, ground := Ground.data }, { on := 6, ground := Ground.chain }, { on := 0, ground := Ground.phase }, { on := 1, ground := Ground.phase }, { on := 2, ground := Ground.phase }, { on := 3, ground := Ground.phase }, { on := 4, ground := Ground.phase }, { on := 5, ground := Ground.phase }, { on := 6, ground := Ground.phase }, { on := 7, ground := Ground.phase }, { on := 8, ground := Ground.phase }, { on := 9, ground := Ground.phase }, { on := 10, ground := Ground.phase }, { on := 11, ground := Ground.phase }], guard := none }] false) Code.skip)))))).seq (Code.region 32 #[{ dst := some 217, op := Op.move (Operand.tmp 26), type := 3, pos := "outright.go:336", after := #[], guard := none }, { dst := some 218, op := Op.binOp BinOp.add 3 (Operand.tmp 217) (Operand.const (Value.int IntKind.i64 1)) 3, type := 3, pos := "outright.go:336", after := #[{ on := 0, ground := Ground.data }], guard := none }, { dst := some 26, op := Op.assign (Operand.tmp 218), type := 3, pos := "outright.go:336", after := #[{ on := 1, ground := Ground.data }, { on := 0, ground := Ground.phase }, { on := 1, ground := Ground.phase }], guard := none }] false))).loop)

set_option maxRecDepth 100000 in
set_option maxHeartbeats 16000000 in
theorem jo_want {x0 x1 x2 x4 x5 x6 x7 x8 x9 x10 x12 x13 x14 x15 x16 x17 x18 x19 x23 x27 x28 x29 x30 x31 x32 x33 x34 x35 x36 x37 x38 x39 x40 x41 x42 x43 x44 x45 x46 x47 x48 x49 x50 x51 x52 x53 x54 x55 x56 x57 x58 x59 x60 x61 x62 x63 x64 x65 x66 x67 x68 x69 x70 x71 x72 x73 x74 x75 x76 x77 x78 x79 x80 x81 x82 x83 x84 x85 x86 x87 x88 x89 x90 x91 x92 x93 x94 x95 x96 x97 x98 x99 x100 x101 x102 x103 x104 x105 x106 x107 x108 x109 x110 x111 x112 x113 x114 x115 x116 x117 x118 x119 x120 x121 x122 x123 x124 x125 x126 x127 x128 x129 x130 x131 x132 x133 x134 x135 x136 x137 x138 x139 x140 x141 x142 x143 x144 x145 x146 x147 x148 x149 x150 x151 x152 x153 x154 x155 x156 x157 x158 x159 x160 x161 x162 x163 x164 x165 x166 x167 x168 x169 x170 x171 x172 x173 x174 x175 x176 x177 x178 x179 x180 x181 x182 x183 x184 x185 x186 x187 x188 x189 x190 x191 x192 x193 x194 x195 x196 x197 x198 x199 x200 x201 x202 x203 x204 x205 x206 x207 x208 x209 x210 x211 x212 x213 x214 x215 x216 x217 x218 x219 x220 x221 x222 x223 x224 x225 x226 x227 x228 x229 x230 x231 x232 x233 x234 x235 x236 x237 x238 x239 x240 x241 x242 x243 x244 x245 x246 x247 x248 x249 x250 x251 x252 x253 x254 x255 x256 x257 x258 x259 x260 x261 x262 x263 x264 x265 x266 x267 x268 x269 x270 x271 x272 x273 x274 x275 x276 x277 x278 x279 x280 x281 x282 x283 x284 x285 x286 x287 x288 x289 x290 x291 x292 x293 x294 x295 x296 x297 x298 x299 x300 x301 x302 x303 x304 x305 x306 x307 : Value} (W H : Nat) (ao : Option Addr) (zs : List Int) (cap N lo hi p cb hb lb eb : Nat) (E : Int → Int → Nat) (WT : Nat → Nat → Nat) (w1 : World) (hN : N ≤ 40) (hlt : lo < hi) (hhi : hi < N) (hp : p < N) (hph : p ≠ hi) (hE : ∀ a b, E a b ≤ 576) (HFB : Hold (∀ W', Mod (fun k => k = eb) w1 W' → W'.heap[cb]? = some (.cells #[.int .i64 W, .int .i64 H, .slice ao zs.length cap] 24) ∧ IntsAt W' ao zs ∧ NowAt hb lb lo hi W'))
    (H37 : Hold (∀ (a b : Int) (W' : World), IntsAt W' ao zs → Calls Try.prog 37 #[cutV W H ao zs.length cap, .int .i64 a, .int .i64 b] W' fun e w' => e = .returned (.int .i64 (E a b : Nat)) ∧ Mod noB W' w'))
    (HS : Hold (GatherOk E N lo hi p WT)) (HE : Hold (WnAt eb (WT 0) w1)) :
    Code.wp Try.prog jo_wantBody (only fun a' w' => ∃ v : Nat → Value, a' = { tmps := List.toArray (x0 :: x1 :: x2 :: Value.pointer (some ⟨cb, 0, none⟩) :: x4 :: x5 :: x6 :: x7 :: x8 :: x9 :: x10 :: Value.int .i64 ((N : Nat)) :: x12 :: x13 :: x14 :: x15 :: x16 :: x17 :: x18 :: x19 :: Value.pointer (some ⟨lb, 0, none⟩) :: Value.pointer (some ⟨hb, 0, none⟩) :: Value.func (.func 38) #[] #[.pointer (some ⟨hb, 0, none⟩), .pointer (some ⟨lb, 0, none⟩)] :: x23 :: Value.int .i64 ((p : Nat)) :: Value.pointer (some ⟨eb, 0, none⟩) :: v 26 :: v 27 :: x28 :: x29 :: x30 :: x31 :: x32 :: x33 :: x34 :: x35 :: x36 :: x37 :: x38 :: x39 :: x40 :: x41 :: x42 :: x43 :: x44 :: x45 :: x46 :: x47 :: x48 :: x49 :: x50 :: x51 :: x52 :: x53 :: x54 :: x55 :: x56 :: x57 :: x58 :: x59 :: x60 :: x61 :: x62 :: x63 :: x64 :: x65 :: x66 :: x67 :: x68 :: x69 :: x70 :: x71 :: x72 :: x73 :: x74 :: x75 :: x76 :: x77 :: x78 :: x79 :: x80 :: x81 :: x82 :: x83 :: x84 :: x85 :: x86 :: x87 :: x88 :: x89 :: x90 :: x91 :: x92 :: x93 :: x94 :: x95 :: x96 :: x97 :: x98 :: x99 :: x100 :: x101 :: x102 :: x103 :: x104 :: x105 :: x106 :: x107 :: x108 :: x109 :: x110 :: x111 :: x112 :: x113 :: x114 :: x115 :: x116 :: x117 :: x118 :: x119 :: x120 :: x121 :: x122 :: x123 :: x124 :: x125 :: x126 :: x127 :: x128 :: x129 :: x130 :: x131 :: x132 :: x133 :: x134 :: x135 :: x136 :: x137 :: x138 :: x139 :: x140 :: x141 :: x142 :: x143 :: x144 :: x145 :: x146 :: x147 :: x148 :: x149 :: x150 :: x151 :: x152 :: x153 :: x154 :: x155 :: x156 :: x157 :: x158 :: x159 :: x160 :: x161 :: x162 :: x163 :: x164 :: x165 :: x166 :: x167 :: x168 :: x169 :: x170 :: x171 :: x172 :: x173 :: x174 :: x175 :: x176 :: x177 :: x178 :: x179 :: x180 :: x181 :: x182 :: x183 :: x184 :: x185 :: x186 :: x187 :: x188 :: x189 :: x190 :: x191 :: x192 :: x193 :: x194 :: x195 :: x196 :: x197 :: x198 :: x199 :: x200 :: x201 :: x202 :: x203 :: x204 :: x205 :: x206 :: x207 :: x208 :: x209 :: x210 :: x211 :: x212 :: x213 :: v 214 :: v 215 :: v 216 :: v 217 :: v 218 :: v 219 :: v 220 :: v 221 :: v 222 :: v 223 :: v 224 :: v 225 :: v 226 :: v 227 :: v 228 :: v 229 :: v 230 :: v 231 :: v 232 :: v 233 :: v 234 :: v 235 :: v 236 :: v 237 :: v 238 :: v 239 :: v 240 :: v 241 :: v 242 :: v 243 :: v 244 :: v 245 :: v 246 :: v 247 :: v 248 :: v 249 :: v 250 :: v 251 :: v 252 :: v 253 :: v 254 :: v 255 :: v 256 :: v 257 :: v 258 :: v 259 :: x260 :: x261 :: x262 :: x263 :: x264 :: x265 :: x266 :: x267 :: x268 :: x269 :: x270 :: x271 :: x272 :: x273 :: x274 :: x275 :: x276 :: x277 :: x278 :: x279 :: x280 :: x281 :: x282 :: x283 :: x284 :: x285 :: x286 :: x287 :: x288 :: x289 :: x290 :: x291 :: x292 :: x293 :: x294 :: x295 :: x296 :: x297 :: x298 :: x299 :: x300 :: x301 :: x302 :: x303 :: x304 :: x305 :: x306 :: x307 :: []), defers := [] } ∧ (WnAt eb (WT (N + 1)) w' ∧ Mod (fun k => k = eb) w1 w'))
      { tmps := List.toArray (x0 :: x1 :: x2 :: Value.pointer (some ⟨cb, 0, none⟩) :: x4 :: x5 :: x6 :: x7 :: x8 :: x9 :: x10 :: Value.int .i64 ((N : Nat)) :: x12 :: x13 :: x14 :: x15 :: x16 :: x17 :: x18 :: x19 :: Value.pointer (some ⟨lb, 0, none⟩) :: Value.pointer (some ⟨hb, 0, none⟩) :: Value.func (.func 38) #[] #[.pointer (some ⟨hb, 0, none⟩), .pointer (some ⟨lb, 0, none⟩)] :: x23 :: Value.int .i64 ((p : Nat)) :: Value.pointer (some ⟨eb, 0, none⟩) :: Value.int .i64 (-1) :: x27 :: x28 :: x29 :: x30 :: x31 :: x32 :: x33 :: x34 :: x35 :: x36 :: x37 :: x38 :: x39 :: x40 :: x41 :: x42 :: x43 :: x44 :: x45 :: x46 :: x47 :: x48 :: x49 :: x50 :: x51 :: x52 :: x53 :: x54 :: x55 :: x56 :: x57 :: x58 :: x59 :: x60 :: x61 :: x62 :: x63 :: x64 :: x65 :: x66 :: x67 :: x68 :: x69 :: x70 :: x71 :: x72 :: x73 :: x74 :: x75 :: x76 :: x77 :: x78 :: x79 :: x80 :: x81 :: x82 :: x83 :: x84 :: x85 :: x86 :: x87 :: x88 :: x89 :: x90 :: x91 :: x92 :: x93 :: x94 :: x95 :: x96 :: x97 :: x98 :: x99 :: x100 :: x101 :: x102 :: x103 :: x104 :: x105 :: x106 :: x107 :: x108 :: x109 :: x110 :: x111 :: x112 :: x113 :: x114 :: x115 :: x116 :: x117 :: x118 :: x119 :: x120 :: x121 :: x122 :: x123 :: x124 :: x125 :: x126 :: x127 :: x128 :: x129 :: x130 :: x131 :: x132 :: x133 :: x134 :: x135 :: x136 :: x137 :: x138 :: x139 :: x140 :: x141 :: x142 :: x143 :: x144 :: x145 :: x146 :: x147 :: x148 :: x149 :: x150 :: x151 :: x152 :: x153 :: x154 :: x155 :: x156 :: x157 :: x158 :: x159 :: x160 :: x161 :: x162 :: x163 :: x164 :: x165 :: x166 :: x167 :: x168 :: x169 :: x170 :: x171 :: x172 :: x173 :: x174 :: x175 :: x176 :: x177 :: x178 :: x179 :: x180 :: x181 :: x182 :: x183 :: x184 :: x185 :: x186 :: x187 :: x188 :: x189 :: x190 :: x191 :: x192 :: x193 :: x194 :: x195 :: x196 :: x197 :: x198 :: x199 :: x200 :: x201 :: x202 :: x203 :: x204 :: x205 :: x206 :: x207 :: x208 :: x209 :: x210 :: x211 :: x212 :: x213 :: x214 :: x215 :: x216 :: x217 :: x218 :: x219 :: x220 :: x221 :: x222 :: x223 :: x224 :: x225 :: x226 :: x227 :: x228 :: x229 :: x230 :: x231 :: x232 :: x233 :: x234 :: x235 :: x236 :: x237 :: x238 :: x239 :: x240 :: x241 :: x242 :: x243 :: x244 :: x245 :: x246 :: x247 :: x248 :: x249 :: x250 :: x251 :: x252 :: x253 :: x254 :: x255 :: x256 :: x257 :: x258 :: x259 :: x260 :: x261 :: x262 :: x263 :: x264 :: x265 :: x266 :: x267 :: x268 :: x269 :: x270 :: x271 :: x272 :: x273 :: x274 :: x275 :: x276 :: x277 :: x278 :: x279 :: x280 :: x281 :: x282 :: x283 :: x284 :: x285 :: x286 :: x287 :: x288 :: x289 :: x290 :: x291 :: x292 :: x293 :: x294 :: x295 :: x296 :: x297 :: x298 :: x299 :: x300 :: x301 :: x302 :: x303 :: x304 :: x305 :: x306 :: x307 :: []), defers := [] } w1 := by
  unfold jo_wantBody
  apply wp_block
  go_loopw [26] (fun i wr => ∃ j : Nat, j ≤ N + 1 ∧ ∃ kk : Int, kk = (j : Int) - 1 ∧ i = .int .i64 kk ∧ Hold (WnAt eb (WT j) wr ∧ Mod (fun k => k = eb) w1 wr)) (fun i _ => N + 1 - (intOf i + 1).toNat)
  case atStart => exact ⟨0, Nat.zero_le _, -1, by decide, rfl, ⟨HE.out, Mod.refl _ _⟩⟩
  case round =>
    obtain ⟨j, hj, kk, hkk, rfl, HQ⟩ := hrel
    by_cases hjn : j ≤ N
    · have hI : kk < (N : Int) := by omega
      have hk1 : -1 ≤ kk ∧ kk ≤ 40 := by omega
      obtain ⟨s1, s2, s3⟩ := HS.out j hjn
      have HED := Hold.mk (show edW E lo hi p j = (if (j : Int) - 1 = p then 0 else E p ((j : Int) - 1)) + (if p = lo ∧ (j : Int) - 1 ≠ hi then E hi ((j : Int) - 1) else 0) from rfl)
      rw [← hkk] at s1 s2 HED
      have HSS := Hold.mk (And.intro s1 (And.intro s2 s3))
      clear s1 s2 s3
      have key : (kk = (p : Int) ∧ jf lo hi kk = jf lo hi p) ∨ (kk = hi ∧ p = lo ∧ jf lo hi kk = jf lo hi p) ∨ (kk ≠ p ∧ kk ≠ hi ∧ p = lo ∧ jf lo hi kk ≠ jf lo hi p) ∨ (kk ≠ p ∧ p ≠ lo ∧ jf lo hi kk ≠ jf lo hi p) := by
        by_cases e1 : kk = p
        · exact .inl ⟨e1, by rw [e1]⟩
        · by_cases e2 : p = lo
          · by_cases e3 : kk = hi
            · exact .inr (.inl ⟨e3, e2, by rw [e3, e2, jf_eq, jf_low (by omega)]⟩)
            · refine .inr (.inr (.inl ⟨e1, e3, e2, fun e4 => ?_⟩))
              rw [e2, jf_low (by omega), pre_iff (by omega), pre_lo] at e4
              simp only [List.mem_cons, List.not_mem_nil, or_false] at e4
              omega
          · refine .inr (.inr (.inr ⟨e1, e2, fun e4 => ?_⟩))
            rw [pre_iff (by omega), pre_of (by omega) (by omega) (by omega)] at e4
            simp only [List.mem_singleton] at e4
            omega
      have HKK := Hold.mk hkk
      clear hkk
      have HF1 := Hold.mk (HFB.out wr HQ.out.2)
      have c0 := cellsAt HF1.out.2.2.1 0
      have c1 := cellsAt HF1.out.2.2.2 0
      simp at c0 c1
      have hE1 := hE p kk
      have hE2 := hE hi kk
      rcases key with ⟨rfl, e2⟩ | ⟨rfl, rfl, e2⟩ | ⟨e1, e3, rfl, e2⟩ | ⟨e1, e3, e2⟩
      · have hws := Hold.mk (HSS.out.1 e2)
        clear HSS HED
        clear e2
        have u1 : ((p : Int) != (p : Int)) = false := by simp
        have HJ : Hold (∀ (k : Int) (W' : World), NowAt hb lb lo hi W' → (-1000 ≤ k ∧ k ≤ 1000) → Calls Try.prog 38 #[.int .i64 k, .pointer (some ⟨hb, 0, none⟩), .pointer (some ⟨lb, 0, none⟩)] W' fun e w' => e = .returned (.int .i64 (jf lo hi k)) ∧ W' = w') := ⟨fun k W' h hk => (now_any k hk W' h).mono fun e w' h => ⟨h.1, h.2.symm⟩⟩
        by_cases e5 : p = lo
        · subst e5
          have u2 : ¬ ((p : Int) = (hi : Int)) := by omega
          have u3 : ((p : Int) != (hi : Int)) = true := by simpa using u2
          go_wp2_with (first
          | (refine wpList_load_row rfl 24 (.tmp 3) rfl cb rfl 24 _ (0, 0) _ HF3.out.1 Try.underlying24 rfl info24J ?_)
          | (refine wpList_load_row rfl 24 (.tmp 3) rfl cb rfl 24 _ (0, 0) _ HF1.out.1 Try.underlying24 rfl info24J ?_)
          | (go_at_call 37; refine (H37.out _ _ wr HF1.out.2.1).mono ?_; rintro e w3 ⟨rfl, hM⟩; have HQ3 : Hold (WnAt eb (WT j) w3 ∧ Mod (fun k => k = eb) w1 w3) := ⟨HQ.out.1.mod hM, HQ.out.2.thenB hM⟩; have HF3 := Hold.mk (HFB.out w3 HQ3.out.2); clear hM c0 c1; have c0 := cellsAt HF3.out.2.2.1 0; have c1 := cellsAt HF3.out.2.2.2 0; simp at c0 c1)
          | (go_at_call 38; refine (HJ.out _ _ HF4.out.2.2 (by omega)).mono ?_; rintro e w' ⟨rfl, rfl⟩)
          | (go_at_call 38; refine (HJ.out _ _ HF3.out.2.2 (by omega)).mono ?_; rintro e w' ⟨rfl, rfl⟩)
          | (go_at_call 38; refine (HJ.out _ _ HF1.out.2.2 (by omega)).mono ?_; rintro e w' ⟨rfl, rfl⟩))
          go_roundw
          case rel => exact ⟨j + 1, by omega, _, (by have := HKK.out; omega : (p : Int) + 1 = ((j + 1 : Nat) : Int) - 1), by go_num, ⟨by rw [hws.out]; exact HQ3.out.1, HQ3.out.2⟩⟩
          case measure =>
          have := HKK.out
          simp [intOf]; omega
        · have u2 : ¬ ((p : Int) = (lo : Int)) := by omega
          have u3 : ((p : Int) == (lo : Int)) = false := by simpa using u2
          go_wp2_with (first
          | (refine wpList_load_row rfl 24 (.tmp 3) rfl cb rfl 24 _ (0, 0) _ HF3.out.1 Try.underlying24 rfl info24J ?_)
          | (refine wpList_load_row rfl 24 (.tmp 3) rfl cb rfl 24 _ (0, 0) _ HF1.out.1 Try.underlying24 rfl info24J ?_)
          | (go_at_call 37; refine (H37.out _ _ wr HF1.out.2.1).mono ?_; rintro e w3 ⟨rfl, hM⟩; have HQ3 : Hold (WnAt eb (WT j) w3 ∧ Mod (fun k => k = eb) w1 w3) := ⟨HQ.out.1.mod hM, HQ.out.2.thenB hM⟩; have HF3 := Hold.mk (HFB.out w3 HQ3.out.2); clear hM c0 c1; have c0 := cellsAt HF3.out.2.2.1 0; have c1 := cellsAt HF3.out.2.2.2 0; simp at c0 c1)
          | (go_at_call 38; refine (HJ.out _ _ HF4.out.2.2 (by omega)).mono ?_; rintro e w' ⟨rfl, rfl⟩)
          | (go_at_call 38; refine (HJ.out _ _ HF3.out.2.2 (by omega)).mono ?_; rintro e w' ⟨rfl, rfl⟩)
          | (go_at_call 38; refine (HJ.out _ _ HF1.out.2.2 (by omega)).mono ?_; rintro e w' ⟨rfl, rfl⟩))
          go_roundw
          case rel => exact ⟨j + 1, by omega, _, (by have := HKK.out; omega : (p : Int) + 1 = ((j + 1 : Nat) : Int) - 1), by go_num, ⟨by rw [hws.out]; exact HQ.out.1, HQ.out.2⟩⟩
          case measure =>
          have := HKK.out
          simp [intOf]; omega
      · have hws := Hold.mk (HSS.out.1 e2)
        clear HSS HED
        have u4 : (jf p hi hi != jf p hi p) = false := by simpa using e2
        clear e2
        have u1 : ¬ ((hi : Int) = (p : Int)) := by omega
        have u2 : ((hi : Int) != (p : Int)) = true := by simpa using u1
        have HJ : Hold (∀ (k : Int) (W' : World), NowAt hb lb p hi W' → (-1000 ≤ k ∧ k ≤ 1000) → Calls Try.prog 38 #[.int .i64 k, .pointer (some ⟨hb, 0, none⟩), .pointer (some ⟨lb, 0, none⟩)] W' fun e w' => e = .returned (.int .i64 (jf p hi k)) ∧ W' = w') := ⟨fun k W' h hk => (now_any k hk W' h).mono fun e w' h => ⟨h.1, h.2.symm⟩⟩
        go_wp2_with (first
          | (refine wpList_load_row rfl 24 (.tmp 3) rfl cb rfl 24 _ (0, 0) _ HF3.out.1 Try.underlying24 rfl info24J ?_)
          | (refine wpList_load_row rfl 24 (.tmp 3) rfl cb rfl 24 _ (0, 0) _ HF1.out.1 Try.underlying24 rfl info24J ?_)
          | (go_at_call 37; refine (H37.out _ _ wr HF1.out.2.1).mono ?_; rintro e w3 ⟨rfl, hM⟩; have HQ3 : Hold (WnAt eb (WT j) w3 ∧ Mod (fun k => k = eb) w1 w3) := ⟨HQ.out.1.mod hM, HQ.out.2.thenB hM⟩; have HF3 := Hold.mk (HFB.out w3 HQ3.out.2); clear hM c0 c1; have c0 := cellsAt HF3.out.2.2.1 0; have c1 := cellsAt HF3.out.2.2.2 0; simp at c0 c1)
          | (go_at_call 38; refine (HJ.out _ _ HF4.out.2.2 (by omega)).mono ?_; rintro e w' ⟨rfl, rfl⟩)
          | (go_at_call 38; refine (HJ.out _ _ HF3.out.2.2 (by omega)).mono ?_; rintro e w' ⟨rfl, rfl⟩)
          | (go_at_call 38; refine (HJ.out _ _ HF1.out.2.2 (by omega)).mono ?_; rintro e w' ⟨rfl, rfl⟩))
        go_roundw
        case rel => exact ⟨j + 1, by omega, _, (by have := HKK.out; omega : (hi : Int) + 1 = ((j + 1 : Nat) : Int) - 1), by go_num, ⟨by rw [hws.out]; exact HQ3.out.1, HQ3.out.2⟩⟩
        case measure =>
          have := HKK.out
          simp [intOf]; omega
      · obtain ⟨q, hq, hq4, hw⟩   := HSS.out.2.1 e2
        have hq41 : (q : Int) < 41 := by omega
        have u1 : ¬ (kk = (p : Int)) := e1
        have u2 : (kk != (p : Int)) = true := by simpa using u1
        have u3 : (kk != (hi : Int)) = true := by simpa using e3
        have u4 : (jf p hi kk != jf p hi p) = true := by simpa using e2
        obtain ⟨wt, hwt⟩ : ∃ wt, WT j q = wt := ⟨_, rfl⟩
        have hwb : wt ≤ 1000000 := by rw [← hwt]; exact HSS.out.2.2 q
        have hws : Hold (WT (j + 1) = fun i => if i = q then wt + (E p kk + E hi kk) else WT j i) := ⟨by rw [hw, HED.out, if_neg e1, if_pos ⟨rfl, e3⟩, hwt]⟩
        have HJ : Hold (∀ (k : Int) (W' : World), NowAt hb lb p hi W' → (-1000 ≤ k ∧ k ≤ 1000) → Calls Try.prog 38 #[.int .i64 k, .pointer (some ⟨hb, 0, none⟩), .pointer (some ⟨lb, 0, none⟩)] W' fun e w' => e = .returned (.int .i64 (jf p hi k)) ∧ W' = w') := ⟨fun k W' h hk => (now_any k hk W' h).mono fun e w' h => ⟨h.1, h.2.symm⟩⟩
        clear HSS HED hw
        generalize hx1 : E p kk = x1 at *
        generalize hx2 : E hi kk = x2 at *
        have H37a : Hold (∀ W', IntsAt W' ao zs → Calls Try.prog 37 #[cutV W H ao zs.length cap, .int .i64 p, .int .i64 kk] W' fun e w' => e = .returned (.int .i64 (x1 : Nat)) ∧ Mod noB W' w') := ⟨fun W' h => by rw [← hx1]; exact H37.out p kk W' h⟩
        have H37b : Hold (∀ W', IntsAt W' ao zs → Calls Try.prog 37 #[cutV W H ao zs.length cap, .int .i64 hi, .int .i64 kk] W' fun e w' => e = .returned (.int .i64 (x2 : Nat)) ∧ Mod noB W' w') := ⟨fun W' h => by rw [← hx2]; exact H37.out hi kk W' h⟩
        have hwtj := hwt
        clear hx1 hx2
        go_wp2_with (first
          | (refine wpList_load_row rfl 24 (.tmp 3) rfl cb rfl 24 _ (0, 0) _ HF3.out.1 Try.underlying24 rfl info24J ?_)
          | (refine wpList_load_row rfl 24 (.tmp 3) rfl cb rfl 24 _ (0, 0) _ HF1.out.1 Try.underlying24 rfl info24J ?_)
          | (go_at_call 37; refine (H37b.out w3 HF3.out.2.1).mono ?_; rintro e w4 ⟨rfl, hM⟩; have HQ4 : Hold (WnAt eb (WT j) w4 ∧ Mod (fun k => k = eb) w1 w4) := ⟨HQ3.out.1.mod hM, HQ3.out.2.thenB hM⟩; have HF4 := Hold.mk (HFB.out w4 HQ4.out.2); clear hM c0 c1; have c0 := cellsAt HF4.out.2.2.1 0; have c1 := cellsAt HF4.out.2.2.2 0; simp at c0 c1; have d0 := HQ4.out.1.cell (i := q) (by omega); have d1 := HQ4.out.1.frozen q; rw [hwt] at d0)
          | (go_at_call 37; refine (H37a.out wr HF1.out.2.1).mono ?_; rintro e w3 ⟨rfl, hM⟩; have HQ3 : Hold (WnAt eb (WT j) w3 ∧ Mod (fun k => k = eb) w1 w3) := ⟨HQ.out.1.mod hM, HQ.out.2.thenB hM⟩; have HF3 := Hold.mk (HFB.out w3 HQ3.out.2); clear hM c0 c1; have c0 := cellsAt HF3.out.2.2.1 0; have c1 := cellsAt HF3.out.2.2.2 0; simp at c0 c1)
          | (go_at_call 38; refine (HJ.out _ _ HF4.out.2.2 (by omega)).mono ?_; rintro e w' ⟨rfl, rfl⟩)
          | (go_at_call 38; refine (HJ.out _ _ HF3.out.2.2 (by omega)).mono ?_; rintro e w' ⟨rfl, rfl⟩)
          | (go_at_call 38; refine (HJ.out _ _ HF1.out.2.2 (by omega)).mono ?_; rintro e w' ⟨rfl, rfl⟩))
        have HR5 : Hold (WnAt eb (WT (j + 1)) (w4.setCell ⟨eb, q, none⟩ (.int .i64 ((wt : Int) + ((x1 : Int) + (x2 : Int))))) ∧ Mod (fun k => k = eb) w1 (w4.setCell ⟨eb, q, none⟩ (.int .i64 ((wt : Int) + ((x1 : Int) + (x2 : Int)))))) := ⟨by rw [hws.out]; exact HQ4.out.1.set q (wt + (x1 + x2)) (by omega), HQ4.out.2.sq _⟩
        go_roundw
        case rel => exact ⟨j + 1, by omega, _, (by have := HKK.out; omega : kk + 1 = ((j + 1 : Nat) : Int) - 1), by go_num, HR5⟩
        case measure =>
          have := HKK.out
          simp [intOf]; omega
      · obtain ⟨q, hq, hq4, hw⟩   := HSS.out.2.1 e2
        have hq41 : (q : Int) < 41 := by omega
        have u1 : ¬ (kk = (p : Int)) := e1
        have u2 : (kk != (p : Int)) = true := by simpa using u1
        have u3 : ¬ ((p : Int) = (lo : Int)) := by omega
        have u5 : ((p : Int) == (lo : Int)) = false := by simpa using u3
        have u4 : (jf lo hi kk != jf lo hi p) = true := by simpa using e2
        obtain ⟨wt, hwt⟩ : ∃ wt, WT j q = wt := ⟨_, rfl⟩
        have hwb : wt ≤ 1000000 := by rw [← hwt]; exact HSS.out.2.2 q
        have hws : Hold (WT (j + 1) = fun i => if i = q then wt + E p kk else WT j i) := ⟨by rw [hw, HED.out, if_neg e1, if_neg (fun h => e3 h.1), hwt, Nat.add_zero]⟩
        have HJ : Hold (∀ (k : Int) (W' : World), NowAt hb lb lo hi W' → (-1000 ≤ k ∧ k ≤ 1000) → Calls Try.prog 38 #[.int .i64 k, .pointer (some ⟨hb, 0, none⟩), .pointer (some ⟨lb, 0, none⟩)] W' fun e w' => e = .returned (.int .i64 (jf lo hi k)) ∧ W' = w') := ⟨fun k W' h hk => (now_any k hk W' h).mono fun e w' h => ⟨h.1, h.2.symm⟩⟩
        clear HSS HED hw hE2
        generalize hx1 : E p kk = x1 at *
        have H37a : Hold (∀ W', IntsAt W' ao zs → Calls Try.prog 37 #[cutV W H ao zs.length cap, .int .i64 p, .int .i64 kk] W' fun e w' => e = .returned (.int .i64 (x1 : Nat)) ∧ Mod noB W' w') := ⟨fun W' h => by rw [← hx1]; exact H37.out p kk W' h⟩
        clear hx1
        go_wp2_with (first
          | (refine wpList_load_row rfl 24 (.tmp 3) rfl cb rfl 24 _ (0, 0) _ HF3.out.1 Try.underlying24 rfl info24J ?_)
          | (refine wpList_load_row rfl 24 (.tmp 3) rfl cb rfl 24 _ (0, 0) _ HF1.out.1 Try.underlying24 rfl info24J ?_)
          | (go_at_call 37; refine (H37a.out wr HF1.out.2.1).mono ?_; rintro e w3 ⟨rfl, hM⟩; have HQ3 : Hold (WnAt eb (WT j) w3 ∧ Mod (fun k => k = eb) w1 w3) := ⟨HQ.out.1.mod hM, HQ.out.2.thenB hM⟩; have HF3 := Hold.mk (HFB.out w3 HQ3.out.2); clear hM c0 c1; have c0 := cellsAt HF3.out.2.2.1 0; have c1 := cellsAt HF3.out.2.2.2 0; simp at c0 c1; have d0 := HQ3.out.1.cell (i := q) (by omega); have d1 := HQ3.out.1.frozen q; rw [hwt] at d0)
          | (go_at_call 38; refine (HJ.out _ _ HF4.out.2.2 (by omega)).mono ?_; rintro e w' ⟨rfl, rfl⟩)
          | (go_at_call 38; refine (HJ.out _ _ HF3.out.2.2 (by omega)).mono ?_; rintro e w' ⟨rfl, rfl⟩)
          | (go_at_call 38; refine (HJ.out _ _ HF1.out.2.2 (by omega)).mono ?_; rintro e w' ⟨rfl, rfl⟩))
        have HR5 : Hold (WnAt eb (WT (j + 1)) (w3.setCell ⟨eb, q, none⟩ (.int .i64 ((wt : Int) + (x1 : Int)))) ∧ Mod (fun k => k = eb) w1 (w3.setCell ⟨eb, q, none⟩ (.int .i64 ((wt : Int) + (x1 : Int))))) := ⟨by rw [hws.out]; exact HQ3.out.1.set q (wt + x1) (by omega), HQ3.out.2.sq _⟩
        go_roundw
        case rel => exact ⟨j + 1, by omega, _, (by have := HKK.out; omega : kk + 1 = ((j + 1 : Nat) : Int) - 1), by go_num, HR5⟩
        case measure =>
          have := HKK.out
          simp [intOf]; omega
    · obtain rfl : j = N + 1 := by omega
      obtain rfl : kk = (N : Int) := by omega
      clear hkk
      go_wp2
      first | exact ⟨rfl, end_frame _ _ _ rfl HQ.out⟩ | exact ⟨rfl, end_frame2 _ _ rfl, HQ.out⟩

end Go.Proofs.Ytogalmkeipigeaa

/- CutJoined: the loop over all pieces. (Its code and frame: written by wip/tools.) -/
namespace Go.Proofs.Ytogalmkeipigeaa
open Go Go.RowKit Go.Shelf

@[reducible] def jo_allBody : Code := (Code.block 2 (((Code.region 26 #[{ dst := some 206, op := Op.move (Operand.tmp 24), type := 3, pos := "outright.go:331", after := #[], guard := none }, { dst := some 207, op := Op.move (Operand.tmp 11), type := 3, pos := "outright.go:331", after := #[], guard := none }, { dst := some 208, op := Op.binOp BinOp.lss 3 (Operand.tmp 206) (Operand.tmp 207) 3, type := 4, pos := "outright.go:331", after := #[{ on := 0, ground := Ground.data }, { on := 1, ground := Ground.data }], guard := none }] false).seq (Code.cond (Operand.tmp 208) Code.skip (Code.exit 2))).seq ((Code.block 3 (((Code.region 28 #[{ dst := some 211, op := Op.move (Operand.tmp 24), type := 3, pos := "outright.go:332", after := #[], guard := none }, { dst := some 212, op := Op.load 3 (Operand.tmp 21), type := 3, pos := "outright.go:332", after := #[], guard := none }, { dst := some 213, op := Op.binOp BinOp.eql 3 (Operand.tmp 211) (Operand.tmp 212) 3, type := 4, pos := "outright.go:332", after := #[{ on := 0, ground := Ground.data }, { on := 1, ground := Ground.data }], guard := none }] false).seq (Code.cond (Operand.tmp 213) (Code.exit 3) Code.skip)).seq ((Code.region 29 #[{ dst := some 25, op := Op.alloc 67, type := 0, pos := "outright.go:335", after := #[], guard := none }] false).seq (((Code.region 30 #[{ dst := some 26, op := Op.assign (Operand.const (Value.int IntKind.i64 (-1))), type := 3, pos := "outright.go:336", after := #[], guard := none }] false).seq (Code.block 4 (((Code.region 31 #[{ dst := some 214, op := Op.move (Operand.tmp 26), type := 3, pos := "outright.go:336", after := #[], guard := none }, { dst := some 215, op := Op.move (Operand.tmp 11), type := 3, pos := "outright.go:336", after := #[], guard := none }, { dst := some 216, op := Op.binOp BinOp.lss 3 (Operand.tmp 214) (Operand.tmp 215) 3, type := 4, pos := "outright.go:336", after := #[{ on := 0, ground := Ground.data }, { on := 1, ground := Ground.data }], guard := none }] false).seq (Code.cond (Operand.tmp 216) Code.skip (Code.exit 4))).seq ((Code.block 5 ((Code.region 33 #[{ dst := some 27, op := Op.assign (Operand.const (Value.int IntKind.i64 0)), type := 3, pos := "outright.go:337", after := #[], guard := none }] false).seq (((Code.region 34 #[{ dst := some 219, op := Op.move (Operand.tmp 26), type := 3, pos := "outright.go:338", after := #[], guard := none }, { dst := some 220, op := Op.move (Operand.tmp 24), type := 3, pos := "outright.go:338", after := #[], guard := none }, { dst := some 221, op := Op.binOp BinOp.neq 3 (Operand.tmp 219) (Operand.tmp 220) 3, type := 4, pos := "outright.go:338", after := #[{ on := 0, ground := Ground.data }, { on := 1, ground := Ground.data }], guard := none }] false).seq (Code.cond (Operand.tmp 221) (Code.region 35 #[{ dst := some 222, op := Op.load 24 (Operand.tmp 3), type := 24, pos := "outright.go:339", after := #[], guard := none }, { dst := some 223, op := Op.move (Operand.tmp 24), type := 3, pos := "outright.go:339", after := #[], guard := none }, { dst := some 224, op := Op.move (Operand.tmp 26), type := 3, pos := "outright.go:339", after := #[], guard := none }, { dst := some 225, op := Op.call { callee := Callee.value (Operand.func 37), args := #[Operand.tmp 222, Operand.tmp 223, Operand.tmp 224], argTypes := #[24, 3, 3] }, type := 3, pos := "outright.go:339", after := #[{ on := 0, ground := Ground.data }, { on := 1, ground := Ground.data }, { on := 2, ground := Ground.data }], guard := none }, { dst := some 27, op := Op.assign (Operand.tmp 225), type := 3, pos := "outright.go:339", after := #[{ on := 3, ground := Ground.data }, { on := 3, ground := Ground.chain }, { on := 0, ground := Ground.phase }, { on := 1, ground := Ground.phase }, { on := 2, ground := Ground.phase }, { on := 3, ground := Ground.phase }], guard := none }] false) Code.skip)).seq (((Code.region 36 #[{ dst := some 226, op := Op.move (Operand.tmp 24), type := 3, pos := "outright.go:341", after := #[], guard := none }, { dst := some 227, op := Op.load 3 (Operand.tmp 20), type := 3, pos := "outright.go:341", after := #[], guard := none }, { dst := some 228, op := Op.binOp BinOp.eql 3 (Operand.tmp 226) (Operand.tmp 227) 3, type := 4, pos := "outright.go:341", after := #[{ on := 0, ground := Ground.data }, { on := 1, ground := Ground.data }], guard := none }, { dst := some 229, op := Op.move (Operand.tmp 228), type := 4, pos := "outright.go:341", after := #[{ on := 2, ground := Ground.data }], guard := none }, { dst := some 230, op := Op.move (Operand.tmp 26), type := 3, pos := "outright.go:341", after := #[{ on := 3, ground := Ground.guard }], guard := some (3, true) }, { dst := some 231, op := Op.load 3 (Operand.tmp 21), type := 3, pos := "outright.go:341", after := #[{ on := 3, ground := Ground.guard }], guard := some (3, true) }, { dst := some 232, op := Op.binOp BinOp.neq 3 (Operand.tmp 230) (Operand.tmp 231) 3, type := 4, pos := "outright.go:341", after := #[{ on := 4, ground := Ground.data }, { on := 5, ground := Ground.data }, { on := 3, ground := Ground.guard }], guard := some (3, true) }, { dst := some 233, op := Op.pick (Operand.tmp 229) (Operand.tmp 232) (Operand.const (Value.bool false)), type := 4, pos := "outright.go:341", after := #[{ on := 3, ground := Ground.data }, { on := 6, ground := Ground.data }], guard := none }] false).seq (Code.cond (Operand.tmp 233) (Code.region 37 #[{ dst := some 234, op := Op.move (Operand.tmp 27), type := 3, pos := "outright.go:342", after := #[], guard := none }, { dst := some 235, op := Op.load 24 (Operand.tmp 3), type := 24, pos := "outright.go:342", after := #[], guard := none }, { dst := some 236, op := Op.load 3 (Operand.tmp 21), type := 3, pos := "outright.go:342", after := #[], guard := none }, { dst := some 237, op := Op.move (Operand.tmp 26), type := 3, pos := "outright.go:342", after := #[], guard := none }, { dst := some 238, op := Op.call { callee := Callee.value (Operand.func 37), args := #[Operand.tmp 235, Operand.tmp 236, Operand.tmp 237], argTypes := #[24, 3, 3] }, type := 3, pos := "outright.go:342", after := #[{ on := 1, ground := Ground.data }, { on := 2, ground := Ground.data }, { on := 3, ground := Ground.data }], guard := none }, { dst := some 239, op := Op.binOp BinOp.add 3 (Operand.tmp 234) (Operand.tmp 238) 3, type := 3, pos := "outright.go:342", after := #[{ on := 0, ground := Ground.data }, { on := 4, ground := Ground.data }], guard := none }, { dst := some 27, op := Op.assign (Operand.tmp 239), type := 3, pos := "outright.go:342", after := #[{ on := 5, ground := Ground.data }, { on := 4, ground := Ground.chain }, { on := 0, ground := Ground.phase }, { on := 1, ground := Ground.phase }, { on := 2, ground := Ground.phase }, { on := 3, ground := Ground.phase }, { on := 4, ground := Ground.phase }, { on := 5, ground := Ground.phase }], guard := none }] false) Code.skip)).seq ((Code.region 38 #[{ dst := some 240, op := Op.move (Operand.tmp 22), type := 66, pos := "outright.go:344", after := #[], guard := none }, { dst := some 241, op := Op.move (Operand.tmp 26), type := 3, pos := "outright.go:344", after := #[], guard := none }, { dst := some 242, op := Op.call { callee := Callee.value (Operand.tmp 240), args := #[Operand.tmp 241], argTypes := #[3] }, type := 3, pos := "outright.go:344", after := #[{ on := 0, ground := Ground.data }, { on := 1, ground := Ground.data }], guard := none }, { dst := some 243, op := Op.move (Operand.tmp 22), type := 66, pos := "outright.go:344", after := #[], guard := none }, { dst := some 244, op := Op.move (Operand.tmp 24), type := 3, pos := "outright.go:344", after := #[], guard := none }, { dst := some 245, op := Op.call { callee := Callee.value (Operand.tmp 243), args := #[Operand.tmp 244], argTypes := #[3] }, type := 3, pos := "outright.go:344", after := #[{ on := 3, ground := Ground.data }, { on := 4, ground := Ground.data }, { on := 2, ground := Ground.chain }], guard := none }, { dst := some 246, op := Op.binOp BinOp.neq 3 (Operand.tmp 242) (Operand.tmp 245) 3, type := 4, pos := "outright.go:344", after := #[{ on := 2, ground := Ground.data }, { on := 5, ground := Ground.data }], guard := none }] false).seq (Code.cond (Operand.tmp 246) (Code.region 39 #[{ dst := some 247, op := Op.move (Operand.tmp 22), type := 66, pos := "outright.go:345", after := #[], guard := none }, { dst := some 248, op := Op.move (Operand.tmp 26), type := 3, pos := "outright.go:345", after := #[], guard := none }, { dst := some 249, op := Op.call { callee := Callee.value (Operand.tmp 247), args := #[Operand.tmp 248], argTypes := #[3] }, type := 3, pos := "outright.go:345", after := #[{ on := 0, ground := Ground.data }, { on := 1, ground := Ground.data }], guard := none }, { dst := some 250, op := Op.binOp BinOp.add 3 (Operand.tmp 249) (Operand.const (Value.int IntKind.i64 1)) 3, type := 3, pos := "outright.go:345", after := #[{ on := 2, ground := Ground.data }], guard := none }, { dst := some 251, op := Op.move (Operand.tmp 22), type := 66, pos := "outright.go:345", after := #[], guard := none }, { dst := some 252, op := Op.move (Operand.tmp 26), type := 3, pos := "outright.go:345", after := #[], guard := none }, { dst := some 253, op := Op.call { callee := Callee.value (Operand.tmp 251), args := #[Operand.tmp 252], argTypes := #[3] }, type := 3, pos := "outright.go:345", after := #[{ on := 4, ground := Ground.data }, { on := 5, ground := Ground.data }, { on := 2, ground := Ground.chain }], guard := none }, { dst := some 254, op := Op.binOp BinOp.add 3 (Operand.tmp 253) (Operand.const (Value.int IntKind.i64 1)) 3, type := 3, pos := "outright.go:345", after := #[{ on := 6, ground := Ground.data }], guard := none }, { dst := some 255, op := Op.indexAddr 67 (Operand.tmp 25) (Operand.tmp 254), type := 0, pos := "outright.go:345", after := #[{ on := 7, ground := Ground.data }], guard := none }, { dst := some 256, op := Op.load 3 (Operand.tmp 255), type := 3, pos := "outright.go:345", after := #[{ on := 8, ground := Ground.data }], guard := none }, { dst := some 257, op := Op.move (Operand.tmp 27), type := 3, pos := "outright.go:345", after := #[], guard := none }, { dst := some 258, op := Op.binOp BinOp.add 3 (Operand.tmp 256) (Operand.tmp 257) 3, type := 3, pos := "outright.go:345", after := #[{ on := 9, ground := Ground.data }, { on := 10, ground := Ground.data }], guard := none }, { dst := some 259, op := Op.indexAddr 67 (Operand.tmp 25) (Operand.tmp 250), type := 0, pos := "outright.go:345", after := #[{ on := 3, ground := Ground.data }, { on := 0, ground := Ground.phase }, { on := 1, ground := Ground.phase }, { on := 2, ground := Ground.phase }, { on := 3, ground := Ground.phase }, { on := 4, ground := Ground.phase }, { on := 5, ground := Ground.phase }, { on := 6, ground := Ground.phase }, { on := 7, ground := Ground.phase }, { on := 8, ground := Ground.phase }, { on := 9, ground := Ground.phase }, { on := 10, ground := Ground.phase }, { on := 11, ground := Ground.phase }], guard := none }, { dst := none, op := Op.store 3 (Operand.tmp 259) (Operand.tmp 258), type := 0, pos := "outright.go:345", after := #[{ on := 12, ground := Ground.data }, { on := 11, ground := Ground.data }, { on := 6, ground := Ground.chain }, { on := 0, ground := Ground.phase }, { on := 1, ground := Ground.phase }, { on := 2, ground := Ground.phase }, { on := 3, ground := Ground.phase }, { on := 4, ground := Ground.phase }, { on := 5, ground := Ground.phase }, { on := 6, ground := Ground.phase }, { on := 7, ground := Ground.phase }, { on := 8, ground := Ground.phase }, { on := 9, ground := Ground.phase }, { on := 10, ground := Ground.phase }, { on := 11, ground := Ground.phase }], guard := none }] false) Code.skip)))))).seq (Code.region 32 #[{ dst := some 217, op := Op.move (Operand.tmp 26), type := 3, pos := "outright.go:336", after := #[], guard := none }, { dst := some 218, op := Op.binOp BinOp.add 3 (Operand.tmp 217) (Operand.const (Value.int IntKind.i64 1)) 3, type := 3, pos := "outright.go:336", after := #[{ on := 0, ground := Ground.data }], guard := none }, { dst := some 26, op := Op.assign (Operand.tmp 218), type := 3, pos := "outright.go:336", after := #[{ on := 1, ground := Ground.data }, { on := 0, ground := Ground.phase }, { on := 1, ground := Ground.phase }], guard := none }] false))).loop)).seq ((Code.region 40 #[{ dst := some 261, op := Op.load 24 (Operand.tmp 7), type := 24, pos := "outright.go:348", after := #[], guard := none }, { dst := some 262, op := Op.move (Operand.tmp 22), type := 66, pos := "outright.go:348", after := #[], guard := none }, { dst := some 263, op := Op.move (Operand.tmp 24), type := 3, pos := "outright.go:348", after := #[], guard := none }, { dst := some 264, op := Op.call { callee := Callee.value (Operand.tmp 262), args := #[Operand.tmp 263], argTypes := #[3] }, type := 3, pos := "outright.go:348", after := #[{ on := 1, ground := Ground.data }, { on := 2, ground := Ground.data }], guard := none }, { dst := some 265, op := Op.call { callee := Callee.value (Operand.func 16), args := #[Operand.tmp 261, Operand.tmp 264], argTypes := #[24, 3] }, type := 31, pos := "outright.go:348", after := #[{ on := 0, ground := Ground.data }, { on := 3, ground := Ground.data }, { on := 3, ground := Ground.chain }], guard := none }, { dst := some 260, op := Op.move (Operand.tmp 265), type := 31, pos := "outright.go:348", after := #[{ on := 4, ground := Ground.data }], guard := none }, { dst := some 266, op := Op.extract (Operand.tmp 260) 0, type := 30, pos := "outright.go:348", after := #[{ on := 5, ground := Ground.data }], guard := none }, { dst := some 267, op := Op.extract (Operand.tmp 260) 1, type := 27, pos := "outright.go:348", after := #[{ on := 5, ground := Ground.data }, { on := 8, ground := Ground.gcOnly Go.Departure.lateStores }], guard := none }, { dst := some 28, op := Op.assign (Operand.tmp 266), type := 30, pos := "outright.go:348", after := #[{ on := 6, ground := Ground.data }, { on := 4, ground := Ground.chain }, { on := 0, ground := Ground.phase }, { on := 1, ground := Ground.phase }, { on := 2, ground := Ground.phase }, { on := 3, ground := Ground.phase }, { on := 4, ground := Ground.phase }, { on := 5, ground := Ground.phase }, { on := 6, ground := Ground.phase }, { on := 7, ground := Ground.textOnly Go.Departure.lateStores }], guard := none }, { dst := some 29, op := Op.assign (Operand.tmp 267), type := 27, pos := "outright.go:348", after := #[{ on := 7, ground := Ground.data }, { on := 8, ground := Ground.chain }, { on := 0, ground := Ground.phase }, { on := 1, ground := Ground.phase }, { on := 2, ground := Ground.phase }, { on := 3, ground := Ground.phase }, { on := 4, ground := Ground.phase }, { on := 5, ground := Ground.phase }, { on := 6, ground := Ground.phase }, { on := 7, ground := Ground.phase }, { on := 8, ground := Ground.phase }], guard := none }] true).seq (((Code.region 41 #[{ dst := some 268, op := Op.move (Operand.tmp 29), type := 27, pos := "outright.go:349", after := #[], guard := none }, { dst := some 269, op := Op.binOp BinOp.neq 27 (Operand.tmp 268) (Operand.const (Value.int IntKind.i64 0)) 27, type := 4, pos := "outright.go:349", after := #[{ on := 0, ground := Ground.data }], guard := none }] false).seq (Code.cond (Operand.tmp 269) ((Code.region 42 #[{ dst := some 6, op := Op.assign (Operand.const (Value.bool false)), type := 4, pos := "outright.go:350", after := #[], guard := none }] false).seq Code.ret) Code.skip)).seq (((Code.region 43 #[{ dst := some 270, op := Op.move (Operand.tmp 28), type := 30, pos := "outright.go:352", after := #[], guard := none }, { dst := some 271, op := Op.call { callee := Callee.builtin Builtin.len, args := #[Operand.tmp 270], argTypes := #[30] }, type := 3, pos := "outright.go:352", after := #[{ on := 0, ground := Ground.data }], guard := none }, { dst := some 272, op := Op.move (Operand.const (Value.int IntKind.i64 0)), type := 3, pos := "outright.go:352", after := #[], guard := none }] false).seq (Code.block 6 ((Code.region 44 #[{ dst := some 273, op := Op.binOp BinOp.lss 3 (Operand.tmp 272) (Operand.tmp 271) 3, type := 0, pos := "outright.go:352", after := #[], guard := none }] false).seq ((Code.cond (Operand.tmp 273) Code.skip (Code.exit 6)).seq ((Code.block 7 ((Code.region 45 #[{ dst := some 274, op := Op.indexAddr 30 (Operand.tmp 270) (Operand.tmp 272), type := 0, pos := "outright.go:352", after := #[], guard := none }, { dst := some 275, op := Op.load 54 (Operand.tmp 274), type := 54, pos := "outright.go:352", after := #[{ on := 0, ground := Ground.data }], guard := none }, { dst := some 31, op := Op.alloc 54, type := 0, pos := "outright.go:352", after := #[], guard := none }, { dst := none, op := Op.store 54 (Operand.tmp 31) (Operand.tmp 275), type := 0, pos := "outright.go:352", after := #[{ on := 2, ground := Ground.data }, { on := 1, ground := Ground.data }, { on := 0, ground := Ground.phase }, { on := 1, ground := Ground.phase }, { on := 2, ground := Ground.phase }], guard := none }] false).seq (((Code.region 46 #[{ dst := some 276, op := Op.fieldAddr 54 (Operand.tmp 31) 0, type := 0, pos := "outright.go:353", after := #[], guard := none }, { dst := some 277, op := Op.load 3 (Operand.tmp 276), type := 3, pos := "outright.go:353", after := #[{ on := 0, ground := Ground.data }], guard := none }, { dst := some 278, op := Op.binOp BinOp.lss 3 (Operand.tmp 277) (Operand.const (Value.int IntKind.i64 (-1))) 3, type := 4, pos := "outright.go:353", after := #[{ on := 1, ground := Ground.data }], guard := none }, { dst := some 279, op := Op.move (Operand.tmp 278), type := 4, pos := "outright.go:353", after := #[{ on := 2, ground := Ground.data }], guard := none }, { dst := some 280, op := Op.fieldAddr 54 (Operand.tmp 31) 0, type := 0, pos := "outright.go:353", after := #[{ on := 3, ground := Ground.guard }], guard := some (3, false) }, { dst := some 281, op := Op.load 3 (Operand.tmp 280), type := 3, pos := "outright.go:353", after := #[{ on := 4, ground := Ground.data }, { on := 3, ground := Ground.guard }], guard := some (3, false) }, { dst := some 282, op := Op.move (Operand.tmp 11), type := 3, pos := "outright.go:353", after := #[{ on := 3, ground := Ground.guard }], guard := some (3, false) }, { dst := some 283, op := Op.binOp BinOp.geq 3 (Operand.tmp 281) (Operand.tmp 282) 3, type := 4, pos := "outright.go:353", after := #[{ on := 5, ground := Ground.data }, { on := 6, ground := Ground.data }, { on := 3, ground := Ground.guard }], guard := some (3, false) }, { dst := some 284, op := Op.pick (Operand.tmp 279) (Operand.const (Value.bool true)) (Operand.tmp 283), type := 4, pos := "outright.go:353", after := #[{ on := 3, ground := Ground.data }, { on := 7, ground := Ground.data }], guard := none }, { dst := some 285, op := Op.move (Operand.tmp 284), type := 4, pos := "outright.go:353", after := #[{ on := 8, ground := Ground.data }, { on := 3, ground := Ground.chain }], guard := none }, { dst := some 286, op := Op.fieldAddr 54 (Operand.tmp 31) 0, type := 0, pos := "outright.go:353", after := #[{ on := 9, ground := Ground.guard }], guard := some (9, false) }, { dst := some 287, op := Op.load 3 (Operand.tmp 286), type := 3, pos := "outright.go:353", after := #[{ on := 10, ground := Ground.data }, { on := 9, ground := Ground.guard }], guard := some (9, false) }, { dst := some 288, op := Op.binOp BinOp.add 3 (Operand.tmp 287) (Operand.const (Value.int IntKind.i64 1)) 3, type := 3, pos := "outright.go:353", after := #[{ on := 11, ground := Ground.data }, { on := 9, ground := Ground.guard }], guard := some (9, false) }, { dst := some 289, op := Op.indexAddr 67 (Operand.tmp 25) (Operand.tmp 288), type := 0, pos := "outright.go:353", after := #[{ on := 12, ground := Ground.data }, { on := 9, ground := Ground.guard }], guard := some (9, false) }, { dst := some 290, op := Op.load 3 (Operand.tmp 289), type := 3, pos := "outright.go:353", after := #[{ on := 13, ground := Ground.data }, { on := 9, ground := Ground.guard }], guard := some (9, false) }, { dst := some 291, op := Op.fieldAddr 54 (Operand.tmp 31) 1, type := 0, pos := "outright.go:353", after := #[{ on := 9, ground := Ground.guard }], guard := some (9, false) }, { dst := some 292, op := Op.load 3 (Operand.tmp 291), type := 3, pos := "outright.go:353", after := #[{ on := 15, ground := Ground.data }, { on := 9, ground := Ground.guard }], guard := some (9, false) }, { dst := some 293, op := Op.binOp BinOp.neq 3 (Operand.tmp 290) (Operand.tmp 292) 3, type := 4, pos := "outright.go:353", after := #[{ on := 14, ground := Ground.data }, { on := 16, ground := Ground.data }, { on := 9, ground := Ground.guard }], guard := some (9, false) }, { dst := some 294, op := Op.pick (Operand.tmp 285) (Operand.const (Value.bool true)) (Operand.tmp 293), type := 4, pos := "outright.go:353", after := #[{ on := 9, ground := Ground.data }, { on := 17, ground := Ground.data }], guard := none }] true).seq (Code.cond (Operand.tmp 294) ((Code.region 47 #[{ dst := some 6, op := Op.assign (Operand.const (Value.bool false)), type := 4, pos := "outright.go:354", after := #[], guard := none }] false).seq Code.ret) Code.skip)).seq (Code.region 48 #[{ dst := some 295, op := Op.fieldAddr 54 (Operand.tmp 31) 0, type := 0, pos := "outright.go:356", after := #[], guard := none }, { dst := some 296, op := Op.load 3 (Operand.tmp 295), type := 3, pos := "outright.go:356", after := #[{ on := 0, ground := Ground.data }], guard := none }, { dst := some 297, op := Op.binOp BinOp.add 3 (Operand.tmp 296) (Operand.const (Value.int IntKind.i64 1)) 3, type := 3, pos := "outright.go:356", after := #[{ on := 1, ground := Ground.data }], guard := none }, { dst := some 298, op := Op.indexAddr 67 (Operand.tmp 25) (Operand.tmp 297), type := 0, pos := "outright.go:356", after := #[{ on := 2, ground := Ground.data }, { on := 0, ground := Ground.phase }, { on := 1, ground := Ground.phase }, { on := 2, ground := Ground.phase }], guard := none }, { dst := none, op := Op.store 3 (Operand.tmp 298) (Operand.const (Value.int IntKind.i64 0)), type := 0, pos := "outright.go:356", after := #[{ on := 3, ground := Ground.data }, { on := 0, ground := Ground.phase }, { on := 1, ground := Ground.phase }, { on := 2, ground := Ground.phase }], guard := none }] false)))).seq (Code.region 49 #[{ dst := some 299, op := Op.binOp BinOp.add 3 (Operand.tmp 272) (Operand.const (Value.int IntKind.i64 1)) 3, type := 3, pos := "outright.go:352", after := #[], guard := none }, { dst := some 272, op := Op.move (Operand.tmp 299), type := 3, pos := "outright.go:352", after := #[{ on := 0, ground := Ground.data }], guard := none }] false)))).loop)).seq ((Code.region 50 #[{ dst := some 300, op := Op.load 67 (Operand.tmp 25), type := 67, pos := "outright.go:358", after := #[], guard := none }, { dst := some 301, op := Op.move (Operand.const (Value.int IntKind.i64 0)), type := 3, pos := "outright.go:358", after := #[], guard := none }] false).seq (Code.block 8 ((Code.region 51 #[{ dst := some 302, op := Op.binOp BinOp.lss 3 (Operand.tmp 301) (Operand.const (Value.int IntKind.i64 41)) 3, type := 0, pos := "outright.go:358", after := #[], guard := none }] false).seq ((Code.cond (Operand.tmp 302) Code.skip (Code.exit 8)).seq ((Code.block 9 ((Code.region 52 #[{ dst := some 303, op := Op.index 67 (Operand.tmp 300) (Operand.tmp 301), type := 3, pos := "outright.go:358", after := #[], guard := none }, { dst := some 33, op := Op.assign (Operand.tmp 303), type := 3, pos := "outright.go:358", after := #[{ on := 0, ground := Ground.data }, { on := 0, ground := Ground.phase }], guard := none }] false).seq ((Code.region 53 #[{ dst := some 304, op := Op.move (Operand.tmp 33), type := 3, pos := "outright.go:359", after := #[], guard := none }, { dst := some 305, op := Op.binOp BinOp.neq 3 (Operand.tmp 304) (Operand.const (Value.int IntKind.i64 0)) 3, type := 4, pos := "outright.go:359", after := #[{ on := 0, ground := Ground.data }], guard := none }] false).seq (Code.cond (Operand.tmp 305) ((Code.region 54 #[{ dst := some 6, op := Op.assign (Operand.const (Value.bool false)), type := 4, pos := "outright.go:360", after := #[], guard := none }] false).seq Code.ret) Code.skip)))).seq (Code.region 55 #[{ dst := some 306, op := Op.binOp BinOp.add 3 (Operand.tmp 301) (Operand.const (Value.int IntKind.i64 1)) 3, type := 3, pos := "outright.go:358", after := #[], guard := none }, { dst := some 301, op := Op.move (Operand.tmp 306), type := 3, pos := "outright.go:358", after := #[{ on := 0, ground := Ground.data }], guard := none }] false)))).loop))))))))).seq (Code.region 27 #[{ dst := some 209, op := Op.move (Operand.tmp 24), type := 3, pos := "outright.go:331", after := #[], guard := none }, { dst := some 210, op := Op.binOp BinOp.add 3 (Operand.tmp 209) (Operand.const (Value.int IntKind.i64 1)) 3, type := 3, pos := "outright.go:331", after := #[{ on := 0, ground := Ground.data }], guard := none }, { dst := some 24, op := Op.assign (Operand.tmp 210), type := 3, pos := "outright.go:331", after := #[{ on := 1, ground := Ground.data }, { on := 0, ground := Ground.phase }, { on := 1, ground := Ground.phase }], guard := none }] false))).loop)

set_option maxRecDepth 100000 in
set_option maxHeartbeats 16000000 in
theorem jo_all {x0 x1 x2 x4 x5 x6 x8 x9 x10 x12 x13 x14 x15 x16 x17 x18 x19 x23 x25 x26 x27 x28 x29 x30 x31 x32 x33 x34 x35 x36 x37 x38 x39 x40 x41 x42 x43 x44 x45 x46 x47 x48 x49 x50 x51 x52 x53 x54 x55 x56 x57 x58 x59 x60 x61 x62 x63 x64 x65 x66 x67 x68 x69 x70 x71 x72 x73 x74 x75 x76 x77 x78 x79 x80 x81 x82 x83 x84 x85 x86 x87 x88 x89 x90 x91 x92 x93 x94 x95 x96 x97 x98 x99 x100 x101 x102 x103 x104 x105 x106 x107 x108 x109 x110 x111 x112 x113 x114 x115 x116 x117 x118 x119 x120 x121 x122 x123 x124 x125 x126 x127 x128 x129 x130 x131 x132 x133 x134 x135 x136 x137 x138 x139 x140 x141 x142 x143 x144 x145 x146 x147 x148 x149 x150 x151 x152 x153 x154 x155 x156 x157 x158 x159 x160 x161 x162 x163 x164 x165 x166 x167 x168 x169 x170 x171 x172 x173 x174 x175 x176 x177 x178 x179 x180 x181 x182 x183 x184 x185 x186 x187 x188 x189 x190 x191 x192 x193 x194 x195 x196 x197 x198 x199 x200 x201 x202 x203 x204 x205 x206 x207 x208 x209 x210 x211 x212 x213 x214 x215 x216 x217 x218 x219 x220 x221 x222 x223 x224 x225 x226 x227 x228 x229 x230 x231 x232 x233 x234 x235 x236 x237 x238 x239 x240 x241 x242 x243 x244 x245 x246 x247 x248 x249 x250 x251 x252 x253 x254 x255 x256 x257 x258 x259 x260 x261 x262 x263 x264 x265 x266 x267 x268 x269 x270 x271 x272 x273 x274 x275 x276 x277 x278 x279 x280 x281 x282 x283 x284 x285 x286 x287 x288 x289 x290 x291 x292 x293 x294 x295 x296 x297 x298 x299 x300 x301 x302 x303 x304 x305 x306 x307 : Value} (W H : Nat) (ao xo : Option Addr) (zs : List Int) (cap xcap N lo hi cb xb hb lb : Nat) (E : Int → Int → Nat) (WT : Nat → Nat → Nat → Nat) (n : Nat → Nat) (P : Nat → Nat → Int) (M : Nat → Nat → Nat) (ZT : Nat → Nat → Nat → Nat) (w1 : World) (hN : N ≤ 40) (hlt : lo < hi) (hhi : hi < N) (hE : ∀ a b, E a b ≤ 576) (HFB : Hold (∀ W', Mod noB w1 W' → W'.heap[cb]? = some (.cells #[.int .i64 W, .int .i64 H, .slice ao zs.length cap] 24) ∧ IntsAt W' ao zs ∧ W'.heap[xb]? = some (.cells #[.int .i64 W, .int .i64 H, .slice xo zs.length xcap] 24) ∧ IntsAt W' xo (zs.map (jf lo hi)) ∧ NowAt hb lb lo hi W'))
    (H37 : Hold (∀ (a b : Int) (W' : World), IntsAt W' ao zs → Calls Try.prog 37 #[cutV W H ao zs.length cap, .int .i64 a, .int .i64 b] W' fun e w' => e = .returned (.int .i64 (E a b : Nat)) ∧ Mod noB W' w'))
    (H16 : Hold (∀ (p eb : Nat) (W' : World), p < N → p ≠ hi → IntsAt W' xo (zs.map (jf lo hi)) → eb < W'.heap.size → Calls Try.prog 16 #[cutV W H xo zs.length xcap, .int .i64 (jf lo hi p)] W' fun e w' => ∃ so scap, e = .returned (.tuple #[.slice so (n p) scap, .int .i64 0]) ∧ SideRow eb (n p) so (P p) (M p) w' ∧ Mod noB W' w'))
    (HS : Hold (∀ p, p < N → p ≠ hi → GatherOk E N lo hi p (WT p) ∧ WT p 0 = (fun _ => 0) ∧ WT p (N + 1) = ZT p 0))
    (HZ : Hold (∀ p, p < N → p ≠ hi → ZeroOk N (n p) (P p) (M p) (ZT p) ∧ (∀ j, j < n p → P p j < N) ∧ ZT p (n p) = (fun _ => 0) ∧ n p ≤ 1000)) :
    Code.wp Try.prog jo_allBody (only fun a' w' => ∃ v : Nat → Value, a' = { tmps := List.toArray (x0 :: x1 :: x2 :: Value.pointer (some ⟨cb, 0, none⟩) :: x4 :: x5 :: v 6 :: Value.pointer (some ⟨xb, 0, none⟩) :: x8 :: x9 :: x10 :: Value.int .i64 ((N : Nat)) :: x12 :: x13 :: x14 :: x15 :: x16 :: x17 :: x18 :: x19 :: Value.pointer (some ⟨lb, 0, none⟩) :: Value.pointer (some ⟨hb, 0, none⟩) :: Value.func (.func 38) #[] #[.pointer (some ⟨hb, 0, none⟩), .pointer (some ⟨lb, 0, none⟩)] :: x23 :: v 24 :: v 25 :: v 26 :: v 27 :: v 28 :: v 29 :: x30 :: v 31 :: x32 :: v 33 :: x34 :: x35 :: x36 :: x37 :: x38 :: x39 :: x40 :: x41 :: x42 :: x43 :: x44 :: x45 :: x46 :: x47 :: x48 :: x49 :: x50 :: x51 :: x52 :: x53 :: x54 :: x55 :: x56 :: x57 :: x58 :: x59 :: x60 :: x61 :: x62 :: x63 :: x64 :: x65 :: x66 :: x67 :: x68 :: x69 :: x70 :: x71 :: x72 :: x73 :: x74 :: x75 :: x76 :: x77 :: x78 :: x79 :: x80 :: x81 :: x82 :: x83 :: x84 :: x85 :: x86 :: x87 :: x88 :: x89 :: x90 :: x91 :: x92 :: x93 :: x94 :: x95 :: x96 :: x97 :: x98 :: x99 :: x100 :: x101 :: x102 :: x103 :: x104 :: x105 :: x106 :: x107 :: x108 :: x109 :: x110 :: x111 :: x112 :: x113 :: x114 :: x115 :: x116 :: x117 :: x118 :: x119 :: x120 :: x121 :: x122 :: x123 :: x124 :: x125 :: x126 :: x127 :: x128 :: x129 :: x130 :: x131 :: x132 :: x133 :: x134 :: x135 :: x136 :: x137 :: x138 :: x139 :: x140 :: x141 :: x142 :: x143 :: x144 :: x145 :: x146 :: x147 :: x148 :: x149 :: x150 :: x151 :: x152 :: x153 :: x154 :: x155 :: x156 :: x157 :: x158 :: x159 :: x160 :: x161 :: x162 :: x163 :: x164 :: x165 :: x166 :: x167 :: x168 :: x169 :: x170 :: x171 :: x172 :: x173 :: x174 :: x175 :: x176 :: x177 :: x178 :: x179 :: x180 :: x181 :: x182 :: x183 :: x184 :: x185 :: x186 :: x187 :: x188 :: x189 :: x190 :: x191 :: x192 :: x193 :: x194 :: x195 :: x196 :: x197 :: x198 :: x199 :: x200 :: x201 :: x202 :: x203 :: x204 :: x205 :: v 206 :: v 207 :: v 208 :: v 209 :: v 210 :: v 211 :: v 212 :: v 213 :: v 214 :: v 215 :: v 216 :: v 217 :: v 218 :: v 219 :: v 220 :: v 221 :: v 222 :: v 223 :: v 224 :: v 225 :: v 226 :: v 227 :: v 228 :: v 229 :: v 230 :: v 231 :: v 232 :: v 233 :: v 234 :: v 235 :: v 236 :: v 237 :: v 238 :: v 239 :: v 240 :: v 241 :: v 242 :: v 243 :: v 244 :: v 245 :: v 246 :: v 247 :: v 248 :: v 249 :: v 250 :: v 251 :: v 252 :: v 253 :: v 254 :: v 255 :: v 256 :: v 257 :: v 258 :: v 259 :: v 260 :: v 261 :: v 262 :: v 263 :: v 264 :: v 265 :: v 266 :: v 267 :: v 268 :: v 269 :: v 270 :: v 271 :: v 272 :: v 273 :: v 274 :: v 275 :: v 276 :: v 277 :: v 278 :: v 279 :: v 280 :: v 281 :: v 282 :: v 283 :: v 284 :: v 285 :: v 286 :: v 287 :: v 288 :: v 289 :: v 290 :: v 291 :: v 292 :: v 293 :: v 294 :: v 295 :: v 296 :: v 297 :: v 298 :: v 299 :: v 300 :: v 301 :: v 302 :: v 303 :: v 304 :: v 305 :: v 306 :: x307 :: []), defers := [] } ∧ (Mod noB w1 w'))
      { tmps := List.toArray (x0 :: x1 :: x2 :: Value.pointer (some ⟨cb, 0, none⟩) :: x4 :: x5 :: x6 :: Value.pointer (some ⟨xb, 0, none⟩) :: x8 :: x9 :: x10 :: Value.int .i64 ((N : Nat)) :: x12 :: x13 :: x14 :: x15 :: x16 :: x17 :: x18 :: x19 :: Value.pointer (some ⟨lb, 0, none⟩) :: Value.pointer (some ⟨hb, 0, none⟩) :: Value.func (.func 38) #[] #[.pointer (some ⟨hb, 0, none⟩), .pointer (some ⟨lb, 0, none⟩)] :: x23 :: Value.int .i64 (0) :: x25 :: x26 :: x27 :: x28 :: x29 :: x30 :: x31 :: x32 :: x33 :: x34 :: x35 :: x36 :: x37 :: x38 :: x39 :: x40 :: x41 :: x42 :: x43 :: x44 :: x45 :: x46 :: x47 :: x48 :: x49 :: x50 :: x51 :: x52 :: x53 :: x54 :: x55 :: x56 :: x57 :: x58 :: x59 :: x60 :: x61 :: x62 :: x63 :: x64 :: x65 :: x66 :: x67 :: x68 :: x69 :: x70 :: x71 :: x72 :: x73 :: x74 :: x75 :: x76 :: x77 :: x78 :: x79 :: x80 :: x81 :: x82 :: x83 :: x84 :: x85 :: x86 :: x87 :: x88 :: x89 :: x90 :: x91 :: x92 :: x93 :: x94 :: x95 :: x96 :: x97 :: x98 :: x99 :: x100 :: x101 :: x102 :: x103 :: x104 :: x105 :: x106 :: x107 :: x108 :: x109 :: x110 :: x111 :: x112 :: x113 :: x114 :: x115 :: x116 :: x117 :: x118 :: x119 :: x120 :: x121 :: x122 :: x123 :: x124 :: x125 :: x126 :: x127 :: x128 :: x129 :: x130 :: x131 :: x132 :: x133 :: x134 :: x135 :: x136 :: x137 :: x138 :: x139 :: x140 :: x141 :: x142 :: x143 :: x144 :: x145 :: x146 :: x147 :: x148 :: x149 :: x150 :: x151 :: x152 :: x153 :: x154 :: x155 :: x156 :: x157 :: x158 :: x159 :: x160 :: x161 :: x162 :: x163 :: x164 :: x165 :: x166 :: x167 :: x168 :: x169 :: x170 :: x171 :: x172 :: x173 :: x174 :: x175 :: x176 :: x177 :: x178 :: x179 :: x180 :: x181 :: x182 :: x183 :: x184 :: x185 :: x186 :: x187 :: x188 :: x189 :: x190 :: x191 :: x192 :: x193 :: x194 :: x195 :: x196 :: x197 :: x198 :: x199 :: x200 :: x201 :: x202 :: x203 :: x204 :: x205 :: x206 :: x207 :: x208 :: x209 :: x210 :: x211 :: x212 :: x213 :: x214 :: x215 :: x216 :: x217 :: x218 :: x219 :: x220 :: x221 :: x222 :: x223 :: x224 :: x225 :: x226 :: x227 :: x228 :: x229 :: x230 :: x231 :: x232 :: x233 :: x234 :: x235 :: x236 :: x237 :: x238 :: x239 :: x240 :: x241 :: x242 :: x243 :: x244 :: x245 :: x246 :: x247 :: x248 :: x249 :: x250 :: x251 :: x252 :: x253 :: x254 :: x255 :: x256 :: x257 :: x258 :: x259 :: x260 :: x261 :: x262 :: x263 :: x264 :: x265 :: x266 :: x267 :: x268 :: x269 :: x270 :: x271 :: x272 :: x273 :: x274 :: x275 :: x276 :: x277 :: x278 :: x279 :: x280 :: x281 :: x282 :: x283 :: x284 :: x285 :: x286 :: x287 :: x288 :: x289 :: x290 :: x291 :: x292 :: x293 :: x294 :: x295 :: x296 :: x297 :: x298 :: x299 :: x300 :: x301 :: x302 :: x303 :: x304 :: x305 :: x306 :: x307 :: []), defers := [] } w1 := by
  unfold jo_allBody
  apply wp_block
  go_loopw [24] (fun i wr => ∃ p : Nat, p ≤ N ∧ i = .int .i64 p ∧ Hold (Mod noB w1 wr)) (fun i _ => N - (intOf i).toNat)
  case atStart => exact ⟨0, Nat.zero_le _, rfl, ⟨Mod.refl _ _⟩⟩
  case round =>
    obtain ⟨p, hp, rfl, HQ⟩ := hrel
    by_cases hpN : p < N
    · have hI : (p : Int) < (N : Int) := by omega
      have HF1 := Hold.mk (HFB.out wr HQ.out)
      have c0 := cellsAt HF1.out.2.2.2.2.1 0
      simp at c0
      by_cases hph : p = hi
      · have e1 : (p : Int) = (hi : Int) := by omega
        clear HS HZ H16
        subst hph
        clear e1
        go_wp2
        go_roundw
        case rel => exact ⟨p + 1, by omega, by go_num, HQ⟩
        case measure => simp [intOf]; omega
      · have e1 : ¬ ((p : Int) = (hi : Int)) := by omega
        have e2 : ((p : Int) == (hi : Int)) = false := by simpa using e1
        have HS1 := Hold.mk (HS.out p hpN hph)
        have HZ1 := Hold.mk (HZ.out p hpN hph)
        have H16' := Hold.mk (fun eb W' => H16.out p eb W' hpN hph)
        go_upto_region 29 with fail
        refine region_alloc67 ?_
        simp only [Act.put, List.setIfInBounds_toArray, List.set_cons_succ, List.set_cons_zero]
        obtain ⟨w4, hw4⟩ : ∃ w4, wr.alloc (.cells (fcells 41 fun _ => .int .i64 0) 67) = w4 := ⟨_, rfl⟩
        have HE4 : Hold (WnAt wr.heap.size (WT p 0) w4) := ⟨by rw [HS1.out.2.1, ← hw4]; exact World.alloc_heap_new _ _⟩
        have HM4 : Hold (Mod noB w1 w4) := ⟨by rw [← hw4]; exact HQ.out.alloc _⟩
        have HLT : Hold (w1.heap.size ≤ wr.heap.size) := ⟨HQ.out.size⟩
        have HFX : Hold (∀ W', Mod (fun k => k = wr.heap.size) w4 W' → Mod noB w1 W') := ⟨fun W' hm => HM4.out.then hm (fun i h1 h2 => by have := HLT.out; omega)⟩
        rw [hw4]
        clear hw4 HF1 c0
        go_upto_block 4 with fail
        refine wp_mono (jo_want W H ao zs cap N lo hi p cb hb lb wr.heap.size E (WT p) w4 hN hlt hhi hpN hph hE ⟨fun W' hm => ⟨(HFB.out W' (HFX.out W' hm)).1, (HFB.out W' (HFX.out W' hm)).2.1, (HFB.out W' (HFX.out W' hm)).2.2.2.2⟩⟩ H37 ⟨HS1.out.1⟩ HE4) (then_only ?_)
        rintro a' w5 ⟨v, rfl, ho, hm⟩
        have HR5 : Hold (WnAt wr.heap.size (ZT p 0) w5 ∧ Mod (fun k => k = wr.heap.size) w4 w5) := ⟨by rw [← HS1.out.2.2]; exact ho, hm⟩
        clear ho hm
        have HF5 := Hold.mk (HFB.out w5 (HFX.out w5 HR5.out.2))
        have HSZ : Hold (∀ W', Mod noB w5 W' → wr.heap.size < W'.heap.size) := ⟨fun W' hm => (Array.getElem?_eq_some_iff.1 (HR5.out.1.mod hm)).1⟩
        go_upto_region 40 with fail
        refine region_jb (xb := xb) (hb := hb) (lb := lb) (lw := lo) (gt := hi) (p := p) (eb := wr.heap.size) (m := n p) (cv := #[.int .i64 W, .int .i64 H, .slice xo zs.length xcap]) (P := P p) (M := M p) rfl rfl rfl rfl (by omega) (fun W' hm => hm.at HF5.out.2.2.1 id) rfl HF5.out.2.2.2.2 (fun W' hm => H16'.out wr.heap.size W' (HFB.out W' ((HFX.out w5 HR5.out.2).trans hm)).2.2.2.1 (HSZ.out W' hm)) ?_
        intro vs w6 hM h8 h9
        simp only [jbDs, List.foldl_cons, List.foldl_nil, Act.put, List.setIfInBounds_toArray, List.set_cons_succ, List.set_cons_zero]
        obtain ⟨so, scap, h8, hR⟩ := h8
        rw [h8, h9]
        have HR6 : Hold (SideRow wr.heap.size (n p) so (P p) (M p) w6 ∧ WnAt wr.heap.size (ZT p 0) w6 ∧ Mod (fun k => k = wr.heap.size) w4 w6) := ⟨hR, HR5.out.1.mod hM, HR5.out.2.thenB hM⟩
        clear h8 h9 hR hM
        go_upto_block 6 with fail
        refine wp_mono (jo_zero so N (n p) scap wr.heap.size (P p) (M p) (ZT p) w6 hN HZ1.out.2.2.2 ⟨HZ1.out.1⟩ ⟨HZ1.out.2.1⟩ ⟨HR6.out.1⟩ ⟨HR6.out.2.1⟩) (then_only ?_)
        rintro a' w7 ⟨v2, rfl, ho, hm⟩
        have HR7 : Hold (w7.heap[wr.heap.size]? = some (.cells (fcells 41 fun _ => .int .i64 0) 67) ∧ Mod (fun k => k = wr.heap.size) w4 w7) := ⟨by rw [HZ1.out.2.2.1] at ho; exact ho, HR6.out.2.2.trans hm⟩
        clear ho hm
        go_upto_block 8 with (refine wpList_load_row rfl 67 (.tmp 25) rfl wr.heap.size rfl 67 _ (0, 0) _ HR7.out.1 Try.underlying67 rfl (by rw [fcells_size]; kernel_rfl) ?_)
        refine wp_mono (jo_none w7) (blk_only ?_)
        rintro a' w8 ⟨v3, rfl, hm⟩
        have HM8 : Hold (Mod noB w1 w8) := ⟨HFX.out w8 (HR7.out.2.thenB hm)⟩
        clear hm
        go_wp2
        go_roundw
        case rel => exact ⟨p + 1, by omega, by go_num, HM8⟩
        case measure => simp [intOf]; omega
    · obtain rfl : p = N := by omega
      go_wp2
      first | exact ⟨rfl, end_frame _ _ _ rfl HQ.out⟩ | exact ⟨rfl, end_frame2 _ _ rfl, HQ.out⟩

end Go.Proofs.Ytogalmkeipigeaa

/- CutJoined: what is no cut, what is not made one. -/
namespace Go.Proofs.Ytogalmkeipigeaa
open Go Go.RowKit Go.Shelf

theorem join_anyJ (W H : Int) (ao : Option Addr) (zs : List Int) (cap : Nat) (a b : Int) (w : World) (hs : IntsAt w ao zs) :
    Calls Try.prog 27 #[cutV W H ao zs.length cap, .int .i64 a, .int .i64 b] w fun e w' => JoinOut e w w' (joinR W H zs a b) := by
  by_cases h : (checkR W H zs).2 = 0
  · obtain ⟨W, H, rfl, rfl, C⟩ := isCutB_true (checkR_ok h).1
    exact join_yes C ao cap a b w hs h
  · exact join_no W H ao zs cap a b w hs h
theorem joinR_swap {W H : Nat} {zs : List Int} (C : CutN W H zs) (a b : Int) : joinR W H zs a b = joinR W H zs b a := by
  unfold joinR
  by_cases h : (checkR W H zs).2 = 0
  · have hn : ¬ ((checkR W H zs).2 ≠ 0) := fun h' => h' h
    rw [if_neg hn, if_neg hn]
    by_cases h2 : ¬ (0 ≤ a ∧ a < many zs) ∨ ¬ (0 ≤ b ∧ b < many zs) ∨ a = b
    · have h3 : ¬ (0 ≤ b ∧ b < many zs) ∨ ¬ (0 ≤ a ∧ a < many zs) ∨ b = a := by
        rcases h2 with h2 | h2 | h2
        · exact .inr (.inl h2)
        · exact .inl h2
        · exact .inr (.inr h2.symm)
      rw [if_pos h2, if_pos h3]
    · have h3 : ¬ (¬ (0 ≤ b ∧ b < many zs) ∨ ¬ (0 ≤ a ∧ a < many zs) ∨ b = a) := fun h3 => h2 (by
        rcases h3 with h2 | h2 | h2
        · exact .inr (.inl h2)
        · exact .inl h2
        · exact .inr (.inr h2.symm))
      rw [if_neg h2, if_neg h3]
      have hab : b ≠ a := fun e => h2 (.inr (.inr e.symm))
      have ha : 0 ≤ a := by omega
      have hb : 0 ≤ b := by omega
      have e : (facedL (laidG (W : Int).toNat zs zs.length) (W : Int).toNat (H : Int).toNat a).count b = (facedL (laidG (W : Int).toNat zs zs.length) (W : Int).toNat (H : Int).toNat b).count a := by
        simp only [Int.toNat_natCast]
        rw [← edgesTo_faced _ W H a b hab, ← edgesTo_faced _ W H b a (Ne.symm hab)]
        exact edges_sym C.grid ha hb
      rw [e, Int.min_comm a b, Int.max_comm a b]
  · rw [if_pos h, if_pos h]
set_option maxRecDepth 100000 in
set_option maxHeartbeats 4000000 in
theorem joined_nocut (W H : Int) (ao : Option Addr) (n cap : Nat) (a b : Int) (w : World) (h : ∀ w1, Mod noB (w.alloc (.cells #[.int .i64 W, .int .i64 H, .slice ao n cap] 24)) w1 → Calls Try.prog 30 #[cutV W H ao n cap] w1 fun e w' => e = .returned (.bool false) ∧ Mod noB w1 w') :
    Calls Try.prog 11 #[cutV W H ao n cap, .int .i64 a, .int .i64 b] w fun e w' => e = .returned (.bool true) ∧ Mod noB w w' := by
  have HM0 := Hold.mk ((Mod.refl noB w).alloc (.cells #[.int .i64 W, .int .i64 H, .slice ao n cap] 24))
  have HO := Hold.mk (h _ (Mod.refl _ _))
  clear h
  go_enter Try.func11, Try.ntmps11
  go_wp2_with (first
    | (go_at_call 30; refine HO.out.mono ?_; rintro e w1 ⟨rfl, hM⟩; have HM1 := Hold.mk hM; clear hM)
    | (go_at_call 13; refine (awake_any _).mono ?_; rintro e w2 ⟨rfl, hM⟩; have HM2 := Hold.mk hM; clear hM))
  go_ret
  exact ⟨rfl, (HM0.out.trans HM1.out).trans HM2.out⟩

set_option maxRecDepth 100000 in
set_option maxHeartbeats 4000000 in
theorem joined_err {W H : Nat} {zs : List Int} (C : CutN W H zs) (ao : Option Addr) (cap : Nat) (a b : Int) (w : World) (hs : IntsAt w ao zs) (hb : isCutB W H zs = true) (er : Int) (her : er ≠ 0)
    (hj : joinR W H zs a b = ((0, 0, []), er)) (hg : (checkR W H zs).2 = 0 ∨ (checkR W H zs).2 = er) :
    Calls Try.prog 11 #[cutV W H ao zs.length cap, .int .i64 a, .int .i64 b] w fun e w' => e = .returned (.bool true) ∧ Mod noB w w' := by
  have HB := Hold.mk (box_facts (W := W) (H := H) (cap := cap) hs)
  have HM0 := Hold.mk ((Mod.refl noB w).alloc (.cells #[.int .i64 W, .int .i64 H, .slice ao zs.length cap] 24))
  have HD : Hold (∀ w1, IntsAt w1 ao zs → Calls Try.prog 30 #[cutV W H ao zs.length cap] w1 fun e w' => e = .returned (.bool true) ∧ Mod noB w1 w') := ⟨fun w1 hi => by
    have := refCut_any W H ao zs cap w1 hi
    rw [hb] at this
    exact this⟩
  have HJ1 : Hold (∀ w1, IntsAt w1 ao zs → Calls Try.prog 27 #[cutV W H ao zs.length cap, .int .i64 a, .int .i64 b] w1 fun e w' => ∃ xo xcap, e = .returned (.tuple #[cutV 0 0 xo 0 xcap, .int .i64 er]) ∧ Mod noB w1 w') := ⟨fun w1 hi => by
    refine (join_anyJ W H ao zs cap a b w1 hi).mono ?_
    rintro e w' ⟨xo, xcap, rfl, h1, _, h2⟩
    rw [hj]
    exact ⟨xo, xcap, rfl, h2⟩⟩
  have HJ2 : Hold (∀ w1, IntsAt w1 ao zs → Calls Try.prog 27 #[cutV W H ao zs.length cap, .int .i64 b, .int .i64 a] w1 fun e w' => ∃ xo xcap, e = .returned (.tuple #[cutV 0 0 xo 0 xcap, .int .i64 er]) ∧ Mod noB w1 w') := ⟨fun w1 hi => by
    refine (join_anyJ W H ao zs cap b a w1 hi).mono ?_
    rintro e w' ⟨xo, xcap, rfl, h1, _, h2⟩
    rw [← joinR_swap C, hj]
    exact ⟨xo, xcap, rfl, h2⟩⟩
  have HS : Hold (∀ (xo yo : Option Addr) (c d : Nat) (w1 : World), Calls Try.prog 29 #[cutV 0 0 xo 0 c, cutV 0 0 yo 0 d] w1 fun e w' => e = .returned (.bool true) ∧ Mod noB w1 w') :=
    ⟨fun xo yo c d w1 => cut_same 0 0 xo yo [] c d w1 ⟨fun h => absurd rfl h, Nat.zero_le _⟩ ⟨fun h => absurd rfl h, Nat.zero_le _⟩⟩
  have HC := Hold.mk (fun w1 => check_any W H ao zs cap w1)
  have he : (er != 0) = true := by simpa using her
  generalize (checkR W H zs).1 = k1 at *
  obtain ⟨g, hg2⟩ : ∃ g, (checkR W H zs).2 = g := ⟨_, rfl⟩
  rw [hg2] at hg HC
  clear hs hb hj hg2 C
  rcases hg with rfl | rfl
  all_goals
    go_enter Try.func11, Try.ntmps11
    go_wp2_with (first
      | (go_at_call 30; refine (HD.out _ (HB.out _ (Mod.refl _ _)).2.2.2).mono ?_; rintro e w1 ⟨rfl, hM⟩; obtain ⟨c0, c1, c2, hI⟩ := HB.out _ hM; have HW1 := Hold.mk (And.intro hM hI); clear hM hI HD)
      | (go_at_call 27; refine (HJ1.out w1 HW1.out.2).mono ?_; rintro e w2 ⟨xo, xcap, rfl, hM⟩; clear c0 c1 c2; have HW2 := Hold.mk ((HW1.out.1.trans hM).alloc (.cells #[.int .i64 0, .int .i64 0, .slice xo 0 xcap] 24)); obtain ⟨c0, c1, c2, hI⟩ := HB.out _ HW2.out; have HI2 := Hold.mk hI; have HX2 := Hold.mk (World.alloc_heap_new w2 (.cells #[.int .i64 0, .int .i64 0, .slice xo 0 xcap] 24)); clear hM hI HJ1)
      | (go_at_call 27; refine (HJ2.out _ HI2.out).mono ?_; rintro e w3 ⟨yo, ycap, rfl, hM⟩; clear c0 c1 c2; have HX3 := Hold.mk ((hM.alloc (.cells #[.int .i64 0, .int .i64 0, .slice yo 0 ycap] 24)).at HX2.out id); have HW3 := Hold.mk ((HW2.out.trans hM).alloc (.cells #[.int .i64 0, .int .i64 0, .slice yo 0 ycap] 24)); obtain ⟨c0, c1, c2, hI⟩ := HB.out _ HW3.out; have d0 := cellsAt HX3.out 0; have d1 := cellsAt HX3.out 1; have d2 := cellsAt HX3.out 2; simp at d0 d1 d2; clear hM hI HJ2)
      | (go_at_call 29; refine (HS.out _ _ _ _ _).mono ?_; rintro e w4 ⟨rfl, hM⟩; clear c0 c1 c2 d0 d1 d2; have HX4 := Hold.mk (hM.at HX3.out id); have HW4 := Hold.mk (HW3.out.trans hM); obtain ⟨c0, c1, c2, hI⟩ := HB.out _ HW4.out; have HI4 := Hold.mk hI; clear hM hI HS)
      | (go_at_call 14; refine (HC.out w4 HI4.out).mono ?_; rintro e w5 ⟨rfl, hM⟩; clear c0 c1 c2; have HX5 := Hold.mk (hM.at HX4.out id); have d2 := cellsAt HX5.out 2; simp at d2; have HW5 := Hold.mk (HW4.out.trans hM); clear hM HC)
      | (go_at_call 13; refine (awake_any _).mono ?_; rintro e w6 ⟨rfl, hM⟩; have HM6 := Hold.mk hM; clear hM))
    go_ret
    exact ⟨rfl, HM0.out.trans (HW5.out.trans HM6.out)⟩
end Go.Proofs.Ytogalmkeipigeaa

/- CutJoined: two pieces that are made one. -/
namespace Go.Proofs.Ytogalmkeipigeaa
open Go Go.RowKit Go.Shelf

theorem isCutB_of {W H : Nat} {zs : List Int} (C : CutN W H zs) : isCutB W H zs = true := by
  unfold isCutB
  have := C.len
  have h1 := C.w1
  have h2 := C.w2
  have h3 := C.h1
  have h4 := C.h2
  simp only [Bool.and_eq_true, decide_eq_true_eq, Bool.not_eq_true', List.any_eq_false, Bool.or_eq_true, not_or]
  refine ⟨⟨by omega, by rw [this]; simp⟩, fun z hz => ?_⟩
  have := C.num z hz
  simp; omega
theorem jf_range {lo hi N : Nat} (hlt : lo < hi) (hhi : hi < N) {k : Int} (h1 : -1 ≤ k) (h2 : k < N) : -1 ≤ jf lo hi k ∧ jf lo hi k < (N : Int) - 1 ∧ (0 ≤ k → 0 ≤ jf lo hi k) := by
  unfold jf
  split
  · omega
  · split <;> omega
theorem gather_ok {E : Int → Int → Nat} {N lo hi p : Nat} (hE : ∀ a b, E a b ≤ 576) (hlt : lo < hi) (hhi : hi < N) (hN : N ≤ 40) : GatherOk E N lo hi p (wantT E lo hi p) := by
  intro j hj
  have hr := jf_range hlt hhi (k := (j : Int) - 1) (by omega) (by omega)
  refine ⟨fun h => ?_, fun h => ⟨(jf lo hi ((j : Int) - 1) + 1).toNat, by omega, by omega, ?_⟩, fun i => ?_⟩
  · funext i
    unfold wantT
    rw [sm_succ, if_neg (fun h' => h'.1 h), Nat.add_zero]
  · funext i
    unfold wantT
    rw [sm_succ]
    by_cases e : i = (jf lo hi ((j : Int) - 1) + 1).toNat
    · rw [if_pos e, if_pos ⟨h, by omega⟩, ← e]
    · rw [if_neg e, if_neg (fun h' => e (by omega)), Nat.add_zero]
  · have : wantT E lo hi p j i ≤ 1152 * j := sm_le2 fun u => by
      split
      · unfold edW
        have h1 := hE p ((u : Int) - 1)
        have h2 := hE hi ((u : Int) - 1)
        split <;> split <;> omega
      · omega
    omega

/-- The joined cut in memory. -/
def XAt (W H : Int) (n xb : Nat) (xo : Option Addr) (xcap : Nat) (zs' : List Int) (W' : World) : Prop := W'.heap[xb]? = some (.cells #[.int .i64 W, .int .i64 H, .slice xo n xcap] 24) ∧ IntsAt W' xo zs'
theorem XAt.mod {W H : Int} {n xb : Nat} {xo : Option Addr} {xcap : Nat} {zs' : List Int} {A B : World} (h : XAt W H n xb xo xcap zs' A) (hm : Mod noB A B) : XAt W H n xb xo xcap zs' B := ⟨hm.at h.1 id, h.2.mod hm (fun _ _ _ _ h => h)⟩
theorem XAt.cells {W H : Int} {n xb : Nat} {xo : Option Addr} {xcap : Nat} {zs' : List Int} {A : World} (h : XAt W H n xb xo xcap zs' A) : A.cell? ⟨xb, 0, none⟩ = some (.int .i64 W) ∧ A.cell? ⟨xb, 1, none⟩ = some (.int .i64 H) ∧ A.cell? ⟨xb, 2, none⟩ = some (.slice xo n xcap) := by
  refine ⟨?_, ?_, ?_⟩ <;> simp [World.cell?, h.1]
theorem ints_mod {w w' : World} {ao : Option Addr} {zs : List Int} (h : IntsAt w ao zs) (hm : Mod noB w w') : IntsAt w' ao zs := h.mod hm (fun _ _ _ _ h => h)

set_option maxRecDepth 100000 in
set_option maxHeartbeats 16000000 in
theorem joined_yes {W H : Nat} {zs : List Int} (C : CutN W H zs) (ao : Option Addr) (cap : Nat) (a b : Nat) (w : World) (hs : IntsAt w ao zs) (h : (checkR W H zs).2 = 0) (ha : a < many zs) (hb : b < many zs) (hab : a ≠ b)
    (hc : (facedL (laidG W zs zs.length) W H a).count (b : Int) ≠ 0) :
    Calls Try.prog 11 #[cutV W H ao zs.length cap, .int .i64 a, .int .i64 b] w fun e w' => e = .returned (.bool true) ∧ Mod noB w w' := by
  have hlen : zs.length ≤ 144 := by rw [C.len]; exact Nat.mul_le_mul C.w2 C.h2
  obtain ⟨N, hN⟩ : ∃ N, many zs = N := ⟨_, rfl⟩
  rw [hN] at ha hb
  have hN40 : N ≤ 40 := by rw [← hN]; exact C.many_le.2
  obtain ⟨g, hg⟩ : ∃ g, laidG W zs zs.length = g := ⟨_, rfl⟩
  have G := C.grid
  have hgN : ∀ q, atG g q < N := fun q => by rw [← hg, ← hN]; exact at_many2 C q
  rw [hg] at G hc
  obtain ⟨lo, hi, hlt, hhi, hmin, hmax, hfc, hEs⟩ : ∃ lo hi : Nat, lo < hi ∧ hi < N ∧ min (a : Int) b = lo ∧ max (a : Int) b = hi ∧ (facedL g W H lo).count (hi : Int) ≠ 0 ∧ edgesTo g W a b (H * W) = edgesTo g W lo hi (H * W) := by
    have hs2 := edges_sym G (a := (a : Int)) (b := (b : Int)) (by omega) (by omega)
    rcases Nat.lt_or_ge a b with e | e
    · exact ⟨a, b, e, hb, by omega, by omega, hc, rfl⟩
    · refine ⟨b, a, by omega, ha, by omega, by omega, ?_, hs2⟩
      rw [← edgesTo_faced g W H (b : Int) (a : Int) (by omega), ← hs2, edgesTo_faced g W H (a : Int) (b : Int) (by omega)]
      exact hc
  have hf : (hi : Int) ∈ facedL (laidG W zs zs.length) W H lo := by rw [hg]; exact List.count_pos_iff.1 (Nat.pos_of_ne_zero hfc)
  obtain ⟨C', hm', hb'⟩ := cut_join C h hN hlt hhi
  have hck' := check_join C h hN hlt hhi hf
  have hat := fun p => atG_join (W := W) (zs := zs) hlt p
  obtain ⟨zs', hzs'⟩ : ∃ zs', zs.map (jf lo hi) = zs' := ⟨_, rfl⟩
  have hl' : zs'.length = zs.length := by rw [← hzs', List.length_map]
  rw [hzs'] at C' hm' hb' hck' hat
  obtain ⟨g', hg'⟩ : ∃ g', laidG W zs' zs'.length = g' := ⟨_, rfl⟩
  have G' := C'.grid
  rw [hg'] at G' hat
  rw [hg] at hat
  have hgN' : ∀ q, atG g' q < (N - 1 : Nat) := fun q => by rw [← hg', ← hm']; exact at_many2 C' q
  have hb1 := (checkR_ok h).1
  have hck : checkR W H zs = ((N : Int), 0) := by rw [(checkR_ok h).2, hN]
  have h' : (checkR W H zs').2 = 0 := by rw [hck']
  have hE : ∀ x y : Int, edgesTo g W x y (H * W) ≤ 576 := fun x y => Nat.le_trans (edgesTo_le _ _ _ _ _) (by have : H * W ≤ 144 := Nat.le_trans (Nat.mul_le_mul C.h2 C.w2) (by decide); omega)
  have hE' : ∀ x y : Int, edgesTo g' W x y (H * W) ≤ 576 := fun x y => Nat.le_trans (edgesTo_le _ _ _ _ _) (by have : H * W ≤ 144 := Nat.le_trans (Nat.mul_le_mul C.h2 C.w2) (by decide); omega)
  have cells : ∀ (zs : List Int) (C : CutN W H zs) (N : Nat) (hN : many zs = N), sm N (fun k => cellsN (laidG W zs zs.length) W H k) = W * H := fun zs C N hN => by
    have hm := many_eq zs
    rw [sm_congr (fun k _ => cells_count (W := W) (H := H) (zs := zs) C.w1 C.len (k : Int)), ← C.len]
    exact cells_total fun v hv => ⟨(C.num v hv).1, by have := le_greatest2 hv; omega⟩
  have hlj := len_join G G' hlt hhi hat hgN hgN' (by rw [← hg]; exact cells zs C N hN) (by rw [← hg']; exact cells zs' C' (N - 1) hm')
  obtain ⟨com, hcom⟩ : ∃ com, edgesTo g W a b (H * W) = com := ⟨_, rfl⟩
  rw [← hEs, hcom] at hlj
  have hcom1 : 1 ≤ com := by rw [← hcom, edgesTo_faced g W H (a : Int) (b : Int) (by omega)]; omega
  have hcom2 : com ≤ 576 := by rw [← hcom]; exact hE _ _
  obtain ⟨len, hlen1⟩ : ∃ n, (edgesL g W H).count true = n := ⟨_, rfl⟩
  obtain ⟨len2, hlen2⟩ : ∃ n, (edgesL g' W H).count true = n := ⟨_, rfl⟩
  rw [hlen1, hlen2] at hlj
  have lines : ∀ (zs : List Int) (C : CutN W H zs) (h : (checkR W H zs).2 = 0) (g : Int × Int → Option Int) (hg : laidG W zs zs.length = g) (len : Nat) (hl : (edgesL g W H).count true = len), ∃ l2 l3 l4 : Int, ∀ (ao : Option Addr) (cap : Nat) (w1 : World), IntsAt w1 ao zs → Calls Try.prog 22 #[cutV W H ao zs.length cap] w1 fun e w' => e = .returned (.tuple #[linesV ((len : Nat), l2, l3, l4), .int .i64 0]) ∧ Mod noB w1 w' := fun zs C h g hg len hl => by
    refine ⟨(((pointsL g W H).count 1 : Nat) : Int), (((pointsL g W H).count 2 : Nat) : Int), (((pointsL g W H).count 3 : Nat) : Int), fun ao cap w1 hi => ?_⟩
    have := lines_yes C ao cap w1 hi h
    have hR : linesR W H zs = (((((edgesL g W H).count true : Nat) : Int), (((pointsL g W H).count 1 : Nat) : Int), (((pointsL g W H).count 2 : Nat) : Int), (((pointsL g W H).count 3 : Nat) : Int)), 0) := by
      unfold linesR; rw [if_neg (fun h' => h' h), ← hg]; rfl
    rw [hR, hl] at this
    exact this
  obtain ⟨l2, l3, l4, hLc⟩ := lines zs C h g hg len hlen1
  obtain ⟨k2, k3, k4, hLx⟩ := lines zs' C' h' g' hg' len2 hlen2
  have hlenb : len ≤ 1000000 := by
    have ht := (who_total C hg hN).2.2.1
    rw [hlen1] at ht
    have h1 : tc g W H N N ≤ 23040 * N := sm_le2 fun k => Nat.le_trans (sm_le2 (k := 576) (fun b => by
      split
      · omega
      · exact hE _ _)) (by omega)
    omega
  have HLc := Hold.mk (fun w1 => hLc ao cap w1)
  have HLx : Hold (∀ (xo : Option Addr) (xcap : Nat) (w1 : World), IntsAt w1 xo zs' → Calls Try.prog 22 #[cutV W H xo zs.length xcap] w1 fun e w' => e = .returned (.tuple #[linesV ((len2 : Nat), k2, k3, k4), .int .i64 0]) ∧ Mod noB w1 w') := ⟨fun xo xcap w1 hi => by rw [← hl']; exact hLx xo xcap w1 hi⟩
  have HC : Hold (∀ w1, IntsAt w1 ao zs → Calls Try.prog 14 #[cutV W H ao zs.length cap] w1 fun e w' => e = .returned (.tuple #[.int .i64 (N : Int), .int .i64 0]) ∧ Mod noB w1 w') := ⟨fun w1 hi => by
    have := check_any W H ao zs cap w1 hi
    rw [hck] at this
    exact this⟩
  have HCX : Hold (∀ (xo : Option Addr) (xcap : Nat) (w1 : World), IntsAt w1 xo zs' → Calls Try.prog 14 #[cutV W H xo zs.length xcap] w1 fun e w' => e = .returned (.tuple #[.int .i64 ((N : Int) - 1), .int .i64 0]) ∧ Mod noB w1 w') := ⟨fun xo xcap w1 hi => by
    have := check_any W H xo zs' xcap w1 hi
    rw [hck', hl', show ((N - 1 : Nat) : Int) = (N : Int) - 1 by omega] at this
    exact this⟩
  have HD : Hold (∀ w1, IntsAt w1 ao zs → Calls Try.prog 30 #[cutV W H ao zs.length cap] w1 fun e w' => e = .returned (.bool true) ∧ Mod noB w1 w') := ⟨fun w1 hi => by
    have := refCut_any W H ao zs cap w1 hi
    rw [hb1] at this
    exact this⟩
  have HDX : Hold (∀ (xo : Option Addr) (xcap : Nat) (w1 : World), IntsAt w1 xo zs' → Calls Try.prog 30 #[cutV W H xo zs.length xcap] w1 fun e w' => e = .returned (.bool true) ∧ Mod noB w1 w') := ⟨fun xo xcap w1 hi => by
    have := refCut_any W H xo zs' xcap w1 hi
    rw [isCutB_of C', hl'] at this
    exact this⟩
  have hj : joinR W H zs a b = (((W : Int), (H : Int), zs'), 0) := by
    unfold joinR
    have hn : ¬ ((checkR W H zs).2 ≠ 0) := fun h' => h' h
    have hc2 : ¬ (facedL (laidG (W : Int).toNat zs zs.length) (W : Int).toNat (H : Int).toNat a).count (b : Int) = 0 := by
      simp only [Int.toNat_natCast]
      rw [hg]; exact hc
    rw [if_neg hn, hN, if_neg (by omega), if_neg hc2, hmin, hmax, hzs']
  have hjj : ∀ (x y : Int), joinR W H zs x y = (((W : Int), (H : Int), zs'), 0) → ∀ w1, IntsAt w1 ao zs → Calls Try.prog 27 #[cutV W H ao zs.length cap, .int .i64 x, .int .i64 y] w1 fun e w' => ∃ xo xcap, e = .returned (.tuple #[cutV W H xo zs.length xcap, .int .i64 0]) ∧ IntsAt w' xo zs' ∧ Mod noB w1 w' := fun x y hxy w1 hi => by
    refine (join_anyJ W H ao zs cap x y w1 hi).mono ?_
    rintro e w' ⟨xo, xcap, rfl, h1, _, h2⟩
    rw [hxy] at h1 ⊢
    exact ⟨xo, xcap, by rw [← hl'], h1, h2⟩
  have HJ1 := Hold.mk (hjj a b hj)
  have HJ2 := Hold.mk (hjj b a (by rw [← joinR_swap C]; exact hj))
  have HSM : Hold (∀ (xo yo : Option Addr) (c d : Nat) (w1 : World), IntsAt w1 xo zs' → IntsAt w1 yo zs' → Calls Try.prog 29 #[cutV W H xo zs.length c, cutV W H yo zs.length d] w1 fun e w' => e = .returned (.bool true) ∧ Mod noB w1 w') :=
    ⟨fun xo yo c d w1 h1 h2 => by rw [← hl']; exact cut_same W H xo yo zs' c d w1 h1 h2⟩
  have H37 : Hold (∀ (x y : Int) (W' : World), IntsAt W' ao zs → Calls Try.prog 37 #[cutV W H ao zs.length cap, .int .i64 x, .int .i64 y] W' fun e w' => e = .returned (.int .i64 (edgesTo g W x y (H * W) : Nat)) ∧ Mod noB W' w') := ⟨fun x y W' hi => by rw [← hg]; exact refEdges_any C ao cap x y W' hi⟩
  have H37m : Hold (∀ (W' : World), IntsAt W' ao zs → Calls Try.prog 37 #[cutV W H ao zs.length cap, .int .i64 a, .int .i64 b] W' fun e w' => e = .returned (.int .i64 (com : Nat)) ∧ Mod noB W' w') := ⟨fun W' hi => by rw [← hcom]; exact H37.out a b W' hi⟩
  have hm : ∀ p : Nat, p < N → p ≠ hi → (((jf lo hi p).toNat : Nat) : Int) = jf lo hi p ∧ (jf lo hi p).toNat + 1 < N := fun p hp _ => by
    have := jf_range hlt hhi (k := (p : Int)) (by omega) (by omega)
    omega
  have H16 : Hold (∀ (xo : Option Addr) (xcap : Nat) (p eb : Nat) (W' : World), p < N → p ≠ hi → IntsAt W' xo (zs.map (jf lo hi)) → eb < W'.heap.size → Calls Try.prog 16 #[cutV W H xo zs.length xcap, .int .i64 (jf lo hi p)] W' fun e w' => ∃ so scap, e = .returned (.tuple #[.slice so (sdL g' W H (N - 1) (jf lo hi p).toNat).length scap, .int .i64 0]) ∧ SideRow eb (sdL g' W H (N - 1) (jf lo hi p).toNat).length so (pAt (sdL g' W H (N - 1) (jf lo hi p).toNat)) (mAt (sdL g' W H (N - 1) (jf lo hi p).toNat)) w' ∧ Mod noB W' w') := ⟨fun xo xcap p eb W' hp hph hi2 he => by
    obtain ⟨m1, m2⟩ := hm p hp hph
    rw [hzs'] at hi2
    rw [← hl']
    refine (sides_yes C' xo xcap (jf lo hi p) W' hi2 h' (by omega) (by omega)).mono ?_
    rintro e w' ⟨v, rfl, ho, hmm⟩
    have e0 : sidesR W H zs' (jf lo hi p) = sdL g' W H (N - 1) (jf lo hi p).toNat := by unfold sidesR sdL; rw [hg', hm', m1]
    rw [e0] at ho
    obtain ⟨so, scap, rfl, hr⟩ := sideRow_of (n := 0) (fun q hq => by
      obtain ⟨i, hi⟩ := List.getElem?_of_mem hq
      have := (sides_at hi).2.2.1
      omega) ho eb he
    exact ⟨so, scap, rfl, hr, hmm⟩⟩
  have HS : Hold (∀ p, p < N → p ≠ hi → GatherOk (fun x y => edgesTo g W x y (H * W)) N lo hi p (wantT (fun x y => edgesTo g W x y (H * W)) lo hi p) ∧ wantT (fun x y => edgesTo g W x y (H * W)) lo hi p 0 = (fun _ => 0) ∧ wantT (fun x y => edgesTo g W x y (H * W)) lo hi p (N + 1) = zeroT (wantE (fun x y => edgesTo g' W x y (H * W)) N (jf lo hi p).toNat) (sdL g' W H (N - 1) (jf lo hi p).toNat) 0) := ⟨fun p hp hph => by
    obtain ⟨m1, m2⟩ := hm p hp hph
    refine ⟨gather_ok hE hlt hhi hN40, rfl, ?_⟩
    rw [zero_none, m1]
    exact want_end hlt hhi hp hph fun m o => edges_join (by omega) hat W m o (H * W)⟩
  have HZ : Hold (∀ p, p < N → p ≠ hi → ZeroOk N (sdL g' W H (N - 1) (jf lo hi p).toNat).length (pAt (sdL g' W H (N - 1) (jf lo hi p).toNat)) (mAt (sdL g' W H (N - 1) (jf lo hi p).toNat)) (zeroT (wantE (fun x y => edgesTo g' W x y (H * W)) N (jf lo hi p).toNat) (sdL g' W H (N - 1) (jf lo hi p).toNat)) ∧ (∀ j, j < (sdL g' W H (N - 1) (jf lo hi p).toNat).length → pAt (sdL g' W H (N - 1) (jf lo hi p).toNat) j < N) ∧ zeroT (wantE (fun x y => edgesTo g' W x y (H * W)) N (jf lo hi p).toNat) (sdL g' W H (N - 1) (jf lo hi p).toNat) (sdL g' W H (N - 1) (jf lo hi p).toNat).length = (fun _ => 0) ∧ (sdL g' W H (N - 1) (jf lo hi p).toNat).length ≤ 1000) := ⟨fun p hp hph => by
    obtain ⟨m1, m2⟩ := hm p hp hph
    refine ⟨zero_ok m2 hN40 (fun o => hE' _ _), fun j hj => ?_, zero_all m2, ?_⟩
    · obtain ⟨x, hx⟩ : ∃ x, (sdL g' W H (N - 1) (jf lo hi p).toNat)[j]? = some x := ⟨_, List.getElem?_eq_getElem hj⟩
      have s1 := sides_at (F := facedL g' W H (((jf lo hi p).toNat : Nat) : Int)) (n := N - 1 + 1) hx
      have eP : pAt (sdL g' W H (N - 1) (jf lo hi p).toNat) j = x.1 := by unfold pAt; rw [hx]; rfl
      omega
    · have := sidesTo_len (facedL g' W H (((jf lo hi p).toNat : Nat) : Int)) (N - 1 + 1)
      unfold sdL; omega⟩
  have HB := Hold.mk (box_facts (W := W) (H := H) (cap := cap) hs)
  have HM0 := Hold.mk ((Mod.refl noB w).alloc (.cells #[.int .i64 W, .int .i64 H, .slice ao zs.length cap] 24))
  have hsub : (len : Int) - (com : Int) = (len2 : Int) := by omega
  have HNUM := Hold.mk C.num
  have HZS := Hold.mk hzs'
  have HEE := Hold.mk hE
  clear hf C' hm' hb' hck' hat hg' G' hgN' hb1 hck h' hE hE' cells hlj hcom lines hLc hLx hj hjj hm hc hfc hEs hlen1 hlen2 hgN G hg h hl' hN C hzs' hs
  have HMN : Hold ((if b < a then (b : Int) else (a : Int)) = (lo : Int)) := ⟨by split <;> omega⟩
  have HMX : Hold ((if a < b then (b : Int) else (a : Int)) = (hi : Int)) := ⟨by split <;> omega⟩
  clear hmin hmax
  have u1 : ¬ ((a : Int) = (b : Int)) := by omega
  have u2 : ((a : Int) == (b : Int)) = false := by simpa using u1
  have u3 : ¬ ((N : Int) ≤ (a : Int)) := by omega
  have u4 : ¬ ((N : Int) ≤ (b : Int)) := by omega
  go_enter Try.func11, Try.ntmps11
  go_upto_block 0 with (first
    | (go_at_call 30; refine (HD.out _ (HB.out _ (Mod.refl _ _)).2.2.2).mono ?_; rintro e w1 ⟨rfl, hM⟩; obtain ⟨c0, c1, c2, hI⟩ := HB.out _ hM; have HW1 := Hold.mk (And.intro hM hI); clear hM hI HD)
    | (go_at_call 27; refine (HJ1.out w1 HW1.out.2).mono ?_; rintro e w2 ⟨xo, xcap, rfl, hIx, hM⟩; clear c0 c1 c2; have HW2 := Hold.mk ((HW1.out.1.trans hM).alloc (.cells #[.int .i64 W, .int .i64 H, .slice xo zs.length xcap] 24)); obtain ⟨c0, c1, c2, hI⟩ := HB.out _ HW2.out; have HI2 := Hold.mk hI; have HX2 : Hold (XAt W H zs.length w2.heap.size xo xcap zs' (w2.alloc (.cells #[.int .i64 W, .int .i64 H, .slice xo zs.length xcap] 24))) := ⟨World.alloc_heap_new _ _, hIx.alloc _⟩; obtain ⟨d0, d1, d2⟩ := HX2.out.cells; clear hM hI hIx HJ1)
    | (go_at_call 27; refine (HJ2.out _ HI2.out).mono ?_; rintro e w3 ⟨yo, ycap, rfl, hIy, hM⟩; have HY3 := Hold.mk (hIy.alloc (.cells #[.int .i64 W, .int .i64 H, .slice yo zs.length ycap] 24)); clear c0 c1 c2 d0 d1 d2; have HX3 := Hold.mk (HX2.out.mod (hM.alloc (.cells #[.int .i64 W, .int .i64 H, .slice yo zs.length ycap] 24))); have HW3 := Hold.mk (HW2.out.trans (hM.alloc (.cells #[.int .i64 W, .int .i64 H, .slice yo zs.length ycap] 24))); obtain ⟨c0, c1, c2, hI⟩ := HB.out _ HW3.out; obtain ⟨d0, d1, d2⟩ := HX3.out.cells; have HI3 := Hold.mk hI; clear hI; clear hM hIy HJ2)
    | (go_at_call 29; refine (HSM.out _ _ _ _ _ HX3.out.2 HY3.out).mono ?_; rintro e w4 ⟨rfl, hM⟩; clear c0 c1 c2 d0 d1 d2; have HX4 := Hold.mk (HX3.out.mod hM); have HW4 := Hold.mk (HW3.out.trans hM); obtain ⟨c0, c1, c2, hI⟩ := HB.out _ HW4.out; obtain ⟨d0, d1, d2⟩ := HX4.out.cells; have HI4 := Hold.mk hI; clear hI; clear hM HSM)
    | (go_at_call 14; refine (HC.out w4 HI4.out).mono ?_; rintro e w5 ⟨rfl, hM⟩; clear c0 c1 c2 d0 d1 d2; have HX5 := Hold.mk (HX4.out.mod hM); have HW5 := Hold.mk (HW4.out.trans hM); obtain ⟨c0, c1, c2, hI⟩ := HB.out _ HW5.out; obtain ⟨d0, d1, d2⟩ := HX5.out.cells; have HI5 := Hold.mk hI; clear hI; clear hM HC)
    | (go_at_call 30; refine (HDX.out _ _ w5 HX5.out.2).mono ?_; rintro e w6 ⟨rfl, hM⟩; clear c0 c1 c2 d0 d1 d2; have HX6 := Hold.mk (HX5.out.mod hM); have HW6 := Hold.mk (HW5.out.trans hM); obtain ⟨c0, c1, c2, hI⟩ := HB.out _ HW6.out; obtain ⟨d0, d1, d2⟩ := HX6.out.cells; have HI6 := Hold.mk hI; clear hI; clear hM HDX)
    | (go_at_call 14; refine (HCX.out _ _ w6 HX6.out.2).mono ?_; rintro e w7 ⟨rfl, hM⟩; clear c0 c1 c2 d0 d1 d2; have HX7 := Hold.mk (HX6.out.mod hM); have HW7 := Hold.mk (HW6.out.trans hM); obtain ⟨c0, c1, c2, hI⟩ := HB.out _ HW7.out; obtain ⟨d0, d1, d2⟩ := HX7.out.cells; have HI7 := Hold.mk hI; clear hI; clear hM HCX)
    | (go_at_call 22; refine (HLc.out w7 HI7.out).mono ?_; rintro e w8 ⟨rfl, hM⟩; have HL8 := Hold.mk (World.alloc_heap_new w8 (.cells #[.int .i64 (len : Nat), .int .i64 l2, .int .i64 l3, .int .i64 l4] 39)); clear c0 c1 c2 d0 d1 d2; have HX8 := Hold.mk (HX7.out.mod (hM.alloc (.cells #[.int .i64 (len : Nat), .int .i64 l2, .int .i64 l3, .int .i64 l4] 39))); have HW8 := Hold.mk (HW7.out.trans (hM.alloc (.cells #[.int .i64 (len : Nat), .int .i64 l2, .int .i64 l3, .int .i64 l4] 39))); obtain ⟨c0, c1, c2, hI⟩ := HB.out _ HW8.out; obtain ⟨d0, d1, d2⟩ := HX8.out.cells; have HI8 := Hold.mk hI; clear hI; clear hM HLc)
    | (go_at_call 22; refine (HLx.out _ _ _ HX8.out.2).mono ?_; rintro e w9 ⟨rfl, hM⟩; have HL9 := Hold.mk ((hM.alloc (.cells #[.int .i64 (len2 : Nat), .int .i64 k2, .int .i64 k3, .int .i64 k4] 39)).at HL8.out id); have HK9 := Hold.mk (World.alloc_heap_new w9 (.cells #[.int .i64 (len2 : Nat), .int .i64 k2, .int .i64 k3, .int .i64 k4] 39)); clear c0 c1 c2 d0 d1 d2; have HX9 := Hold.mk (HX8.out.mod (hM.alloc (.cells #[.int .i64 (len2 : Nat), .int .i64 k2, .int .i64 k3, .int .i64 k4] 39))); have HW9 := Hold.mk (HW8.out.trans (hM.alloc (.cells #[.int .i64 (len2 : Nat), .int .i64 k2, .int .i64 k3, .int .i64 k4] 39))); obtain ⟨c0, c1, c2, hI⟩ := HB.out _ HW9.out; obtain ⟨d0, d1, d2⟩ := HX9.out.cells; have HI9 := Hold.mk hI; clear hI; clear hM HLx)
    | (go_at_call 37; refine (H37m.out _ HI9.out).mono ?_; rintro e w10 ⟨rfl, hM⟩; have HL10 := Hold.mk (hM.at HL9.out id); have HK10 := Hold.mk (hM.at HK9.out id); have g0 := cellsAt HL10.out 0; have g1 := cellsAt HK10.out 0; simp at g0 g1; clear c0 c1 c2 d0 d1 d2; have HX10 := Hold.mk (HX9.out.mod hM); have HW10 := Hold.mk (HW9.out.trans hM); obtain ⟨c0, c1, c2, hI⟩ := HB.out _ HW10.out; obtain ⟨d0, d1, d2⟩ := HX10.out.cells; have HI10 := Hold.mk hI; clear hI; clear hM H37m))
  rw [HMN.out, HMX.out]
  obtain ⟨w11, hw11⟩ : ∃ w11, (w10.alloc (.cells #[.int .i64 (lo : Int)] 3)).alloc (.cells #[.int .i64 (hi : Int)] 3) = w11 := ⟨_, rfl⟩
  have HM11 : Hold (Mod noB w10 w11) := ⟨by rw [← hw11]; exact ((Mod.refl noB w10).alloc _).alloc _⟩
  have HN11 : Hold (NowAt (w10.heap.size + 1) w10.heap.size lo hi w11) := ⟨by
    rw [← hw11]
    refine ⟨?_, ?_⟩
    · have := World.alloc_heap_new (w10.alloc (.cells #[.int .i64 (lo : Int)] 3)) (.cells #[.int .i64 (hi : Int)] 3)
      simpa using this
    · exact ((Mod.refl noB (w10.alloc (.cells #[.int .i64 (lo : Int)] 3))).alloc _).at (World.alloc_heap_new w10 _) id⟩
  rw [hw11]
  clear hw11 c0 c1 c2 d0 d1 d2 g0 g1
  have HFB : Hold (∀ W', Mod noB w11 W' → W'.heap[w.heap.size]? = some (.cells #[.int .i64 W, .int .i64 H, .slice ao zs.length cap] 24) ∧ IntsAt W' ao zs ∧ W'.heap[w2.heap.size]? = some (.cells #[.int .i64 W, .int .i64 H, .slice xo zs.length xcap] 24) ∧ IntsAt W' xo (zs.map (jf lo hi)) ∧ NowAt (w10.heap.size + 1) w10.heap.size lo hi W') := ⟨fun W' hm => by
    have h1 := HW10.out.trans (HM11.out.trans hm)
    have h2 := HX10.out.mod (HM11.out.trans hm)
    exact ⟨h1.at (World.alloc_heap_new w _) id, (HB.out _ h1).2.2.2, h2.1, by rw [HZS.out]; exact h2.2, HN11.out.mod hm⟩⟩
  refine wp_mono (jo_map W H ao xo zs cap xcap w.heap.size w2.heap.size (w10.heap.size + 1) w10.heap.size lo hi w11 HNUM.out (by omega) HFB) (then_only ?_)
  rintro a' w12 ⟨v, rfl, hm⟩
  have HM12 := Hold.mk hm
  clear hm
  go_upto_block 2 with fail
  refine wp_mono (jo_all W H ao xo zs cap xcap N lo hi w.heap.size w2.heap.size (w10.heap.size + 1) w10.heap.size (fun x y => edgesTo g W x y (H * W)) (fun p => wantT (fun x y => edgesTo g W x y (H * W)) lo hi p) (fun p => (sdL g' W H (N - 1) (jf lo hi p).toNat).length) (fun p => pAt (sdL g' W H (N - 1) (jf lo hi p).toNat)) (fun p => mAt (sdL g' W H (N - 1) (jf lo hi p).toNat)) (fun p => zeroT (wantE (fun x y => edgesTo g' W x y (H * W)) N (jf lo hi p).toNat) (sdL g' W H (N - 1) (jf lo hi p).toNat)) w12 hN40 hlt hhi HEE.out ⟨fun W' hm => HFB.out W' (HM12.out.trans hm)⟩ H37 ⟨H16.out xo xcap⟩ HS HZ) (then_only ?_)
  rintro a' w13 ⟨v2, rfl, hm⟩
  have HM13 := Hold.mk (HM12.out.trans hm)
  clear hm
  go_wp2_with (go_at_call 13; refine (awake_any _).mono ?_; rintro e w14 ⟨rfl, hM⟩; have HM14 := Hold.mk hM; clear hM)
  go_ret
  exact ⟨rfl, HM0.out.trans (HW10.out.trans (HM11.out.trans (HM13.out.trans HM14.out)))⟩
end Go.Proofs.Ytogalmkeipigeaa

/- FitEnds: a round of the walk: the difference z. -/
import Derived.Test.YtnjbamikfjdofaaLawEb0
set_option linter.unusedSimpArgs false
set_option linter.unusedVariables false
namespace Go.Proofs.Ytnjbamikfjdofaa
open Go.RowKit Go.Shelf

set_option maxRecDepth 100000 in
set_option maxHeartbeats 32000000 in
theorem ends_armZ {K0 : Act → World → Prop} {p : Ply} {a b t u : Edg} {x y z : Int × Int} {w : World} {N Lx Mx Ly My Lz Mz : Int} {A1 A2 A3 B1 B2 B3 : Bool} (pb1 : 0 ≤ p.slack) (pb2 : p.slack ≤ 500) (pb3 : 0 ≤ p.loose) (pb4 : p.loose ≤ 500) (pb5 : 0 ≤ p.damp.fst) (pb6 : p.damp.fst ≤ p.damp.snd) (pb7 : p.damp.snd ≤ 100) (HE : Hold (EndsOf N x y z p.slack p.loose p.damp A1 A2 A3 B1 B2 B3)) (HX : Hold (Lx = min (min (x.fst * (1000 + p.damp.fst)) (x.fst * (1000 + p.damp.fst))) (x.fst * (1000 + p.damp.snd)) ∧ Mx = max (max (x.snd * (1000 + p.damp.fst)) (x.snd * (1000 + p.damp.fst))) (x.snd * (1000 + p.damp.snd)))) (HY : Hold (Ly = min (min (y.fst * (1000 + p.damp.fst)) (y.fst * (1000 + p.damp.fst))) (y.fst * (1000 + p.damp.snd)) ∧ My = max (max (y.snd * (1000 + p.damp.fst)) (y.snd * (1000 + p.damp.fst))) (y.snd * (1000 + p.damp.snd)))) (HZ : Hold (Lz = min (min (z.fst * (1000 + p.damp.fst)) (z.fst * (1000 + p.damp.fst))) (z.fst * (1000 + p.damp.snd)) ∧ Mz = max (max (z.snd * (1000 + p.damp.fst)) (z.snd * (1000 + p.damp.fst))) (z.snd * (1000 + p.damp.snd)))) (SX : Hold (Small 10000000 x ∧ x.fst ≤ x.snd)) (SY : Hold (Small 10000000 y ∧ y.fst ≤ y.snd)) (SZ : Hold (Small 10000000 z ∧ z.fst ≤ z.snd)) (HDn : Hold (∀ (n : Int) (w : World), -1000000000000 ≤ n ∧ n ≤ 1000000000000 → Calls Try.prog 41 #[Value.int IntKind.i64 n, Value.int IntKind.i64 1000] w fun e w' => e = Ending.returned (Value.int IntKind.i64 (n / 1000)) ∧ Mod noB w w')) (HUp : Hold (∀ (n : Int) (w : World), -1000000000000 ≤ n ∧ n ≤ 1000000000000 → Calls Try.prog 42 #[Value.int IntKind.i64 n, Value.int IntKind.i64 1000] w fun e w' => e = Ending.returned (Value.int IntKind.i64 (-(-n / 1000))) ∧ Mod noB w w')) {g : Gp} (HG : Hold (g = ((Lx / 1000, -(-Mx / 1000)), (Ly / 1000, -(-My / 1000)), Lz / 1000, -(-Mz / 1000)))) {w1 w2 w3 w4 w5 : World} {wr : World} {u6 u17 u18 u19 u20 u21 u22 u23 u24 u26 u97 u98 u99 u100 u101 u102 u103 u104 u105 u106 u107 u108 u109 u110 u111 u112 u113 u114 u115 u116 u117 u118 u119 u120 u121 u122 u123 u124 u125 u126 u127 u128 u129 u130 u131 u132 u133 u134 u135 u136 u137 u138 u139 u140 u141 u142 u143 u144 u145 u146 u147 u148 u149 u150 u151 u152 u153 u154 u155 u156 u157 u158 u159 u160 u161 u162 u163 u164 u165 u166 u167 u168 u169 u170 u171 u172 u173 u174 u175 u176 u177 u178 u179 u180 u181 u182 u183 u184 u185 u186 u187 u188 u189 u190 u191 u192 u193 u194 u195 u196 u197 u198 u199 u200 u201 u202 u203 u204 u205 u206 u207 u208 u209 u210 u211 u212 u213 u214 u215 u216 u217 u218 u219 u220 u221 u222 u223 u224 u225 u226 u227 : Value} (HK : Hold (Kept wr (EL p g x y z w w1.heap.size (w5.heap.size + 1)))) (p0 : wr.cell? { block := w.heap.size, off := 0 } = some (Value.int IntKind.i64 p.len)) (p1 : wr.cell? { block := w.heap.size, off := 1 } = some (Value.int IntKind.i64 p.slack)) (p2 : wr.cell? { block := w.heap.size, off := 2 } = some (Value.int IntKind.i64 p.loose)) (p3 : wr.cell? { block := w.heap.size, off := 3 } = some (Value.int IntKind.i64 p.damp.fst)) (p4 : wr.cell? { block := w.heap.size, off := 4 } = some (Value.int IntKind.i64 p.damp.snd)) (hp : w.heap.size < wr.heap.size) (hgl : w1.heap.size < wr.heap.size) (hxl : w5.heap.size + 1 < wr.heap.size) (g0 : wr.cell? { block := w1.heap.size, off := 0 } = (gpC g)[0]?) (g1 : wr.cell? { block := w1.heap.size, off := 1 } = (gpC g)[1]?) (g2 : wr.cell? { block := w1.heap.size, off := 2 } = (gpC g)[2]?) (g3 : wr.cell? { block := w1.heap.size, off := 3 } = (gpC g)[3]?) (g4 : wr.cell? { block := w1.heap.size, off := 4 } = (gpC g)[4]?) (g5 : wr.cell? { block := w1.heap.size, off := 5 } = (gpC g)[5]?) (q0 : wr.cell? { block := w5.heap.size + 1, off := 0 } = (dfC x y z)[0]?) (q1 : wr.cell? { block := w5.heap.size + 1, off := 1 } = (dfC x y z)[1]?) (q2 : wr.cell? { block := w5.heap.size + 1, off := 2 } = (dfC x y z)[2]?) (q3 : wr.cell? { block := w5.heap.size + 1, off := 3 } = (dfC x y z)[3]?) (q4 : wr.cell? { block := w5.heap.size + 1, off := 4 } = (dfC x y z)[4]?) (q5 : wr.cell? { block := w5.heap.size + 1, off := 5 } = (dfC x y z)[5]?) :
    Code.wp Try.prog bodyE (Exit.then
      (fun a' w' =>
        (∃ u6 u15 u16 u17 u18 u19 u20 u21 u22 u23 u24 u26 u96 u97 u98 u99 u100 u101 u102 u103 u104 u105 u106 u107 u108
            u109 u110 u111 u112 u113 u114 u115 u116 u117 u118 u119 u120 u121 u122 u123 u124 u125 u126 u127 u128 u129
            u130 u131 u132 u133 u134 u135 u136 u137 u138 u139 u140 u141 u142 u143 u144 u145 u146 u147 u148 u149 u150
            u151 u152 u153 u154 u155 u156 u157 u158 u159 u160 u161 u162 u163 u164 u165 u166 u167 u168 u169 u170 u171
            u172 u173 u174 u175 u176 u177 u178 u179 u180 u181 u182 u183 u184 u185 u186 u187 u188 u189 u190 u191 u192
            u193 u194 u195 u196 u197 u198 u199 u200 u201 u202 u203 u204 u205 u206 u207 u208 u209 u210 u211 u212 u213
            u214 u215 u216 u217 u218 u219 u220 u221 u222 u223 u224 u225 u226 u227,
            (∃ k A B,
                u96 = Value.int IntKind.i64 k ∧
                  u15 = Value.bool A ∧
                    u16 = Value.bool B ∧
                      (k = 0 ∧ true = A ∧ false = B ∨
                          k = 1 ∧ A1 = A ∧ B1 = B ∨ k = 2 ∧ A2 = A ∧ B2 = B ∨ k = 3 ∧ A3 = A ∧ B3 = B) ∧
                        Hold (Kept w' (EL p g x y z w w1.heap.size (w5.heap.size + 1)))) ∧
              a' =
                {
                  tmps :=
                    (List.toArray (plV p :: edV a :: edV b :: Value.pointer (some { block := w.heap.size, off := 0 }) :: Value.pointer (some { block := w.heap.size + 1, off := 0 }) :: Value.pointer (some { block := w.heap.size + 1 + 1, off := 0 }) :: u6 :: Value.pointer (some { block := w1.heap.size, off := 0 }) :: Value.int IntKind.i64 0 :: Value.int IntKind.i64 N :: Value.int IntKind.i64 0 :: Value.pointer (some { block := w4.heap.size, off := 0 }) :: Value.pointer (some { block := w4.heap.size + 1, off := 0 }) :: Value.bool true :: Value.pointer (some { block := w5.heap.size, off := 0 }) :: u15 :: u16 :: u17 :: u18 :: u19 :: u20 :: u21 :: u22 :: u23 :: u24 :: undef :: u26 :: Value.tuple #[gpV g, Value.int IntKind.i64 0] :: Value.agg
                        #[Value.int IntKind.i64 p.len, Value.int IntKind.i64 p.slack, Value.int IntKind.i64 p.loose,
                          Value.int IntKind.i64 p.damp.fst, Value.int IntKind.i64 p.damp.snd] :: Value.agg
                        #[Value.int IntKind.i64 a.k, Value.int IntKind.i64 a.a.fst, Value.int IntKind.i64 a.a.snd,
                          Value.int IntKind.i64 a.w.fst, Value.int IntKind.i64 a.w.snd, Value.int IntKind.i64 a.d.fst,
                          Value.int IntKind.i64 a.d.snd] :: Value.agg
                        #[Value.int IntKind.i64 b.k, Value.int IntKind.i64 b.a.fst, Value.int IntKind.i64 b.a.snd,
                          Value.int IntKind.i64 b.w.fst, Value.int IntKind.i64 b.w.snd, Value.int IntKind.i64 b.d.fst,
                          Value.int IntKind.i64 b.d.snd] :: Value.tuple #[gpV g, Value.int IntKind.i64 0] :: gpV g :: Value.int IntKind.i64 0 :: Value.tuple #[Value.int IntKind.i64 N, Value.int IntKind.i64 0] :: Value.agg
                        #[Value.int IntKind.i64 p.len, Value.int IntKind.i64 p.slack, Value.int IntKind.i64 p.loose,
                          Value.int IntKind.i64 p.damp.fst, Value.int IntKind.i64 p.damp.snd] :: Value.agg
                        #[Value.int IntKind.i64 a.k, Value.int IntKind.i64 a.a.fst, Value.int IntKind.i64 a.a.snd,
                          Value.int IntKind.i64 a.w.fst, Value.int IntKind.i64 a.w.snd, Value.int IntKind.i64 a.d.fst,
                          Value.int IntKind.i64 a.d.snd] :: Value.agg
                        #[Value.int IntKind.i64 b.k, Value.int IntKind.i64 b.a.fst, Value.int IntKind.i64 b.a.snd,
                          Value.int IntKind.i64 b.w.fst, Value.int IntKind.i64 b.w.snd, Value.int IntKind.i64 b.d.fst,
                          Value.int IntKind.i64 b.d.snd] :: Value.tuple #[Value.int IntKind.i64 N, Value.int IntKind.i64 0] :: Value.int IntKind.i64 N :: Value.int IntKind.i64 0 :: Value.int IntKind.i64 0 :: Value.bool false :: Value.bool false :: Value.agg
                        #[Value.int IntKind.i64 p.len, Value.int IntKind.i64 p.slack, Value.int IntKind.i64 p.loose,
                          Value.int IntKind.i64 p.damp.fst, Value.int IntKind.i64 p.damp.snd] :: Value.bool true :: Value.bool false :: Value.bool false :: undef :: undef :: undef :: undef :: undef :: undef :: undef :: undef :: undef :: undef :: undef :: undef :: undef :: undef :: undef :: undef :: undef :: undef :: undef :: undef :: undef :: undef :: undef :: Value.tuple #[edV t, edV u, Value.bool true] :: Value.agg
                        #[Value.int IntKind.i64 a.k, Value.int IntKind.i64 a.a.fst, Value.int IntKind.i64 a.a.snd,
                          Value.int IntKind.i64 a.w.fst, Value.int IntKind.i64 a.w.snd, Value.int IntKind.i64 a.d.fst,
                          Value.int IntKind.i64 a.d.snd] :: Value.agg
                        #[Value.int IntKind.i64 b.k, Value.int IntKind.i64 b.a.fst, Value.int IntKind.i64 b.a.snd,
                          Value.int IntKind.i64 b.w.fst, Value.int IntKind.i64 b.w.snd, Value.int IntKind.i64 b.d.fst,
                          Value.int IntKind.i64 b.d.snd] :: Value.tuple #[edV t, edV u, Value.bool true] :: edV t :: edV u :: Value.bool true :: Value.bool true :: Value.bool false :: Value.bool false :: Value.int IntKind.i64 0 :: Value.bool false :: Value.bool false :: Value.agg
                        #[Value.int IntKind.i64 p.len, Value.int IntKind.i64 p.slack, Value.int IntKind.i64 p.loose,
                          Value.int IntKind.i64 p.damp.fst, Value.int IntKind.i64 p.damp.snd] :: Value.agg
                        #[Value.int IntKind.i64 t.k, Value.int IntKind.i64 t.a.fst, Value.int IntKind.i64 t.a.snd,
                          Value.int IntKind.i64 t.w.fst, Value.int IntKind.i64 t.w.snd, Value.int IntKind.i64 t.d.fst,
                          Value.int IntKind.i64 t.d.snd] :: Value.agg
                        #[Value.int IntKind.i64 u.k, Value.int IntKind.i64 u.a.fst, Value.int IntKind.i64 u.a.snd,
                          Value.int IntKind.i64 u.w.fst, Value.int IntKind.i64 u.w.snd, Value.int IntKind.i64 u.d.fst,
                          Value.int IntKind.i64 u.d.snd] :: dfV x y z :: Value.pointer (some { block := w5.heap.size, off := 0 }) :: Value.agg #[Value.int IntKind.i64 x.fst, Value.int IntKind.i64 x.snd] :: Value.pointer (some { block := w5.heap.size, off := 2 }) :: Value.agg #[Value.int IntKind.i64 y.fst, Value.int IntKind.i64 y.snd] :: Value.pointer (some { block := w5.heap.size, off := 4 }) :: Value.agg #[Value.int IntKind.i64 z.fst, Value.int IntKind.i64 z.snd] :: Value.slice (some { block := w5.heap.size + 1, off := 0 }) 3 3 :: Value.int IntKind.i64 3 :: u96 :: u97 :: u98 :: u99 :: u100 :: u101 :: u102 :: u103 :: u104 :: u105 :: u106 :: u107 :: u108 :: u109 :: u110 :: u111 :: u112 :: u113 :: u114 :: u115 :: u116 :: u117 :: u118 :: u119 :: u120 :: u121 :: u122 :: u123 :: u124 :: u125 :: u126 :: u127 :: u128 :: u129 :: u130 :: u131 :: u132 :: u133 :: u134 :: u135 :: u136 :: u137 :: u138 :: u139 :: u140 :: u141 :: u142 :: u143 :: u144 :: u145 :: u146 :: u147 :: u148 :: u149 :: u150 :: u151 :: u152 :: u153 :: u154 :: u155 :: u156 :: u157 :: u158 :: u159 :: u160 :: u161 :: u162 :: u163 :: u164 :: u165 :: u166 :: u167 :: u168 :: u169 :: u170 :: u171 :: u172 :: u173 :: u174 :: u175 :: u176 :: u177 :: u178 :: u179 :: u180 :: u181 :: u182 :: u183 :: u184 :: u185 :: u186 :: u187 :: u188 :: u189 :: u190 :: u191 :: u192 :: u193 :: u194 :: u195 :: u196 :: u197 :: u198 :: u199 :: u200 :: u201 :: u202 :: u203 :: u204 :: u205 :: u206 :: u207 :: u208 :: u209 :: u210 :: u211 :: u212 :: u213 :: u214 :: u215 :: u216 :: u217 :: u218 :: u219 :: u220 :: u221 :: u222 :: u223 :: u224 :: u225 :: u226 :: u227 :: undef :: undef :: undef :: undef :: undef :: undef :: undef :: undef :: undef :: undef :: undef :: undef :: undef :: [])),
                  defers := [] }) ∧
          3 - (intOf (a'.tmps.getD 96 undef)).toNat <
            3 -
              (intOf
                  ((List.toArray (plV p :: edV a :: edV b :: Value.pointer (some { block := w.heap.size, off := 0 }) :: Value.pointer (some { block := w.heap.size + 1, off := 0 }) :: Value.pointer (some { block := w.heap.size + 1 + 1, off := 0 }) :: u6 :: Value.pointer (some { block := w1.heap.size, off := 0 }) :: Value.int IntKind.i64 0 :: Value.int IntKind.i64 N :: Value.int IntKind.i64 0 :: Value.pointer (some { block := w4.heap.size, off := 0 }) :: Value.pointer (some { block := w4.heap.size + 1, off := 0 }) :: Value.bool true :: Value.pointer (some { block := w5.heap.size, off := 0 }) :: Value.bool A2 :: Value.bool B2 :: u17 :: u18 :: u19 :: u20 :: u21 :: u22 :: u23 :: u24 :: undef :: u26 :: Value.tuple #[gpV g, Value.int IntKind.i64 0] :: Value.agg
                          #[Value.int IntKind.i64 p.len, Value.int IntKind.i64 p.slack, Value.int IntKind.i64 p.loose,
                            Value.int IntKind.i64 p.damp.fst, Value.int IntKind.i64 p.damp.snd] :: Value.agg
                          #[Value.int IntKind.i64 a.k, Value.int IntKind.i64 a.a.fst, Value.int IntKind.i64 a.a.snd,
                            Value.int IntKind.i64 a.w.fst, Value.int IntKind.i64 a.w.snd, Value.int IntKind.i64 a.d.fst,
                            Value.int IntKind.i64 a.d.snd] :: Value.agg
                          #[Value.int IntKind.i64 b.k, Value.int IntKind.i64 b.a.fst, Value.int IntKind.i64 b.a.snd,
                            Value.int IntKind.i64 b.w.fst, Value.int IntKind.i64 b.w.snd, Value.int IntKind.i64 b.d.fst,
                            Value.int IntKind.i64 b.d.snd] :: Value.tuple #[gpV g, Value.int IntKind.i64 0] :: gpV g :: Value.int IntKind.i64 0 :: Value.tuple #[Value.int IntKind.i64 N, Value.int IntKind.i64 0] :: Value.agg
                          #[Value.int IntKind.i64 p.len, Value.int IntKind.i64 p.slack, Value.int IntKind.i64 p.loose,
                            Value.int IntKind.i64 p.damp.fst, Value.int IntKind.i64 p.damp.snd] :: Value.agg
                          #[Value.int IntKind.i64 a.k, Value.int IntKind.i64 a.a.fst, Value.int IntKind.i64 a.a.snd,
                            Value.int IntKind.i64 a.w.fst, Value.int IntKind.i64 a.w.snd, Value.int IntKind.i64 a.d.fst,
                            Value.int IntKind.i64 a.d.snd] :: Value.agg
                          #[Value.int IntKind.i64 b.k, Value.int IntKind.i64 b.a.fst, Value.int IntKind.i64 b.a.snd,
                            Value.int IntKind.i64 b.w.fst, Value.int IntKind.i64 b.w.snd, Value.int IntKind.i64 b.d.fst,
                            Value.int IntKind.i64 b.d.snd] :: Value.tuple #[Value.int IntKind.i64 N, Value.int IntKind.i64 0] :: Value.int IntKind.i64 N :: Value.int IntKind.i64 0 :: Value.int IntKind.i64 0 :: Value.bool false :: Value.bool false :: Value.agg
                          #[Value.int IntKind.i64 p.len, Value.int IntKind.i64 p.slack, Value.int IntKind.i64 p.loose,
                            Value.int IntKind.i64 p.damp.fst, Value.int IntKind.i64 p.damp.snd] :: Value.bool true :: Value.bool false :: Value.bool false :: undef :: undef :: undef :: undef :: undef :: undef :: undef :: undef :: undef :: undef :: undef :: undef :: undef :: undef :: undef :: undef :: undef :: undef :: undef :: undef :: undef :: undef :: undef :: Value.tuple #[edV t, edV u, Value.bool true] :: Value.agg
                          #[Value.int IntKind.i64 a.k, Value.int IntKind.i64 a.a.fst, Value.int IntKind.i64 a.a.snd,
                            Value.int IntKind.i64 a.w.fst, Value.int IntKind.i64 a.w.snd, Value.int IntKind.i64 a.d.fst,
                            Value.int IntKind.i64 a.d.snd] :: Value.agg
                          #[Value.int IntKind.i64 b.k, Value.int IntKind.i64 b.a.fst, Value.int IntKind.i64 b.a.snd,
                            Value.int IntKind.i64 b.w.fst, Value.int IntKind.i64 b.w.snd, Value.int IntKind.i64 b.d.fst,
                            Value.int IntKind.i64 b.d.snd] :: Value.tuple #[edV t, edV u, Value.bool true] :: edV t :: edV u :: Value.bool true :: Value.bool true :: Value.bool false :: Value.bool false :: Value.int IntKind.i64 0 :: Value.bool false :: Value.bool false :: Value.agg
                          #[Value.int IntKind.i64 p.len, Value.int IntKind.i64 p.slack, Value.int IntKind.i64 p.loose,
                            Value.int IntKind.i64 p.damp.fst, Value.int IntKind.i64 p.damp.snd] :: Value.agg
                          #[Value.int IntKind.i64 t.k, Value.int IntKind.i64 t.a.fst, Value.int IntKind.i64 t.a.snd,
                            Value.int IntKind.i64 t.w.fst, Value.int IntKind.i64 t.w.snd, Value.int IntKind.i64 t.d.fst,
                            Value.int IntKind.i64 t.d.snd] :: Value.agg
                          #[Value.int IntKind.i64 u.k, Value.int IntKind.i64 u.a.fst, Value.int IntKind.i64 u.a.snd,
                            Value.int IntKind.i64 u.w.fst, Value.int IntKind.i64 u.w.snd, Value.int IntKind.i64 u.d.fst,
                            Value.int IntKind.i64 u.d.snd] :: dfV x y z :: Value.pointer (some { block := w5.heap.size, off := 0 }) :: Value.agg #[Value.int IntKind.i64 x.fst, Value.int IntKind.i64 x.snd] :: Value.pointer (some { block := w5.heap.size, off := 2 }) :: Value.agg #[Value.int IntKind.i64 y.fst, Value.int IntKind.i64 y.snd] :: Value.pointer (some { block := w5.heap.size, off := 4 }) :: Value.agg #[Value.int IntKind.i64 z.fst, Value.int IntKind.i64 z.snd] :: Value.slice (some { block := w5.heap.size + 1, off := 0 }) 3 3 :: Value.int IntKind.i64 3 :: Value.int IntKind.i64 2 :: u97 :: u98 :: u99 :: u100 :: u101 :: u102 :: u103 :: u104 :: u105 :: u106 :: u107 :: u108 :: u109 :: u110 :: u111 :: u112 :: u113 :: u114 :: u115 :: u116 :: u117 :: u118 :: u119 :: u120 :: u121 :: u122 :: u123 :: u124 :: u125 :: u126 :: u127 :: u128 :: u129 :: u130 :: u131 :: u132 :: u133 :: u134 :: u135 :: u136 :: u137 :: u138 :: u139 :: u140 :: u141 :: u142 :: u143 :: u144 :: u145 :: u146 :: u147 :: u148 :: u149 :: u150 :: u151 :: u152 :: u153 :: u154 :: u155 :: u156 :: u157 :: u158 :: u159 :: u160 :: u161 :: u162 :: u163 :: u164 :: u165 :: u166 :: u167 :: u168 :: u169 :: u170 :: u171 :: u172 :: u173 :: u174 :: u175 :: u176 :: u177 :: u178 :: u179 :: u180 :: u181 :: u182 :: u183 :: u184 :: u185 :: u186 :: u187 :: u188 :: u189 :: u190 :: u191 :: u192 :: u193 :: u194 :: u195 :: u196 :: u197 :: u198 :: u199 :: u200 :: u201 :: u202 :: u203 :: u204 :: u205 :: u206 :: u207 :: u208 :: u209 :: u210 :: u211 :: u212 :: u213 :: u214 :: u215 :: u216 :: u217 :: u218 :: u219 :: u220 :: u221 :: u222 :: u223 :: u224 :: u225 :: u226 :: u227 :: undef :: undef :: undef :: undef :: undef :: undef :: undef :: undef :: undef :: undef :: undef :: undef :: undef :: [])).getD
                    96 undef)).toNat)
      (Exit.inBlock 0 (Exit.then K0 (bodyPost Try.prog Try.f8 fun e w' => e = Ending.returned (Value.bool true) ∧ Mod noB w w')))) {
      tmps :=
        (List.toArray (plV p :: edV a :: edV b :: Value.pointer (some { block := w.heap.size, off := 0 }) :: Value.pointer (some { block := w.heap.size + 1, off := 0 }) :: Value.pointer (some { block := w.heap.size + 1 + 1, off := 0 }) :: u6 :: Value.pointer (some { block := w1.heap.size, off := 0 }) :: Value.int IntKind.i64 0 :: Value.int IntKind.i64 N :: Value.int IntKind.i64 0 :: Value.pointer (some { block := w4.heap.size, off := 0 }) :: Value.pointer (some { block := w4.heap.size + 1, off := 0 }) :: Value.bool true :: Value.pointer (some { block := w5.heap.size, off := 0 }) :: Value.bool A2 :: Value.bool B2 :: u17 :: u18 :: u19 :: u20 :: u21 :: u22 :: u23 :: u24 :: undef :: u26 :: Value.tuple #[gpV g, Value.int IntKind.i64 0] :: Value.agg
            #[Value.int IntKind.i64 p.len, Value.int IntKind.i64 p.slack, Value.int IntKind.i64 p.loose,
              Value.int IntKind.i64 p.damp.fst, Value.int IntKind.i64 p.damp.snd] :: Value.agg
            #[Value.int IntKind.i64 a.k, Value.int IntKind.i64 a.a.fst, Value.int IntKind.i64 a.a.snd,
              Value.int IntKind.i64 a.w.fst, Value.int IntKind.i64 a.w.snd, Value.int IntKind.i64 a.d.fst,
              Value.int IntKind.i64 a.d.snd] :: Value.agg
            #[Value.int IntKind.i64 b.k, Value.int IntKind.i64 b.a.fst, Value.int IntKind.i64 b.a.snd,
              Value.int IntKind.i64 b.w.fst, Value.int IntKind.i64 b.w.snd, Value.int IntKind.i64 b.d.fst,
              Value.int IntKind.i64 b.d.snd] :: Value.tuple #[gpV g, Value.int IntKind.i64 0] :: gpV g :: Value.int IntKind.i64 0 :: Value.tuple #[Value.int IntKind.i64 N, Value.int IntKind.i64 0] :: Value.agg
            #[Value.int IntKind.i64 p.len, Value.int IntKind.i64 p.slack, Value.int IntKind.i64 p.loose,
              Value.int IntKind.i64 p.damp.fst, Value.int IntKind.i64 p.damp.snd] :: Value.agg
            #[Value.int IntKind.i64 a.k, Value.int IntKind.i64 a.a.fst, Value.int IntKind.i64 a.a.snd,
              Value.int IntKind.i64 a.w.fst, Value.int IntKind.i64 a.w.snd, Value.int IntKind.i64 a.d.fst,
              Value.int IntKind.i64 a.d.snd] :: Value.agg
            #[Value.int IntKind.i64 b.k, Value.int IntKind.i64 b.a.fst, Value.int IntKind.i64 b.a.snd,
              Value.int IntKind.i64 b.w.fst, Value.int IntKind.i64 b.w.snd, Value.int IntKind.i64 b.d.fst,
              Value.int IntKind.i64 b.d.snd] :: Value.tuple #[Value.int IntKind.i64 N, Value.int IntKind.i64 0] :: Value.int IntKind.i64 N :: Value.int IntKind.i64 0 :: Value.int IntKind.i64 0 :: Value.bool false :: Value.bool false :: Value.agg
            #[Value.int IntKind.i64 p.len, Value.int IntKind.i64 p.slack, Value.int IntKind.i64 p.loose,
              Value.int IntKind.i64 p.damp.fst, Value.int IntKind.i64 p.damp.snd] :: Value.bool true :: Value.bool false :: Value.bool false :: undef :: undef :: undef :: undef :: undef :: undef :: undef :: undef :: undef :: undef :: undef :: undef :: undef :: undef :: undef :: undef :: undef :: undef :: undef :: undef :: undef :: undef :: undef :: Value.tuple #[edV t, edV u, Value.bool true] :: Value.agg
            #[Value.int IntKind.i64 a.k, Value.int IntKind.i64 a.a.fst, Value.int IntKind.i64 a.a.snd,
              Value.int IntKind.i64 a.w.fst, Value.int IntKind.i64 a.w.snd, Value.int IntKind.i64 a.d.fst,
              Value.int IntKind.i64 a.d.snd] :: Value.agg
            #[Value.int IntKind.i64 b.k, Value.int IntKind.i64 b.a.fst, Value.int IntKind.i64 b.a.snd,
              Value.int IntKind.i64 b.w.fst, Value.int IntKind.i64 b.w.snd, Value.int IntKind.i64 b.d.fst,
              Value.int IntKind.i64 b.d.snd] :: Value.tuple #[edV t, edV u, Value.bool true] :: edV t :: edV u :: Value.bool true :: Value.bool true :: Value.bool false :: Value.bool false :: Value.int IntKind.i64 0 :: Value.bool false :: Value.bool false :: Value.agg
            #[Value.int IntKind.i64 p.len, Value.int IntKind.i64 p.slack, Value.int IntKind.i64 p.loose,
              Value.int IntKind.i64 p.damp.fst, Value.int IntKind.i64 p.damp.snd] :: Value.agg
            #[Value.int IntKind.i64 t.k, Value.int IntKind.i64 t.a.fst, Value.int IntKind.i64 t.a.snd,
              Value.int IntKind.i64 t.w.fst, Value.int IntKind.i64 t.w.snd, Value.int IntKind.i64 t.d.fst,
              Value.int IntKind.i64 t.d.snd] :: Value.agg
            #[Value.int IntKind.i64 u.k, Value.int IntKind.i64 u.a.fst, Value.int IntKind.i64 u.a.snd,
              Value.int IntKind.i64 u.w.fst, Value.int IntKind.i64 u.w.snd, Value.int IntKind.i64 u.d.fst,
              Value.int IntKind.i64 u.d.snd] :: dfV x y z :: Value.pointer (some { block := w5.heap.size, off := 0 }) :: Value.agg #[Value.int IntKind.i64 x.fst, Value.int IntKind.i64 x.snd] :: Value.pointer (some { block := w5.heap.size, off := 2 }) :: Value.agg #[Value.int IntKind.i64 y.fst, Value.int IntKind.i64 y.snd] :: Value.pointer (some { block := w5.heap.size, off := 4 }) :: Value.agg #[Value.int IntKind.i64 z.fst, Value.int IntKind.i64 z.snd] :: Value.slice (some { block := w5.heap.size + 1, off := 0 }) 3 3 :: Value.int IntKind.i64 3 :: Value.int IntKind.i64 2 :: u97 :: u98 :: u99 :: u100 :: u101 :: u102 :: u103 :: u104 :: u105 :: u106 :: u107 :: u108 :: u109 :: u110 :: u111 :: u112 :: u113 :: u114 :: u115 :: u116 :: u117 :: u118 :: u119 :: u120 :: u121 :: u122 :: u123 :: u124 :: u125 :: u126 :: u127 :: u128 :: u129 :: u130 :: u131 :: u132 :: u133 :: u134 :: u135 :: u136 :: u137 :: u138 :: u139 :: u140 :: u141 :: u142 :: u143 :: u144 :: u145 :: u146 :: u147 :: u148 :: u149 :: u150 :: u151 :: u152 :: u153 :: u154 :: u155 :: u156 :: u157 :: u158 :: u159 :: u160 :: u161 :: u162 :: u163 :: u164 :: u165 :: u166 :: u167 :: u168 :: u169 :: u170 :: u171 :: u172 :: u173 :: u174 :: u175 :: u176 :: u177 :: u178 :: u179 :: u180 :: u181 :: u182 :: u183 :: u184 :: u185 :: u186 :: u187 :: u188 :: u189 :: u190 :: u191 :: u192 :: u193 :: u194 :: u195 :: u196 :: u197 :: u198 :: u199 :: u200 :: u201 :: u202 :: u203 :: u204 :: u205 :: u206 :: u207 :: u208 :: u209 :: u210 :: u211 :: u212 :: u213 :: u214 :: u215 :: u216 :: u217 :: u218 :: u219 :: u220 :: u221 :: u222 :: u223 :: u224 :: u225 :: u226 :: u227 :: undef :: undef :: undef :: undef :: undef :: undef :: undef :: undef :: undef :: undef :: undef :: undef :: undef :: [])),
      defers := [] } wr := by
  unfold bodyE
  clear p0 p1 p2 p3 p4 hp
  obtain ⟨hs, hle⟩ := SZ.out
  obtain ⟨m1, n1⟩ := mul_bd hs.1 (show -(2000 : Int) ≤ 1000 + p.damp.1 ∧ 1000 + p.damp.1 ≤ 2000 by omega); obtain ⟨m2, n2⟩ := mul_bd hs.1 (show -(2000 : Int) ≤ 1000 + p.damp.2 ∧ 1000 + p.damp.2 ≤ 2000 by omega); obtain ⟨m3, n3⟩ := mul_bd hs.2 (show -(2000 : Int) ≤ 1000 + p.damp.1 ∧ 1000 + p.damp.1 ≤ 2000 by omega); obtain ⟨m4, n4⟩ := mul_bd hs.2 (show -(2000 : Int) ≤ 1000 + p.damp.2 ∧ 1000 + p.damp.2 ≤ 2000 by omega)
  have HLE := Hold.mk hle
  clear hs hle
  go_wp2_with fail
  clear g0 g1 g2 g3 g4 g5 q0 q1 q2 q3 q4 q5 hgl hxl
  have HR := Hold.mk (er_kept HK.out z g.2.2 (.cells #[.int .i64 g.1.1, .int .i64 g.1.2, .int .i64 g.2.1.1, .int .i64 g.2.1.2, .int .i64 g.2.2.1, .int .i64 g.2.2.2] 23))
  clear HK
  generalize (((wr.alloc (.cells #[.int .i64 z.1, .int .i64 z.2] 23)).alloc (.cells #[.int .i64 g.1.1, .int .i64 g.1.2, .int .i64 g.2.1.1, .int .i64 g.2.1.2, .int .i64 g.2.2.1, .int .i64 g.2.2.2] 23)).alloc (.cells #[.int .i64 g.2.2.1, .int .i64 g.2.2.2] 23)) = W6 at *
  generalize wr.heap.size = bk at *
  obtain ⟨p0, p1, p2, p3, p4⟩ := PlayAt.of HR.out.now.1.1.1.1.2; have hp := at_ltS HR.out.now.1.1.1.1.2
  have s0 := cellsAt HR.out.now.1.2 0; have s1 := cellsAt HR.out.now.1.2 1; have hsl := at_ltS HR.out.now.1.2; have o0 := cellsAt HR.out.now.2 0; have o1 := cellsAt HR.out.now.2 1; have hol := at_ltS HR.out.now.2
  go_region
  go_wp2_with fail
  go_region
  go_wp2_with fail
  clear p0 p1 p2 p3 p4 hp s0 s1 hsl o0 o1 hol
  have HI : Hold (Kept (W6.alloc (.cells #[.int .i64 p.damp.1, .int .i64 p.damp.2] 3)) (fun w' => ER p g x y z w w1.heap.size (w5.heap.size + 1) z g.2.2 bk w' ∧ w'.heap[W6.heap.size]? = some (.cells #[.int .i64 p.damp.1, .int .i64 p.damp.2] 3))) := ⟨(HR.out.later ((Mod.refl noB W6).alloc _)).and (kept_block (World.alloc_heap_new W6 _))⟩
  clear HR
  obtain ⟨Aj, hAj⟩ : ∃ Aj, Aj = (A2 && okD z (0) p.loose p.damp.1) := ⟨_, rfl⟩
  have HAj := Hold.mk hAj; clear hAj
  go_loopw [15, 22, 23, 142] (fun al le mo j wi => ∃ (i : Int) (A : Bool) (L M : Int), j = .int .i64 i ∧ al = .bool A ∧ le = .int .i64 L ∧ mo = .int .i64 M ∧ ((i = 0 ∧ A2 = A ∧ z.1 * (1000 + p.damp.1) = L ∧ z.2 * (1000 + p.damp.1) = M) ∨ (i = 1 ∧ Aj = A ∧ z.1 * (1000 + p.damp.1) = L ∧ z.2 * (1000 + p.damp.1) = M) ∨ (i = 2 ∧ A3 = A ∧ Lz = L ∧ Mz = M)) ∧ Hold (Kept wi (fun w' => ER p g x y z w w1.heap.size (w5.heap.size + 1) z g.2.2 bk w' ∧ w'.heap[W6.heap.size]? = some (.cells #[.int .i64 p.damp.1, .int .i64 p.damp.2] 3)))) (fun _ _ _ j _ => 2 - (intOf j).toNat)
  case atStart => exact ⟨0, _, _, _, rfl, rfl, rfl, rfl, .inl ⟨rfl, rfl, rfl, rfl⟩, ⟨by first | exact HI.out | exact kept_drew HI.out | exact kept_drew (kept_drew HI.out) | exact kept_drew (kept_drew (kept_drew HI.out))⟩⟩
  case round =>
    clear HI
    obtain ⟨i, A, L, M, rfl, rfl, rfl, rfl, hi, HI⟩ := hrel
    obtain ⟨p0, p1, p2, p3, p4⟩ := PlayAt.of HI.out.now.1.1.1.1.1.2; have hp := at_ltS HI.out.now.1.1.1.1.1.2
    have s0 := cellsAt HI.out.now.1.1.2 0; have s1 := cellsAt HI.out.now.1.1.2 1; have hsl := at_ltS HI.out.now.1.1.2
    have d0 := cellsAt HI.out.now.2 0; have d1 := cellsAt HI.out.now.2 1; have hdl := at_ltS HI.out.now.2
    rcases hi with ⟨rfl, hA, rfl, rfl⟩ | ⟨rfl, hA, rfl, rfl⟩ | ⟨rfl, hA, rfl, rfl⟩
    · have HA := Hold.mk hA.symm
      clear hA
      have HN : Hold (Aj = (A2 && okD z (0 : Int) p.loose p.damp.1)) := ⟨HAj.out⟩
      go_wp2_with fail
      go_region
      go_upto_region 22 with fail
      cases A
      · go_wp2_with fail
        go_roundw
        case rel => exact ⟨1, _, _, _, rfl, rfl, rfl, rfl, .inr (.inl ⟨rfl, (by have := ok_step HA HN; rw [Bool.false_and] at this; first | exact this.symm | exact this.symm.trans (decide_eq_false (by omega)).symm), rfl, rfl⟩), ⟨kept_drew HI.out⟩⟩
        case measure => simp [intOf]
      · by_cases h1 : 0 ≤ z.1 * (1000 + p.damp.1)
        · by_cases h2 : z.2 * (1000 + p.damp.1) ≤ 1000 * p.loose
          · go_wp2_with fail
            go_roundw
            case rel => exact ⟨1, _, _, _, rfl, rfl, rfl, rfl, .inr (.inl ⟨rfl, (by have := ok_step HA HN; rw [ok_both (s := z) (lo := (0 : Int)) (hi := p.loose) (d := p.damp.1) (by omega) (by omega), Bool.and_true] at this; first | exact this.symm | exact this.symm.trans (decide_eq_false (by omega)).symm), rfl, rfl⟩), ⟨kept_drew HI.out⟩⟩
            case measure => simp [intOf]
          · go_wp2_with fail
            go_roundw
            case rel => exact ⟨1, _, _, _, rfl, rfl, rfl, rfl, .inr (.inl ⟨rfl, (by have := ok_step HA HN; rw [ok_not2 (s := z) (lo := (0 : Int)) (hi := p.loose) (d := p.damp.1) (by omega), Bool.and_false] at this; first | exact this.symm | exact this.symm.trans (decide_eq_false (by omega)).symm), rfl, rfl⟩), ⟨kept_drew HI.out⟩⟩
            case measure => simp [intOf]
        · go_wp2_with fail
          go_roundw
          case rel => exact ⟨1, _, _, _, rfl, rfl, rfl, rfl, .inr (.inl ⟨rfl, (by have := ok_step HA HN; rw [ok_not1 (s := z) (lo := (0 : Int)) (hi := p.loose) (d := p.damp.1) (by omega), Bool.and_false] at this; first | exact this.symm | exact this.symm.trans (decide_eq_false (by omega)).symm), rfl, rfl⟩), ⟨kept_drew HI.out⟩⟩
          case measure => simp [intOf]
    · have HA := Hold.mk hA.symm
      clear hA
      have HN : Hold (A3 = (Aj && okD z (0 : Int) p.loose p.damp.2)) := ⟨by rw [HAj.out]; exact HE.out.a3⟩
      go_wp2_with fail
      go_region
      go_upto_region 22 with fail
      cases A
      · go_wp2_with fail
        go_roundw
        case rel => exact ⟨2, _, _, _, rfl, rfl, rfl, rfl, .inr (.inr ⟨rfl, (by have := ok_step HA HN; rw [Bool.false_and] at this; first | exact this.symm | exact this.symm.trans (decide_eq_false (by omega)).symm), by rw [HZ.out.1]; first | rfl | omega | (split <;> omega), by rw [HZ.out.2]; first | rfl | omega | (split <;> omega)⟩), ⟨kept_drew HI.out⟩⟩
        case measure => simp [intOf]
      · by_cases h1 : 0 ≤ z.1 * (1000 + p.damp.2)
        · by_cases h2 : z.2 * (1000 + p.damp.2) ≤ 1000 * p.loose
          · go_wp2_with fail
            go_roundw
            case rel => exact ⟨2, _, _, _, rfl, rfl, rfl, rfl, .inr (.inr ⟨rfl, (by have := ok_step HA HN; rw [ok_both (s := z) (lo := (0 : Int)) (hi := p.loose) (d := p.damp.2) (by omega) (by omega), Bool.and_true] at this; first | exact this.symm | exact this.symm.trans (decide_eq_false (by omega)).symm), by rw [HZ.out.1]; first | rfl | omega | (split <;> omega), by rw [HZ.out.2]; first | rfl | omega | (split <;> omega)⟩), ⟨kept_drew HI.out⟩⟩
            case measure => simp [intOf]
          · go_wp2_with fail
            go_roundw
            case rel => exact ⟨2, _, _, _, rfl, rfl, rfl, rfl, .inr (.inr ⟨rfl, (by have := ok_step HA HN; rw [ok_not2 (s := z) (lo := (0 : Int)) (hi := p.loose) (d := p.damp.2) (by omega), Bool.and_false] at this; first | exact this.symm | exact this.symm.trans (decide_eq_false (by omega)).symm), by rw [HZ.out.1]; first | rfl | omega | (split <;> omega), by rw [HZ.out.2]; first | rfl | omega | (split <;> omega)⟩), ⟨kept_drew HI.out⟩⟩
            case measure => simp [intOf]
        · go_wp2_with fail
          go_roundw
          case rel => exact ⟨2, _, _, _, rfl, rfl, rfl, rfl, .inr (.inr ⟨rfl, (by have := ok_step HA HN; rw [ok_not1 (s := z) (lo := (0 : Int)) (hi := p.loose) (d := p.damp.2) (by omega), Bool.and_false] at this; first | exact this.symm | exact this.symm.trans (decide_eq_false (by omega)).symm), by rw [HZ.out.1]; first | rfl | omega | (split <;> omega), by rw [HZ.out.2]; first | rfl | omega | (split <;> omega)⟩), ⟨kept_drew HI.out⟩⟩
          case measure => simp [intOf]
    · subst hA
      clear d0 d1 hdl
      have HB := Hold.mk HE.out.b3
      go_upto_if 184 with fail
      go_cut [24] from 185 to 186 (fun s24 wz => s24 = .int .i64 (max 0 z.1) ∧ wz = wr)
      case first =>
        by_cases hn : 0 < z.1
        · go_wp2_with fail
          all_goals go_meet
          all_goals exact ⟨congrArg _ (by omega), rfl⟩
        · go_wp2_with fail
          all_goals go_meet
          all_goals exact ⟨congrArg _ (by omega), rfl⟩
      case rest =>
      obtain ⟨rfl, rfl⟩ := hcut
      go_upto_if 189 with fail
      go_cut [24] from 190 to 191 (fun s24 wz => s24 = .int .i64 (nearR z) ∧ Hold (Kept wz (ER p g x y z w w1.heap.size (w5.heap.size + 1) z g.2.2 bk)))
      case first =>
        have hle := HLE.out
        by_cases hn : z.2 < 0
        · go_wp2_with fail
          all_goals go_meet
          all_goals exact ⟨congrArg _ (by unfold nearR; omega), ⟨fun w2 h2 => (HI.out w2 h2).1⟩⟩
        · go_wp2_with fail
          all_goals go_meet
          all_goals exact ⟨congrArg _ (by unfold nearR; omega), ⟨fun w2 h2 => (HI.out w2 h2).1⟩⟩
      case rest =>
      obtain ⟨rfl, HR⟩ := hcut
      clear p0 p1 p2 p3 p4 hp s0 s1 hsl HI
      obtain ⟨p0, p1, p2, p3, p4⟩ := PlayAt.of HR.out.now.1.1.1.1.2; have hp := at_ltS HR.out.now.1.1.1.1.2
      obtain ⟨m5, n5⟩ := mul_bd (nearR_small SZ.out.1) (show -(2000 : Int) ≤ 1000 + p.damp.1 ∧ 1000 + p.damp.1 ≤ 2000 by omega)
      go_upto_region 28 with fail
      go_cut [16] from 192 to 214 (fun s16 wz => s16 = .bool B3 ∧ wz = wc)
      case first =>
        cases B2
        · by_cases h3 : nearR z * (1000 + p.damp.1) < 0
          · go_wp2_with fail
            all_goals go_meet
            all_goals exact ⟨by rw [HB.out]; first | rfl | (rw [out_yes1 (s := z) (lo := (0 : Int)) (hi := p.loose) (d := p.damp.1) (by omega)]; first | rfl | exact congrArg Value.bool (decide_eq_true (by omega)) | exact congrArg Value.bool (decide_eq_false (by omega)) | trace_state), rfl⟩
          · by_cases h4 : 1000 * p.loose < nearR z * (1000 + p.damp.1)
            · go_wp2_with fail
              all_goals go_meet
              all_goals exact ⟨by rw [HB.out]; first | rfl | (rw [out_yes2 (s := z) (lo := (0 : Int)) (hi := p.loose) (d := p.damp.1) (by omega)]; first | rfl | exact congrArg Value.bool (decide_eq_true (by omega)) | exact congrArg Value.bool (decide_eq_false (by omega)) | trace_state), rfl⟩
            · go_wp2_with fail
              all_goals go_meet
              all_goals exact ⟨by rw [HB.out]; first | rfl | (rw [out_no (s := z) (lo := (0 : Int)) (hi := p.loose) (d := p.damp.1) (by omega) (by omega)]; first | rfl | exact congrArg Value.bool (decide_eq_true (by omega)) | exact congrArg Value.bool (decide_eq_false (by omega)) | trace_state), rfl⟩
        · go_wp2_with fail
          all_goals go_meet
          all_goals exact ⟨by rw [HB.out]; rfl, rfl⟩
      case rest =>
      obtain ⟨rfl, rfl⟩ := hcut
      clear p0 p1 p2 p3 p4 hp HB
      have e1 : g.2.2.1 = Lz / 1000 := by rw [HG.out]
      have e2 : g.2.2.2 = -(-Mz / 1000) := by rw [HG.out]
      have eL := min_small HZ.out.1 ⟨by omega, by omega⟩ ⟨by omega, by omega⟩
      have eM := max_small HZ.out.2 ⟨by omega, by omega⟩ ⟨by omega, by omega⟩
      obtain ⟨eL1, eL2⟩ := eL; obtain ⟨eM1, eM2⟩ := eM
      go_upto_region 29 with fail
      refine region_quietP (by kernel_rfl) (by kernel_rfl) (fun W' => Mod noB _ W') ((Mod.refl _ _).drew) ?_
      repeat
        (first
          | go_big_quiet_skip
          | (go_big_quiet_want
             go_simp
             first
               | go_big_quiet_on
               | (apply Exists.intro
                  refine ⟨fun W' hC => ?_, ?_⟩
                  · have hh := HR.out W' hC
                    have o0 := cellsAt hh.2 0; have o1 := cellsAt hh.2 1
                    first
                      | (go_at_call 41; (with_reducible refine (HDn.out _ _ ⟨by omega, by omega⟩).mono ?_); exact fun e w'' he => ⟨he.1, hC.trans he.2⟩)
                      | (go_at_call 42; (with_reducible refine (HUp.out _ _ ⟨by omega, by omega⟩).mono ?_); exact fun e w'' he => ⟨he.1, hC.trans he.2⟩)
                      | with_reducible rfl
                      | (go_simp; first | rfl | exact ⟨rfl, rfl⟩)
                  go_big_quiet_on)
               | (refine ⟨⟨_, fun _ _ => rfl⟩, ?_⟩; go_big_quiet_on)))
      refine wpQuiet_nil ?_
      intro Wq hq
      have HK := Hold.mk (show Kept Wq (EL p g x y z w w1.heap.size (w5.heap.size + 1)) from fun w2 h2 => (HR.out w2 (hq.trans h2)).1.1)
      clear hq HR
      go_wp2_with fail
      go_roundw
      case rel => exact ⟨3, _, _, rfl, rfl, rfl, .inr (.inr (.inr ⟨rfl, rfl, rfl⟩)), HK⟩
      case measure => simp [intOf]
end Go.Proofs.Ytnjbamikfjdofaa

/- A die on the press: fails, failing, run, allBlades. -/
import Derived.Test.YtdncppempgpooaaDoorRuG
import Derived.Test.YtdncppempgpooaaDoorRuJ
import Derived.Deep.QuietTactic
import Derived.BigQuiet
set_option linter.unusedSimpArgs false
set_option linter.unusedVariables false
namespace Go.Proofs.YtdncppempgpooaaDoor
open Go.RowKit Go.Shelf

theorem bladeAt_some {d : Dye} {k : Nat} (h : k < d.bl.length) : d.bl[k]? = some (bladeAt d k) := by
  rw [bladeAt, List.getElem?_eq_getElem h]; rfl

/-- The functions of all blades. -/
structure OffsAt (B : Nat) (w : World) (oo : Option Addr) (l : List Bld) : Prop where
  ex : ∃ ps : List (Nat × Nat × Nat × Nat), ps.length = l.length ∧ ListAt B w 2 offC oo ps ∧ ∀ (k : Nat) (p : Nat × Nat × Nat × Nat) (b : Bld), ps[k]? = some p → l[k]? = some b → OffIs B w p b
theorem OffsAt.low {B : Nat} {w w' : World} {oo : Option Addr} {l : List Bld} (h : OffsAt B w oo l) (hm : Low B w w') : OffsAt B w' oo l := by
  obtain ⟨ps, h1, h2, h3⟩ := h.ex
  exact ⟨ps, h1, h2.low hm, fun k p b hp hb => (h3 k p b hp hb).low hm⟩
theorem OffsAt.off {B : Nat} {w : World} {oo : Option Addr} {l : List Bld} (h : OffsAt B w oo l) {k : Nat} {x : Bld} (hx : l[k]? = some x) :
    ∃ b off p1 p2 p3 p4, oo = some ⟨b, off, none⟩ ∧ b < B ∧ OffIs B w (p1, p2, p3, p4) x ∧
      w.cell? ⟨b, off + k * 2, none⟩ = some (.func (.func 64) #[] #[.pointer (some ⟨p1, 0, none⟩), .pointer (some ⟨p2, 0, none⟩)]) ∧
      w.cell? ⟨b, off + k * 2 + 1, none⟩ = some (.func (.func 64) #[] #[.pointer (some ⟨p3, 0, none⟩), .pointer (some ⟨p4, 0, none⟩)]) := by
  obtain ⟨ps, h1, h2, h3⟩ := h.ex
  have hk : k < ps.length := by rw [h1]; exact (List.getElem?_eq_some_iff.1 hx).1
  obtain ⟨p, hp⟩ : ∃ p, ps[k]? = some p := ⟨_, List.getElem?_eq_getElem hk⟩
  obtain ⟨b, off, e, hb, hc⟩ := h2.lies (fun e => by rw [e] at hp; simp at hp)
  have g := hc k p hp
  obtain ⟨p1, p2, p3, p4⟩ := p
  exact ⟨b, off, p1, p2, p3, p4, e, hb, h3 k _ x hp hx, g 0 (by omega), g 1 (by omega)⟩

/-- A die on the press, in memory below B. -/
structure Mnt (B : Nat) (w : World) (oo : Option Addr) (d : Dye) : Prop where
  offs : OffsAt B w oo d.bl
  die : dieB d = true
  le : B ≤ w.heap.size
  tab : Tab w
  one : 1 < B
theorem Mnt.low {B : Nat} {w w' : World} {oo : Option Addr} {d : Dye} (h : Mnt B w oo d) (hm : Low B w w') : Mnt B w' oo d :=
  ⟨h.offs.low hm, h.die, Nat.le_trans h.le hm.1, h.tab.low h.one hm, h.one⟩
theorem Mnt.mod {B : Nat} {w w' : World} {oo : Option Addr} {d : Dye} (h : Mnt B w oo d) (hm : Mod noB w w') : Mnt B w' oo d := h.low (Low.ofN hm h.le)

/-- How far blades have run: within so much. -/
def RunB (m : Int) (r : Nat → Int) : Prop := ∀ k, k < 5 → 0 ≤ r k ∧ r k ≤ m
theorem runB_zero : RunB 0 zeroR := fun _ _ => ⟨by simp [zeroR], by simp [zeroR]⟩
theorem RunB.bent {m : Int} {r : Nat → Int} (h : RunB m r) (hm : 0 ≤ m) (set : Nat) : RunB m (bentR r set) := fun k hk => by
  unfold bentR; split
  · exact ⟨by omega, hm⟩
  · exact h k hk
theorem RunB.run {m : Int} {r : Nat → Int} (h : RunB m r) (d : Dye) {s : Int × Int} (hs : 0 ≤ s.1 ∧ s.1 ≤ 1000) : RunB (m + 1000) (runR d r s) := fun k hk => by
  have := h k hk
  unfold runR; split <;> omega
theorem RunB.mono {m m' : Int} {r : Nat → Int} (h : RunB m r) (hm : m ≤ m') : RunB m' r := fun k hk => by have := h k hk; omega

theorem mtC_at {ao : Option Addr} {n cap : Nat} {d : Dye} {oo : Option Addr} {oc : Nat} {r : Nat → Int} {x : Nat} (hx : x < 5) : (mtC ao n cap d oo oc r)[5 + x]? = some (.int .i64 (r x)) := by
  rcases (by omega : x = 0 ∨ x = 1 ∨ x = 2 ∨ x = 3 ∨ x = 4) with rfl | rfl | rfl | rfl | rfl <;> rfl

set_option maxRecDepth 100000 in
set_option maxHeartbeats 2000000 in
theorem fails_any (B : Nat) (ao : Option Addr) (cap : Nat) (d : Dye) (oo : Option Addr) (oc : Nat) (r : Nat → Int) (k : Nat) (s : Int × Int) (w : World) (hM : Mnt B w oo d) (hk : k < d.bl.length) (hr : RunB 10000 r) (hs : stintB s = true) :
    Calls Tryd.prog 72 #[mtV ao d.bl.length cap d oo oc r, .int .i64 k, spV s] w fun e w' => e = .returned (.bool (failsB d r k s)) ∧ Mod noB w w' := by
  obtain ⟨⟨hl1, hl2⟩, hbs, ⟨db1, db2⟩, _, _⟩ := dieB_parts hM.die
  obtain ⟨x, hx⟩ : ∃ x, bladeAt d k = x := ⟨_, rfl⟩
  have hxk : d.bl[k]? = some x := by rw [← hx]; exact bladeAt_some hk
  have hxb := hbs x (List.mem_of_getElem? hxk)
  obtain ⟨b, off, p1, p2, p3, p4, rfl, hb, hO, q0, q1⟩ := hM.offs.off hxk
  obtain ⟨rk0, rk1⟩ := hr k (by omega)
  obtain ⟨s1, s2⟩ := s
  have hsb : (1 ≤ s1 ∧ s1 ≤ 1000) ∧ 0 ≤ s2 ∧ s2 ≤ 100000 := by simpa [stintB, fromB, Bool.and_eq_true] using hs
  have hle := hM.le
  obtain ⟨W1, hW1⟩ : ∃ W1, (w.alloc (.cells (mtC ao d.bl.length cap d (some ⟨b, off, none⟩) oc r) 87)).alloc (.cells (spC (s1, s2)) 58) = W1 := ⟨_, rfl⟩
  have hm1 : Mod noB w W1 := by rw [← hW1]; exact ((Mod.refl _ _).alloc _).alloc _
  have hb0 : W1.heap[w.heap.size]? = some (.cells (mtC ao d.bl.length cap d (some ⟨b, off, none⟩) oc r) 87) := by rw [← hW1]; exact allocL_at [_, _] w 0 _ rfl
  have hb1 : W1.heap[w.heap.size + 1]? = some (.cells (spC (s1, s2)) 58) := by rw [← hW1]; exact allocL_at [_, _] w 1 _ rfl
  have FIN : Hold (∀ W', Mod noB W1 W' → W'.cell? ⟨w.heap.size, 1, none⟩ = some (.int .i64 d.bound) ∧ W'.cell? ⟨w.heap.size, 4, none⟩ = some (.slice (some ⟨b, off, none⟩) d.bl.length oc) ∧ W'.cell? ⟨w.heap.size, 5 + k, none⟩ = some (.int .i64 (r k)) ∧
      W'.cell? ⟨w.heap.size + 1, 0, none⟩ = some (.int .i64 s1) ∧ W'.cell? ⟨w.heap.size + 1, 1, none⟩ = some (.int .i64 s2) ∧ W'.cell? ⟨b, off + k * 2 + 1, none⟩ = some (.func (.func 64) #[] #[.pointer (some ⟨p3, 0, none⟩), .pointer (some ⟨p4, 0, none⟩)])) := ⟨fun W' h => by
    have e0 := h.at hb0 id
    have e1 := h.at hb1 id
    exact ⟨cellsAt e0 1, cellsAt e0 4, (cellsAt e0 _).trans (mtC_at (by omega)), cellsAt e1 0, cellsAt e1 1, (cell_same ((hm1.trans h).block b (by omega) id) _).trans q1⟩⟩
  have HC : Hold (∀ W', Mod noB W1 W' → Calls Tryd.prog 64 #[.int .i64 (r k + s1), .pointer (some ⟨p3, 0, none⟩), .pointer (some ⟨p4, 0, none⟩)] W' fun e w'' => e = .returned (.int .i64 (mostV x (r k + s1))) ∧ W' = w'') :=
    ⟨fun W' h => clo_any p3 p4 x.f.2 x.w.2 (r k + s1) W' ((hm1.trans h).at hO.c3 id) ((hm1.trans h).at hO.c4 id) (by omega) (by omega) (by omega)⟩
  have hF : Hold (failsB d r k (s1, s2) = decide (d.bound + s2 < mostV x (r k + s1))) := ⟨by simp only [failsB, hx]⟩
  generalize failsB d r k (s1, s2) = fb at *
  generalize mostV x (r k + s1) = mv at *
  have v1 : IntKind.i64.wrap (r k + s1) = r k + s1 := IntWalk.i64_in _ (by omega)
  have v2 : IntKind.i64.wrap (d.bound + s2) = d.bound + s2 := IntWalk.i64_in _ (by omega)
  have hki : (k : Int) < (d.bl.length : Int) := by omega
  have hki0 : (0 : Int) ≤ (k : Int) := by omega
  have hk5 : (k : Int) < 5 := by omega
  have HM1 := Hold.mk hm1
  clear hM hr hs hbs hxb hO q0 q1 hb0 hb1 hm1 hx hxk hsb rk0 rk1
  go_enter Tryd.func72, Tryd.ntmps72
  go_wp2
  clear hW1
  refine region_quietP (by kernel_rfl) (by kernel_rfl) (fun W' => Mod noB W1 W') ((Mod.refl _ _).drew) ?_
  repeat
    (first
      | go_big_quiet_skip
      | (go_big_quiet_want
         go_simp
         first
           | go_big_quiet_on
           | (apply Exists.intro
              refine ⟨fun W' hC => ?_, ?_⟩
              · obtain ⟨q0, q1, q2, q3, q4, q5⟩ := FIN.out W' hC
                first
                  | (go_at_call 64; refine (HC.out _ hC).mono fun e w'' he => ⟨he.1, he.2 ▸ hC⟩)
                  | with_reducible rfl
                  | (go_simp; first | rfl | exact ⟨rfl, rfl⟩)
              go_big_quiet_on)
           | (refine ⟨⟨_, fun _ _ => rfl⟩, ?_⟩; go_big_quiet_on)))
  refine wpQuiet_nil ?_
  intro Wq hq
  have HQ := Hold.mk hq
  clear hq
  go_wp2
  go_ret
  exact ⟨by rw [hF.out]; rfl, HM1.out.trans HQ.out⟩
end Go.Proofs.YtdncppempgpooaaDoor

/- cheapest: between its rounds. -/
import Derived.Test.YtdncppempgpooaaDoorRvC
set_option linter.unusedSimpArgs false
set_option linter.unusedVariables false
namespace Go.Proofs.YtdncppempgpooaaDoor
open Go.RowKit Go.Shelf Go.Maps Go.WideMaps

section
variable {B : Nat} {d : Dye} {l : List (Int × Int)} {lo : Option Addr} {lcap lb bb fb gb mb : Nat} {w w' : World}
theorem Memo.put (h : Memo B d l lo lcap lb bb fb gb mb w) {i : Nat} (hi : i < l.length) (hn : MemoIs (bestR d (l.drop i)) w' (mb + i)) (hm : Mod (fun k => k = mb + i) w w') : Memo B d l lo lcap lb bb fb gb mb w' := by
  have hin : InT mb l.length (mb + i) := ⟨by omega, by omega⟩
  obtain ⟨es, c, he⟩ := h.map hin
  have keep : ∀ {b : Nat} {cs : Array Value} {t : TypeId}, w.heap[b]? = some (.cells cs t) → w'.heap[b]? = some (.cells cs t) := fun hb => hm.at hb (fun hk => by rw [hk, he] at hb; cases hb)
  obtain ⟨gcs, hgc, hge⟩ := h.hg
  refine ⟨keep h.hl, keep h.hb, keep h.hf, ⟨gcs, keep hgc, hge⟩, fun j hj => ?_, h.le⟩
  by_cases hji : j = i
  · rw [hji]; exact hn
  · exact (h.memo j hj).modT hm (fun k hk cs hc => by rw [hk, he] at hc; cases hc) (hm.block _ (h.memo j hj).lt (by omega))
theorem low_in (hm : Mod (InT mb l.length) w w') (hB : B ≤ w.heap.size) (hb : B ≤ mb) : Low B w w' := Low.of hm hB (fun k hk => by have := hk.1; omega)
end

/-- Between two sets. -/
structure LI (B : Nat) (ao : Option Addr) (cap : Nat) (d : Dye) (oo : Option Addr) (oc : Nat) (l : List (Int × Int)) (lo : Option Addr) (lcap lb bb fb gb mb : Nat) (ss : List (Int × Int)) (s : Int × Int) (r : Nat → Int) (w : World) (k : Nat) (vA : Value) (wr : World) : Prop where
  ex : ∃ cs : List Crs, wr.ownsRow (w.heap.size + 2) 97 2 vA cs.length (crL cs) ∧ Match wr cs (triesR d ss s r k)
  a : wr.heap[w.heap.size]? = some (.cells (mtC ao d.bl.length cap d oo oc r) 87)
  z : wr.heap[w.heap.size + 1]? = some (.cells #[.int .i64 0, .slice none 0 0] 97)
  me : Memo B d l lo lcap lb bb fb gb mb wr
  m : Mod (InT mb l.length) w wr
  le : w.heap.size + 2 ≤ wr.heap.size

section
variable {B : Nat} {ao : Option Addr} {cap : Nat} {d : Dye} {oo : Option Addr} {oc : Nat} {l : List (Int × Int)} {lo : Option Addr} {lcap lb bb fb gb mb : Nat} {ss : List (Int × Int)} {s : Int × Int} {r : Nat → Int} {w : World} {k : Nat} {vA : Value} {wr : World}
theorem LI.later (h : LI B ao cap d oo oc l lo lcap lb bb fb gb mb ss s r w k vA wr) {W : World} (hm : Mod noB wr W) : LI B ao cap d oo oc l lo lcap lb bb fb gb mb ss s r w k vA W := by
  obtain ⟨cs, h1, h2⟩ := h.ex
  refine ⟨⟨cs, own_same h1 (fun q hq => hm.block q ?_ id), h2.modT hm (fun _ h => h.elim)⟩, hm.at h.a id, hm.at h.z id, h.me.mod hm, h.m.then hm (fun _ _ h => h.elim), Nat.le_trans h.le hm.size⟩
  obtain ⟨_, cur, hc⟩ := own_block h1 hq
  exact at_ltS hc
theorem LI.called (h : LI B ao cap d oo oc l lo lcap lb bb fb gb mb ss s r w k vA wr) {W : World} (hm : Mod (InT mb l.length) wr W) (hM : Memo B d l lo lcap lb bb fb gb mb W) : LI B ao cap d oo oc l lo lcap lb bb fb gb mb ss s r w k vA W := by
  obtain ⟨cs, h1, h2⟩ := h.ex
  refine ⟨⟨cs, own_same h1 (fun q hq => ?_), h2.modT hm (fun q hq c hc => h.me.notc hc hq)⟩, hm.at h.a (h.me.notc h.a), hm.at h.z (h.me.notc h.z), hM, h.m.trans hm, Nat.le_trans h.le hm.size⟩
  obtain ⟨_, cur, hc⟩ := own_block h1 hq
  exact hm.block q (at_ltS hc) (h.me.notc hc)
/-- A set that cannot be bent here. -/
theorem LI.no (h : LI B ao cap d oo oc l lo lcap lb bb fb gb mb ss s r w k vA wr) (hf : (failing d (bentR r k) s).isSome = true) : LI B ao cap d oo oc l lo lcap lb bb fb gb mb ss s r w (k + 1) vA wr := by
  obtain ⟨cs, h1, h2⟩ := h.ex
  exact ⟨⟨cs, h1, by rw [tries_no hf]; exact h2⟩, h.a, h.z, h.me, h.m, h.le⟩
/-- One that can be. -/
theorem LI.yes (h : LI B ao cap d oo oc l lo lcap lb bb fb gb mb ss s r w k vA wr) (hf : failing d (bentR r k) s = none) {W : World} {cs : List Crs} {c1 : Int} {v vB : Value} (h2 : Match wr cs (triesR d ss s r k)) (h1 : wr.ownsRow (w.heap.size + 2) 97 2 vA cs.length (crL cs)) (hc1 : c1 = priceR d k + (bestR d ss (runR d (bentR r k) s)).1)
    (ho : W.ownsRow (w.heap.size + 2) 97 2 vB (cs.length + 1) (crL cs ++ [.int .i64 c1, v])) (hC : CrV (c1, k :: (bestR d ss (runR d (bentR r k) s)).2) (.agg #[.int .i64 c1, v]) W) (hm : Mod (fun j => vA.ownBlock = some j) wr W) :
    LI B ao cap d oo oc l lo lcap lb bb fb gb mb ss s r w (k + 1) vB W := by
  have hT : ∀ q, vA.ownBlock = some q → w.heap.size + 2 ≤ q ∧ ∃ cur, wr.heap[q]? = some (.cells cur 97) := fun q hq => own_block h1 hq
  subst hc1
  obtain ⟨a1, k1, hv, hrest⟩ := hC
  simp only [Value.agg.injEq, Array.mk.injEq, List.cons.injEq, true_and, and_true] at hv
  subst hv
  refine ⟨⟨cs ++ [(priceR d k + (bestR d ss (runR d (bentR r k) s)).1, a1, (k :: (bestR d ss (runR d (bentR r k) s)).2).length, k1)], ?_, ?_⟩, hm.at h.a (fun hq => by have := (hT _ hq).1; omega), hm.at h.z (fun hq => by have := (hT _ hq).1; omega),
    h.me.modN hm (fun q hq => (hT q hq).2), h.m.then hm (fun q hq ht => by have := (hT _ ht).1; omega), Nat.le_trans h.le hm.size⟩
  · simpa [crL] using ho
  · rw [tries_yes hf]
    refine (h2.modT hm (fun q hq c hc => ?_)).snoc ⟨a1, k1, rfl, hrest⟩
    obtain ⟨cur, hcur⟩ := (hT q hq).2
    rw [hcur] at hc; cases hc
end

/-- What is asked of the function that tells what is best from stint i on. -/
def FromOk (B : Nat) (ao : Option Addr) (cap : Nat) (d : Dye) (oo : Option Addr) (oc : Nat) (l : List (Int × Int)) (lo : Option Addr) (lcap lb bb fb gb mb i : Nat) : Prop :=
  ∀ (r : Nat → Int) (w : World), Zer r → RunB (1000 * i) r → Mnt B w oo d → StintsAt B w lo l → Memo B d l lo lcap lb bb fb gb mb w →
    Calls Tryd.prog 73 #[.int .i64 i, mtV ao d.bl.length cap d oo oc r, .pointer (some ⟨lb, 0, none⟩), .pointer (some ⟨bb, 0, none⟩), .pointer (some ⟨fb, 0, none⟩)] w fun e w' =>
      ∃ x : Crs, e = .returned (crV x) ∧ CrV (bestR d (l.drop i) r) (crV x) w' ∧ Memo B d l lo lcap lb bb fb gb mb w' ∧ Mod (InT mb l.length) w w'

set_option maxRecDepth 100000 in
set_option maxHeartbeats 4000000 in
theorem from_end (B : Nat) (ao : Option Addr) (cap : Nat) (d : Dye) (oo : Option Addr) (oc : Nat) (l : List (Int × Int)) (lo : Option Addr) (lcap lb bb fb gb mb : Nat) (hll : l.length ≤ 7) : FromOk B ao cap d oo oc l lo lcap lb bb fb gb mb l.length := by
  intro r w hz hr hM hl hMe
  obtain ⟨W1, hW1⟩ : ∃ W1, (w.alloc (.cells (mtC ao d.bl.length cap d oo oc r) 87)).alloc (.cells #[.int .i64 0, .slice none 0 0] 97) = W1 := ⟨_, rfl⟩
  have hm1 : Mod noB w W1 := by rw [← hW1]; exact ((Mod.refl _ _).alloc _).alloc _
  have hb1 : W1.heap[w.heap.size + 1]? = some (.cells #[.int .i64 0, .slice none 0 0] 97) := by rw [← hW1]; exact allocL_at [.cells (mtC ao d.bl.length cap d oo oc r) 87, .cells #[.int .i64 0, .slice none 0 0] 97] w 1 _ rfl
  have q0 : W1.cell? ⟨lb, 0, none⟩ = some (.slice lo l.length lcap) := cellsAt (hm1.at hMe.hl id) 0
  have HM := Hold.mk (And.intro hm1 (And.intro hb1 (hMe.mod hm1)))
  clear hM hl hMe hr hz
  rw [List.drop_length]
  go_enter Tryd.func73, Tryd.ntmps73
  go_wp2
  go_step3
  go_wp2_with (first
    | ((try rw [hW1]); refine wpList_store_row rfl 97 (.tmp 7) (.tmp 20) rfl (w.heap.size + 1) #[.int .i64 0, .slice none 0 0] rfl rfl 97 _ HM.out.2.1 info97 rfl (by simp [Value.oneCell']) ?_; rw [setRow_put HM.out.2.1]))
  rw [Exit.noGoto_ret]
  obtain ⟨hm1, hb1, hMe⟩ := HM.out
  have hm2 : Mod (fun k => k = w.heap.size + 1) W1 (W1.putObj (w.heap.size + 1) (.cells #[.int .i64 0, .slice none 0 0] 97)) := (Mod.refl (fun k => k = w.heap.size + 1) W1).putObj (fun _ => rfl) _
  have hb2 : (W1.putObj (w.heap.size + 1) (.cells #[.int .i64 0, .slice none 0 0] 97)).heap[w.heap.size + 1]? = some (.cells #[.int .i64 0, .slice none 0 0] 97) := World.putObj_heap_same (at_ltS hb1)
  exact bodyPost_ret (results_cell_row (fn := Tryd.f73) rfl _ _ (w.heap.size + 1) 97 _ (0, 0) _ rfl hb2 Tryd.underlying97 rfl info97) rfl
    ⟨(0, none, 0, 0), rfl, ⟨none, 0, rfl, ⟨fun h => absurd rfl h, by simp [bestR]⟩, fun b off x e => (by cases e), fun _ => rfl⟩, hMe.modN hm2 (fun k hk => ⟨_, hk ▸ hb1⟩), (hm1.then hm2 (fun i h1 h2 => by omega)).wider (fun _ _ h => h.elim)⟩
end Go.Proofs.YtdncppempgpooaaDoor

/- least: of several courses the one that costs least. -/
import Derived.Test.YtdncppempgpooaaDoorRuS
import Derived.Laws.Tables
set_option linter.unusedSimpArgs false
set_option linter.unusedVariables false
namespace Go.Proofs.YtdncppempgpooaaDoor
open Go.RowKit Go.Shelf

/-- A course in memory: what it costs, and a slice. -/
abbrev Crs := Int × Option Addr × Nat × Nat
@[reducible] def crC (x : Crs) : Array Value := #[.int .i64 x.1, .slice x.2.1 x.2.2.1 x.2.2.2]
@[reducible] def crV (x : Crs) : Value := .agg #[.int .i64 x.1, .slice x.2.1 x.2.2.1 x.2.2.2]
theorem enter75 : ∀ args w, (callFunc 75 args).run Tryd.prog w = .ok (.enter 75 args) w := enters_of Tryd.func75 (by kernel_rfl) rfl
set_option maxHeartbeats 400000 in
theorem cost_any (x : Crs) (w : World) : Calls Tryd.prog 75 #[crV x] w fun e w' => e = .returned (.int .i64 x.1) ∧ Mod noB w w' := by
  obtain ⟨c, a, n, k⟩ := x
  go_enter Tryd.func75, Tryd.ntmps75
  go_wp2
  go_ret
  exact ⟨rfl, (Mod.refl _ _).alloc _⟩

def leastC (f : Crs) (L : List Crs) : Crs := L.foldl (fun a x => if x.1 < a.1 then x else a) f
theorem leastC_snoc (f : Crs) (L : List Crs) (x : Crs) : leastC f (L ++ [x]) = if x.1 < (leastC f L).1 then x else leastC f L := by unfold leastC; rw [List.foldl_append]; rfl

abbrev CrsAt (B : Nat) (w : World) (ao : Option Addr) (L : List Crs) : Prop := ListAt B w 2 crC ao L
theorem ListAt.crs {B : Nat} {w : World} {ao : Option Addr} {l : List Crs} (h : CrsAt B w ao l) {k : Nat} {x : Crs} (hx : l[k]? = some x) : ∃ b off, ao = some ⟨b, off, none⟩ ∧ b < B ∧
    w.cell? ⟨b, off + k * 2, none⟩ = some (.int .i64 x.1) ∧ w.cell? ⟨b, off + k * 2 + 1, none⟩ = some (.slice x.2.1 x.2.2.1 x.2.2.2) := by
  obtain ⟨b, off, e, hb, hc⟩ := h.lies (fun e => by rw [e] at hx; simp at hx)
  have g := hc k x hx
  exact ⟨b, off, e, hb, g 0 (by omega), g 1 (by omega)⟩

/-- Between two rounds of least. -/
structure LsI (f : Crs) (L : List Crs) (w : World) (k : Nat) (wr : World) : Prop where
  a : wr.heap[w.heap.size]? = some (.cells (crC (leastC f (L.take k))) 97)
  z : wr.heap[w.heap.size + 1]? = some (.cells #[.int .i64 0, .slice none 0 0] 97)
  m : Mod noB w wr
theorem LsI.later {f : Crs} {L : List Crs} {w : World} {k : Nat} {W W' : World} (h : LsI f L w k W) (hm : Mod noB W W') : LsI f L w k W' := ⟨hm.at h.a id, hm.at h.z id, h.m.trans hm⟩

set_option maxRecDepth 100000 in
set_option maxHeartbeats 4000000 in
theorem least_any (B : Nat) (f : Crs) (L : List Crs) (ao : Option Addr) (cap : Nat) (w : World) (hB : B ≤ w.heap.size) (hL : CrsAt B w ao L) :
    Calls Tryd.prog 74 #[.func (.func 75) #[] #[], crV f, .slice ao L.length cap] w fun e w' => e = .returned (crV (leastC f L)) ∧ Mod noB w w' := by
  have hsm := hL.small
  have HI : Hold (LsI f L w 0 ((w.alloc (.cells (crC f) 97)).alloc (.cells #[.int .i64 0, .slice none 0 0] 97))) := ⟨by
    have h := allocL_at [.cells (crC f) 97, .cells #[.int .i64 0, .slice none 0 0] 97] w
    exact ⟨h 0 _ rfl, h 1 _ rfl, ((Mod.refl _ _).alloc _).alloc _⟩⟩
  have HL := Hold.mk (And.intro hL hB)
  obtain ⟨fc, fa, fn, fk⟩ := f
  clear hL hB
  go_enter Tryd.func74, Tryd.ntmps74
  go_wp2
  go_loopw [11] (fun i wr => ∃ k : Nat, k ≤ L.length ∧ i = .int .i64 k ∧ LsI (fc, fa, fn, fk) L w k wr) (fun i _ => L.length - (intOf i).toNat)
  case atStart => exact ⟨0, Nat.zero_le _, rfl, HI.out⟩
  case round =>
    obtain ⟨k, hk, rfl, hI⟩ := hrel
    have HI := Hold.mk hI
    clear hI
    by_cases hlt : k < L.length
    · obtain ⟨x, hx⟩ : ∃ x, L[k]? = some x := ⟨_, List.getElem?_eq_getElem hlt⟩
      obtain ⟨b, off, rfl, hb, q0, q1⟩ := (HL.out.1.low (Low.ofN HI.out.m HL.out.2)).crs hx
      have hne : b ≠ wr.heap.size := by have := HI.out.m.size; have := HL.out.2; omega
      have htk : Hold (L.take (k + 1) = L.take k ++ [x]) := ⟨by rw [List.take_succ_eq_append_getElem hlt]; congr 2; rw [List.getElem?_eq_getElem hlt] at hx; exact Option.some.inj hx⟩
      have HN : Hold (leastC (fc, fa, fn, fk) (L.take (k + 1)) = if x.1 < (leastC (fc, fa, fn, fk) (L.take k)).1 then x else leastC (fc, fa, fn, fk) (L.take k)) := ⟨by rw [htk.out, leastC_snoc]⟩
      obtain ⟨y, hy⟩ : ∃ y, leastC (fc, fa, fn, fk) (L.take k) = y := ⟨_, rfl⟩
      have ha := HI.out.a
      rw [hy] at HN ha
      obtain ⟨W4, hW4⟩ : ∃ W4, wr.alloc (.cells (crC x) 97) = W4 := ⟨_, rfl⟩
      have hm4 : Mod noB wr W4 := by rw [← hW4]; exact (Mod.refl _ _).alloc _
      have hx4 : W4.heap[wr.heap.size]? = some (.cells (crC x) 97) := by rw [← hW4]; exact World.alloc_heap_new _ _
      have hne2 : w.heap.size < wr.heap.size := at_ltS ha
      have FIN : Hold (∀ W', Mod noB W4 W' → (W'.heap[w.heap.size]? = some (.cells (crC y) 97) ∧ W'.heap[wr.heap.size]? = some (.cells (crC x) 97)) ∧ Mod noB wr W') := ⟨fun W' h => ⟨⟨(hm4.trans h).at ha id, h.at hx4 id⟩, hm4.trans h⟩⟩
      have HC := Hold.mk cost_any
      have HY := Hold.mk hy
      clear hx ha hm4 hx4 hy
      obtain ⟨xc, xa, xn, xk⟩ := x
      obtain ⟨yc, ya, yn, yk⟩ := y
      go_wp2
      try rw [hW4]
      refine region_quietP (by kernel_rfl) (by kernel_rfl) (fun W' => Mod noB W4 W') ((Mod.refl _ _).drew) ?_
      repeat
        (first
          | go_big_quiet_skip
          | (go_big_quiet_want
             go_simp
             first
               | go_big_quiet_on
               | (apply Exists.intro
                  refine ⟨fun W' hC => ?_, ?_⟩
                  · obtain ⟨⟨ga, gx⟩, gm⟩ := FIN.out W' hC
                    have c0 := cellsAt ga 0; have c1 := cellsAt ga 1; have d0 := cellsAt gx 0; have d1 := cellsAt gx 1
                    first
                      | (go_at_call 75; (with_reducible refine (HC.out (xc, xa, xn, xk) _).mono ?_); exact fun e w'' he => ⟨he.1, hC.trans he.2⟩)
                      | (go_at_call 75; (with_reducible refine (HC.out (yc, ya, yn, yk) _).mono ?_); exact fun e w'' he => ⟨he.1, hC.trans he.2⟩)
                      | with_reducible rfl
                      | (clear ga gx gm; go_simp; first | rfl | exact ⟨rfl, rfl⟩)
                  go_big_quiet_on)
               | (refine ⟨⟨_, fun _ _ => rfl⟩, ?_⟩; go_big_quiet_on)))
      refine wpQuiet_nil ?_
      intro Wq hq
      have HQ := Hold.mk (FIN.out Wq hq)
      have HIq := Hold.mk (HI.out.later (FIN.out Wq hq).2)
      clear hq
      obtain ⟨⟨ga, gx⟩, _⟩ := HQ.out
      have d0 := cellsAt gx 0; have d1 := cellsAt gx 1
      have GA := Hold.mk ga
      clear ga gx
      by_cases hc : xc < yc
      · have HN' : Hold (leastC (fc, fa, fn, fk) (L.take (k + 1)) = (xc, xa, xn, xk)) := ⟨by rw [HN.out]; simp [hc]⟩
        go_wp2_with (refine wpList_store_row rfl 97 (.tmp 4) (.tmp 22) rfl w.heap.size (crC (xc, xa, xn, xk)) rfl rfl 97 _ GA.out (by kernel_rfl) rfl (by simp [Value.oneCell']) ?_; rw [setRow_put GA.out])
        have hm2 : Mod (fun j => j = w.heap.size) Wq (Wq.putObj w.heap.size (.cells (crC (xc, xa, xn, xk)) 97)) := (Mod.refl (fun j => j = w.heap.size) Wq).putObj (fun _ => rfl) _
        go_roundw
        case rel => exact ⟨k + 1, by omega, by go_num, ⟨by rw [HN'.out]; exact World.putObj_heap_same (at_ltS GA.out), hm2.at HIq.out.z (by omega), HIq.out.m.putObj (fun h => by omega) _⟩⟩
        case measure => simp [intOf]; omega
      · have HN' : Hold (leastC (fc, fa, fn, fk) (L.take (k + 1)) = (yc, ya, yn, yk)) := ⟨by rw [HN.out]; simp [hc]⟩
        go_wp2
        go_roundw
        case rel => exact ⟨k + 1, by omega, by go_num, ⟨by rw [HN'.out]; exact GA.out, HIq.out.z, HIq.out.m⟩⟩
        case measure => simp [intOf]; omega
    · obtain rfl : k = L.length := by omega
      have ha := HI.out.a
      rw [List.take_length] at ha
      obtain ⟨y, hy⟩ : ∃ y, leastC (fc, fa, fn, fk) L = y := ⟨_, rfl⟩
      rw [hy] at ha
      have HE := Hold.mk hy
      clear hy
      obtain ⟨yc, ya, yn, yk⟩ := y
      have hz := HI.out.z
      have HA := Hold.mk (And.intro ha (And.intro hz HI.out.m))
      clear ha hz
      go_wp2_with (first
        | (refine wpList_load_row rfl 97 (.tmp 4) rfl w.heap.size rfl 97 _ (0, 0) _ HA.out.1 Tryd.underlying97 rfl (by kernel_rfl) ?_)
        | (refine wpList_store_row rfl 97 (.tmp 6) (.tmp 24) rfl (w.heap.size + 1) (crC (yc, ya, yn, yk)) rfl rfl 97 _ HA.out.2.1 (by kernel_rfl) rfl (by simp [Value.oneCell']) ?_; rw [setRow_put HA.out.2.1]))
      have hg : (wr.putObj (w.heap.size + 1) (.cells (crC (yc, ya, yn, yk)) 97)).heap[w.heap.size + 1]? = some (.cells (crC (yc, ya, yn, yk)) 97) := World.putObj_heap_same (at_ltS HA.out.2.1)
      exact bodyPost_ret (results_cell_row (fn := Tryd.f74) rfl _ _ (w.heap.size + 1) 97 _ (0, 0) _ rfl hg Tryd.underlying97 rfl (by kernel_rfl)) rfl ⟨by rw [HE.out], HA.out.2.2.putObj (fun h => by omega) _⟩
end Go.Proofs.YtdncppempgpooaaDoor

/- fitting: the complete lists that fit, and the others. -/
import Derived.Test.YtknbcmildpmokaaScO
set_option linter.unusedSimpArgs false
set_option linter.unusedVariables false
namespace Go.Proofs.Ytknbcmildpmokaa
open Go.RowKit Go.Shelf


attribute [local go_sem] Oper.semAt_some

theorem fillL_mem : ∀ (ks : List Knd) (l e : Int), 0 ≤ l → 0 ≤ e → (∀ k ∈ ks, 0 ≤ k.many) → ∀ x ∈ fillL ks l e, x.length = ks.length ∧ ∀ n ∈ x, -l ≤ n ∧ n ≤ e := by
  intro ks
  induction ks with
  | nil =>
    intro l e _ _ _ x hx
    simp only [fillL, List.mem_singleton] at hx
    subst hx
    exact ⟨rfl, fun n hn => by cases hn⟩
  | cons k ks ih =>
    intro l e hl he hk x hx
    simp only [fillL, List.mem_flatMap, List.mem_map] at hx
    obtain ⟨z, hz, y, hy, rfl⟩ := hx
    unfold ints at hz
    obtain ⟨i, hi, rfl⟩ := List.mem_map.1 hz
    have hi' := List.mem_range.1 hi
    have hk0 := hk k (by simp)
    obtain ⟨h1, h2⟩ := ih (l + min (-(min l k.many) + (i : Int)) 0) (e - max (-(min l k.many) + (i : Int)) 0) (by omega) (by omega) (fun q hq => hk q (by simp [hq])) y hy
    refine ⟨by simp [h1], fun n hn => ?_⟩
    rcases List.mem_cons.1 hn with rfl | hn
    · omega
    · have := h2 n hn; omega
theorem allL_mem {b : Bx} (hb : boxB b = true) {x : List Int} (hx : x ∈ allL b) : x.length = b.ks.length ∧ ∀ n ∈ x, -4 ≤ n ∧ n ≤ 3 := by
  have hks := boxB_ks hb
  obtain ⟨h1, h2⟩ := fillL_mem b.ks b.lost b.extra hks.2.2.2.2.1.1 hks.2.2.2.2.2.1 (fun k hk => (hks.2.2.1 k hk).1) x hx
  exact ⟨h1, fun n hn => by have := h2 n hn; have := hks.2.2.2.2; omega⟩
theorem enter81 : ∀ args w, (callFunc 81 args).run Try.prog w = .ok (.enter 81 args) w := enters_of Try.func81 (by kernel_rfl) rfl
theorem info85 : (Try.prog.info? 85).map (fun i => (i.zero, i.size, i.bytes)) = some (some (.slice none 0 0), 1, 24) := by kernel_rfl

/-- The two lists so far, and what else lies where. -/
structure FtS (B : Nat) (w : World) (ao : Option Addr) (cap : Nat) (b : Bx) (ro : Option Addr) (rcap : Nat) (l : List Rdg) (L1 L2 : List (List Int)) (n1 n2 : Nat) (v1 v2 : Value) (W : World) : Prop where
  b : BoxAt B W w.heap.size ao cap b
  r : W.heap[w.heap.size + 1]? = some (.cells #[.slice ro l.length rcap] 30)
  ra : ReadsAt B W ro l
  c : W.heap[w.heap.size + 1 + 1]? = some (.cells #[v1] 85)
  o : W.heap[w.heap.size + 1 + 1 + 1]? = some (.cells #[v2] 85)
  oc : W.ownsRow (w.heap.size + 10) 77 4 v1 n1 (flatC liC L1)
  oo : W.ownsRow (w.heap.size + 10) 77 4 v2 n2 (flatC liC L2)
  ap : ∀ r, v1.ownBlock = some r → v2.ownBlock ≠ some r
  e1 : n1 = L1.length
  e2 : n2 = L2.length
  z : w.heap.size + 5 ≤ W.heap.size
  m : Mod noB w W
/-- What the loop, or the iterator, may turn. -/
theorem FtS.turn {B : Nat} {w : World} {ao : Option Addr} {cap : Nat} {b : Bx} {ro : Option Addr} {rcap : Nat} {l : List Rdg} {L1 L2 : List (List Int)} {n1 n2 : Nat} {v1 v2 : Value} {W W' : World} (hB : B ≤ w.heap.size) (h : FtS B w ao cap b ro rcap l L1 L2 n1 n2 v1 v2 W) (hm : Mod (fun k => w.heap.size + 5 ≤ k ∧ k < w.heap.size + 5 + 2 + 3) W W') : FtS B w ao cap b ro rcap l L1 L2 n1 n2 v1 v2 W' := by
  have hz := h.z
  have lo : Low B W W' := Low.of hm (by omega) (fun k hk => by omega)
  exact ⟨⟨hm.at h.b.c (by omega), h.b.k.low lo⟩, hm.at h.r (by omega), h.ra.low lo, hm.at h.c (by omega), hm.at h.o (by omega), own_same h.oc (fun r hr => hm.block r (own_block h.oc hr).2 (by have := (own_block h.oc hr).1; omega)), own_same h.oo (fun r hr => hm.block r (own_block h.oo hr).2 (by have := (own_block h.oo hr).1; omega)), h.ap, h.e1, h.e2, Nat.le_trans hz hm.size, h.m.then hm (fun i hi hk => by omega)⟩
theorem FtS.mod {B : Nat} {w : World} {ao : Option Addr} {cap : Nat} {b : Bx} {ro : Option Addr} {rcap : Nat} {l : List Rdg} {L1 L2 : List (List Int)} {n1 n2 : Nat} {v1 v2 : Value} {W W' : World} (hB : B ≤ w.heap.size) (h : FtS B w ao cap b ro rcap l L1 L2 n1 n2 v1 v2 W) (hm : Mod noB W W') : FtS B w ao cap b ro rcap l L1 L2 n1 n2 v1 v2 W' :=
  h.turn hB (hm.wider (fun _ _ h => h.elim))
/-- One more in the first list. -/
theorem FtS.add1 {B : Nat} {w : World} {ao : Option Addr} {cap : Nat} {b : Bx} {ro : Option Addr} {rcap : Nat} {l : List Rdg} {L1 L2 : List (List Int)} {n1 n2 : Nat} {v1 v2 v' : Value} {W wb : World} {x : List Int} {o2 : Obj} (hB : B ≤ w.heap.size) (h : FtS B w ao cap b ro rcap l L1 L2 n1 n2 v1 v2 W)
    (hz : w.heap.size + 10 ≤ W.heap.size) (ho : wb.ownsRow (w.heap.size + 10) 77 4 v' (n1 + 1) (flatC liC L1 ++ (liC x).toList)) (hg : (W.alloc o2).grownBy wb v1.ownBlock) (hat : v'.ownBlock = v1.ownBlock ∨ v'.ownBlock = some (W.alloc o2).heap.size) :
    FtS B w ao cap b ro rcap l (L1 ++ [x]) L2 (n1 + 1) n2 v' v2 (wb.setCell ⟨w.heap.size + 1 + 1, 0, none⟩ v') ∧ Mod (fun k => (k = w.heap.size + 1 + 1 ∨ k = w.heap.size + 1 + 1 + 1) ∨ w.heap.size + 5 + 2 + 3 ≤ k) W (wb.setCell ⟨w.heap.size + 1 + 1, 0, none⟩ v') := by
  have hv1 : ∀ r, v1.ownBlock = some r → w.heap.size + 10 ≤ r := fun r hr => (own_block h.oc hr).1
  have m1 : Mod noB W (W.alloc o2) := (Mod.refl _ _).alloc _
  have m2 : Mod (fun k => v1.ownBlock = some k) W wb := (m1.wider (fun _ _ h => h.elim)).then (Mod.of_grownBy hg (fun r hr _ => hr)) (fun _ _ h => h)
  have m3 : Mod (fun k => k = w.heap.size + 1 + 1) wb (wb.setCell ⟨w.heap.size + 1 + 1, 0, none⟩ v') := (Mod.refl (fun k => k = w.heap.size + 1 + 1) wb).setCell (p := ⟨w.heap.size + 1 + 1, 0, none⟩) (fun _ => rfl) _
  have m : Mod (fun k => v1.ownBlock = some k ∨ k = w.heap.size + 1 + 1) W (wb.setCell ⟨w.heap.size + 1 + 1, 0, none⟩ v') := (m2.wider (fun _ _ h => .inl h)).then m3 (fun _ _ h => .inr h)
  have nv : ∀ k, k < w.heap.size + 10 → ¬ v1.ownBlock = some k := fun k hk e => by have := hv1 k e; omega
  have lo : Low B W (wb.setCell ⟨w.heap.size + 1 + 1, 0, none⟩ v') := ⟨m.size, fun k hk => m.block k (by omega) (fun e => e.elim (nv k (by omega)) (fun e => by omega))⟩
  have keep : ∀ {k : Nat} {ob : Obj}, W.heap[k]? = some ob → k < w.heap.size + 10 → k ≠ w.heap.size + 1 + 1 → (wb.setCell ⟨w.heap.size + 1 + 1, 0, none⟩ v').heap[k]? = some ob := fun hk h1 h2 => m.at hk (fun e => e.elim (nv _ h1) h2)
  have hc : wb.heap[w.heap.size + 1 + 1]? = some (.cells #[v1] 85) := m2.at h.c (nv _ (by omega))
  refine ⟨⟨⟨keep h.b.c (by omega) (by omega), h.b.k.low lo⟩, keep h.r (by omega) (by omega), h.ra.low lo, ?_, keep h.o (by omega) (by omega), ?_, ?_, ?_, by rw [List.length_append, ← h.e1]; rfl, h.e2, Nat.le_trans h.z m.size, h.m.then m (fun i hi hk => ?_)⟩, m.wider (fun i _ hk => ?_)⟩
  · rw [setCell_at hc 0]; rfl
  · rw [flatC_snoc]
    exact own_same ho (fun r hr => m3.block r (own_block ho hr).2 (by have := (own_block ho hr).1; omega))
  · exact own_same h.oo (fun r hr => m.block r (own_block h.oo hr).2 (by
      rintro (e | e)
      · exact h.ap r e hr
      · have := (own_block h.oo hr).1; omega))
  · intro r hr hr2
    rcases hat with e | e
    · exact h.ap r (e ▸ hr) hr2
    · have h1 := (own_block h.oo hr2).2
      rw [e] at hr
      have : (W.alloc o2).heap.size = r := by simpa using hr
      simp at this
      omega
  · rcases hk with hk | hk
    · have := hv1 i hk; omega
    · omega
  · rcases hk with hk | hk
    · right; have := hv1 i hk; omega
    · left; left; exact hk
theorem FtS.add2 {B : Nat} {w : World} {ao : Option Addr} {cap : Nat} {b : Bx} {ro : Option Addr} {rcap : Nat} {l : List Rdg} {L1 L2 : List (List Int)} {n1 n2 : Nat} {v1 v2 v' : Value} {W wb : World} {x : List Int} {o2 : Obj} (hB : B ≤ w.heap.size) (h : FtS B w ao cap b ro rcap l L1 L2 n1 n2 v1 v2 W)
    (hz : w.heap.size + 10 ≤ W.heap.size) (ho : wb.ownsRow (w.heap.size + 10) 77 4 v' (n2 + 1) (flatC liC L2 ++ (liC x).toList)) (hg : (W.alloc o2).grownBy wb v2.ownBlock) (hat : v'.ownBlock = v2.ownBlock ∨ v'.ownBlock = some (W.alloc o2).heap.size) :
    FtS B w ao cap b ro rcap l L1 (L2 ++ [x]) n1 (n2 + 1) v1 v' (wb.setCell ⟨w.heap.size + 1 + 1 + 1, 0, none⟩ v') ∧ Mod (fun k => (k = w.heap.size + 1 + 1 ∨ k = w.heap.size + 1 + 1 + 1) ∨ w.heap.size + 5 + 2 + 3 ≤ k) W (wb.setCell ⟨w.heap.size + 1 + 1 + 1, 0, none⟩ v') := by
  have hv1 : ∀ r, v2.ownBlock = some r → w.heap.size + 10 ≤ r := fun r hr => (own_block h.oo hr).1
  have m1 : Mod noB W (W.alloc o2) := (Mod.refl _ _).alloc _
  have m2 : Mod (fun k => v2.ownBlock = some k) W wb := (m1.wider (fun _ _ h => h.elim)).then (Mod.of_grownBy hg (fun r hr _ => hr)) (fun _ _ h => h)
  have m3 : Mod (fun k => k = w.heap.size + 1 + 1 + 1) wb (wb.setCell ⟨w.heap.size + 1 + 1 + 1, 0, none⟩ v') := (Mod.refl (fun k => k = w.heap.size + 1 + 1 + 1) wb).setCell (p := ⟨w.heap.size + 1 + 1 + 1, 0, none⟩) (fun _ => rfl) _
  have m : Mod (fun k => v2.ownBlock = some k ∨ k = w.heap.size + 1 + 1 + 1) W (wb.setCell ⟨w.heap.size + 1 + 1 + 1, 0, none⟩ v') := (m2.wider (fun _ _ h => .inl h)).then m3 (fun _ _ h => .inr h)
  have nv : ∀ k, k < w.heap.size + 10 → ¬ v2.ownBlock = some k := fun k hk e => by have := hv1 k e; omega
  have lo : Low B W (wb.setCell ⟨w.heap.size + 1 + 1 + 1, 0, none⟩ v') := ⟨m.size, fun k hk => m.block k (by omega) (fun e => e.elim (nv k (by omega)) (fun e => by omega))⟩
  have keep : ∀ {k : Nat} {ob : Obj}, W.heap[k]? = some ob → k < w.heap.size + 10 → k ≠ w.heap.size + 1 + 1 + 1 → (wb.setCell ⟨w.heap.size + 1 + 1 + 1, 0, none⟩ v').heap[k]? = some ob := fun hk h1 h2 => m.at hk (fun e => e.elim (nv _ h1) h2)
  have hc : wb.heap[w.heap.size + 1 + 1 + 1]? = some (.cells #[v2] 85) := m2.at h.o (nv _ (by omega))
  refine ⟨⟨⟨keep h.b.c (by omega) (by omega), h.b.k.low lo⟩, keep h.r (by omega) (by omega), h.ra.low lo, keep h.c (by omega) (by omega), ?_, ?_, ?_, ?_, h.e1, by rw [List.length_append, ← h.e2]; rfl, Nat.le_trans h.z m.size, h.m.then m (fun i hi hk => ?_)⟩, m.wider (fun i _ hk => ?_)⟩
  · rw [setCell_at hc 0]; rfl
  · exact own_same h.oc (fun r hr => m.block r (own_block h.oc hr).2 (by
      rintro (e | e)
      · exact h.ap r hr e
      · have := (own_block h.oc hr).1; omega))
  · rw [flatC_snoc]
    exact own_same ho (fun r hr => m3.block r (own_block ho hr).2 (by have := (own_block ho hr).1; omega))
  · intro r hr hr2
    rcases hat with e | e
    · exact h.ap r hr (e ▸ hr2)
    · have h1 := (own_block h.oc hr).2
      rw [e] at hr2
      have : (W.alloc o2).heap.size = r := by simpa using hr2
      simp at this
      omega
  · rcases hk with hk | hk
    · have := hv1 i hk; omega
    · omega
  · rcases hk with hk | hk
    · right; have := hv1 i hk; omega
    · left; right; exact hk

end Go.Proofs.Ytknbcmildpmokaa

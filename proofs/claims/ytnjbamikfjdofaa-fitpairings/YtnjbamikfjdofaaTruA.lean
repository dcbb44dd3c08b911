/- FitTrue: a number of a span, drawn by a remainder. -/
import Derived.Test.YtnjbamikfjdofaaInv
import Derived.Test.YtnjbamikfjdofaaAnew
import Derived.Test.YtnjbamikfjdofaaRefB
set_option linter.unusedSimpArgs false
set_option linter.unusedVariables false
namespace Go.Proofs.Ytnjbamikfjdofaa
open Go.RowKit Go.Shelf

/-- The raw numbers that came in: each is read somewhere below. -/
structure RawAt (w : World) (ao : Option Addr) (n : Nat) : Prop where
  pos : 1 ≤ n
  most : n ≤ 9223372036854775807
  lies : ∃ b off, ao = some ⟨b, off, none⟩ ∧ b < w.heap.size ∧ ∀ j, j < n → ∃ x : Int, 0 ≤ x ∧ x ≤ 65535 ∧ w.cell? ⟨b, off + j, none⟩ = some (.int .u16 x)
/-- Where the drawer lies, and how far it has come. -/
def DrawAt (w : World) (db : Nat) (ao : Option Addr) (n c : Nat) (k : Nat) : Prop := w.heap[db]? = some (.cells #[.slice ao n c, .int .i64 k] 60)

theorem u16_bounds (z : Int) : 0 ≤ IntKind.u16.wrap z ∧ IntKind.u16.wrap z ≤ 65535 := by
  have e : IntKind.u16.wrap z = z % 65536 := by simp [IntKind.wrap, IntKind.bits, IntKind.signed]
  rw [e]
  omega

set_option maxRecDepth 100000 in
set_option maxHeartbeats 4000000 in
theorem of_any (w0 w : World) (db : Nat) (ao : Option Addr) (n c k : Nat) (s : Int × Int) (hR : RawAt w0 ao n) (hw : Mod noB w0 w) (hd0 : w0.heap.size ≤ db) (hd : DrawAt w db ao n c k) (hk : k ≤ 2000) (hs : s.1 ≤ s.2) (hsm : Small 1000000 s) :
    Calls Try.prog 39 #[.pointer (some ⟨db, 0, none⟩), spV s] w fun e w' => ∃ r, s.1 ≤ r ∧ r ≤ s.2 ∧ e = .returned (.int .i64 r) ∧ Mod (fun b => b = db) w w' ∧ DrawAt w' db ao n c (k + 1) := by
  obtain ⟨b, off, rfl, hb, hx⟩ := hR.lies
  have hpos := hR.pos
  have hmost := hR.most
  obtain ⟨x, x0, x1, hcx⟩ := hx ((k + 1) % n) (Nat.mod_lt _ (by omega))
  have hlb : b < w.heap.size := Nat.lt_of_lt_of_le hb hw.size
  have hcx' : w.cell? ⟨b, off + (k + 1) % n, none⟩ = some (.int .u16 x) := (cell_same (hw.block b hb id) _).trans hcx
  have hrem : ((k : Int) + 1).tmod (n : Int) = (((k + 1) % n : Nat) : Int) := by
    rw [Int.tmod_eq_emod_of_nonneg (by omega), Int.natCast_emod, Int.natCast_add]; rfl
  have hrem2 : ((k : Int) + 1) % (n : Int) = (((k + 1) % n : Nat) : Int) := by
    rw [Int.natCast_emod, Int.natCast_add]; rfl
  have hq := Nat.mod_lt (k + 1) (show 0 < n by omega)
  have hne : b ≠ db := by omega
  have hdl := (Array.getElem?_eq_some_iff.1 hd).1
  obtain ⟨⟨l1, l2⟩, l3, l4⟩ := hsm
  have d0 := cellsAt hd 0
  have d1 := cellsAt hd 1
  have f1 := cells_frozen hd 1
  clear hx hcx hR
  generalize (k + 1) % n = q at *
  obtain ⟨y, hy⟩ : ∃ y, IntKind.u16.wrap (x + ((k : Int) + 1)) = y := ⟨_, rfl⟩
  have hyb : 0 ≤ y ∧ y ≤ 65535 := by rw [← hy]; exact u16_bounds _
  obtain ⟨y0, y1⟩ := hyb
  have hr0 : 0 ≤ y % (s.2 - s.1 + 1) := Int.emod_nonneg _ (by omega)
  have hr1 : y % (s.2 - s.1 + 1) < s.2 - s.1 + 1 := Int.emod_lt_of_pos _ (by omega)
  have hm1 : 1 ≤ s.2 - s.1 + 1 := by omega
  have htm : y.tmod (s.2 - s.1 + 1) = y % (s.2 - s.1 + 1) := Int.tmod_eq_emod_of_nonneg y0
  go_enter Try.func39, Try.ntmps39
  go_wp2
  have HM : Hold (Mod (fun b => b = db) w ((w.setCell ⟨db, 1, none⟩ (.int .i64 ((k : Int) + 1))).alloc (.cells #[.int .i64 s.1, .int .i64 s.2] 23))) := ⟨((Mod.refl (fun b => b = db) w).setCell (p := ⟨db, 1, none⟩) (fun _ => rfl) _).alloc _⟩
  have hs2 : (w.setCell ⟨db, 1, none⟩ (.int .i64 ((k : Int) + 1))).heap[db]? = some (.cells #[.slice (some ⟨b, off, none⟩) n c, .int .i64 ((k : Int) + 1)] 60) := set_same hd rfl
  have hsz : (w.setCell ⟨db, 1, none⟩ (.int .i64 ((k : Int) + 1))).heap.size = w.heap.size := World.size_setCell _ _ _
  have e1 : ((w.setCell ⟨db, 1, none⟩ (.int .i64 ((k : Int) + 1))).alloc (.cells #[.int .i64 s.1, .int .i64 s.2] 23)).heap[db]? = some (.cells #[.slice (some ⟨b, off, none⟩) n c, .int .i64 ((k : Int) + 1)] 60) := ((Mod.refl noB _).alloc _).at hs2 id
  have e2 : ((w.setCell ⟨db, 1, none⟩ (.int .i64 ((k : Int) + 1))).alloc (.cells #[.int .i64 s.1, .int .i64 s.2] 23)).heap[w.heap.size]? = some (.cells #[.int .i64 s.1, .int .i64 s.2] 23) := by rw [← hsz]; exact World.alloc_heap_new _ _
  have e3 : ((w.setCell ⟨db, 1, none⟩ (.int .i64 ((k : Int) + 1))).alloc (.cells #[.int .i64 s.1, .int .i64 s.2] 23)).cell? ⟨b, off + q, none⟩ = some (.int .u16 x) := (cell_same (HM.out.block b hlb (fun h => hne h)) _).trans hcx'
  clear hs2 hsz hcx' d0 d1 f1
  have HD2 := Hold.mk e1
  generalize (w.setCell ⟨db, 1, none⟩ (.int .i64 ((k : Int) + 1))).alloc (.cells #[.int .i64 s.1, .int .i64 s.2] 23) = W1 at *
  have d0 := cellsAt e1 0
  have d1 := cellsAt e1 1
  have z0 := cellsAt e2 0
  have z1 := cellsAt e2 1
  have hl1 := (Array.getElem?_eq_some_iff.1 e1).1
  have hl2 := (Array.getElem?_eq_some_iff.1 e2).1
  clear e1 e2
  go_region
  go_wp2_with fail
  go_ret
  exact ⟨_, by omega, by omega, rfl, HM.out.drew, HD2.out⟩
end Go.Proofs.Ytnjbamikfjdofaa

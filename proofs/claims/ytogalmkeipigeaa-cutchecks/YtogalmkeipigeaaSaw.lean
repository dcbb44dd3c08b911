/- Saw: the lines of a saw. -/
import Derived.Test.YtogalmkeipigeaaSawE
import Derived.Test.YtogalmkeipigeaaOpened
set_option linter.unusedSimpArgs false
set_option linter.unusedVariables false
namespace Go.Proofs.Ytogalmkeipigeaa
open Go.RowKit

/-- What Saw returns. -/
noncomputable def sawR (W H : Int) (zs : List Int) : List LineT × Int :=
  if (checkR W H zs).2 ≠ 0 then ([], (checkR W H zs).2)
  else match sawL (laidG W.toNat zs zs.length) (W.toNat * H.toNat) 0 0 W.toNat H.toNat with
    | none => ([], 11)
    | some L => (L, 0)

/-- A list of lines that a call returns, with an error. -/
def SawsOut (e : Ending) (w w' : World) (r : List LineT × Int) : Prop :=
  ∃ v, e = .returned (.tuple #[v, .int .i64 r.2]) ∧ w'.ownsRow w.heap.size 61 4 v r.1.length (lineCells r.1) ∧ Mod noB w w'

theorem own_none (w : World) (base e size : Nat) : w.ownsRow base e size (.slice none 0 0) 0 [] := ⟨by simp, .inl ⟨rfl, rfl⟩⟩

set_option maxRecDepth 100000 in
set_option maxHeartbeats 2000000 in
theorem saw_no (W H : Int) (ao : Option Addr) (zs : List Int) (cap : Nat) (w : World) (hs : IntsAt w ao zs) (h : (checkR W H zs).2 ≠ 0) :
    Calls Try.prog 24 #[cutV W H ao zs.length cap] w fun e w' => SawsOut e w w' (sawR W H zs) := by
  have hR : sawR W H zs = ([], (checkR W H zs).2) := by unfold sawR; rw [if_pos h]
  rw [hR]
  have HO := Hold.mk (open_no W H ao zs cap _ (hs.alloc (.cells #[.int .i64 W, .int .i64 H, .slice ao zs.length cap] 24)) h)
  clear hR
  generalize (checkR W H zs).2 = e at *
  have he : (e != 0) = true := by simpa using h
  have HM0 := Hold.mk ((Mod.refl noB w).alloc (.cells #[.int .i64 W, .int .i64 H, .slice ao zs.length cap] 24))
  clear hs h
  go_enter Try.func24, Try.ntmps24
  go_wp2_with (go_at_call 46; refine HO.out.mono ?_; rintro e w1 ⟨rfl, hM1⟩; have HM1 := Hold.mk hM1; clear hM1)
  go_ret2
  exact ⟨_, rfl, own_none _ _ _ _, (HM0.out.trans HM1.out).alloc _⟩

set_option maxRecDepth 100000 in
set_option maxHeartbeats 2000000 in
theorem saw_yes {W H : Nat} {zs : List Int} (C : CutN W H zs) (ao : Option Addr) (cap : Nat) (w : World) (hs : IntsAt w ao zs) (h : (checkR W H zs).2 = 0) :
    Calls Try.prog 24 #[cutV W H ao zs.length cap] w fun e w' => SawsOut e w w' (sawR W H zs) := by
  have hR : sawR W H zs = match sawL (laidG W zs zs.length) (W * H) 0 0 W H with | none => ([], 11) | some L => (L, 0) := by
    unfold sawR; rw [if_neg (fun h' => h' h)]; rfl
  rw [hR]
  clear hR
  have HO := Hold.mk (open_yes C ao cap _ (hs.alloc (.cells #[.int .i64 W, .int .i64 H, .slice ao zs.length cap] 24)) h)
  have hbc := World.alloc_heap_new w (.cells #[.int .i64 W, .int .i64 H, .slice ao zs.length cap] 24)
  have HB : Hold (∀ w1 : World, Mod noB (w.alloc (.cells #[.int .i64 W, .int .i64 H, .slice ao zs.length cap] 24)) w1 → w1.cell? ⟨w.heap.size, 0, none⟩ = some (.int .i64 W) ∧ w1.cell? ⟨w.heap.size, 1, none⟩ = some (.int .i64 H)) := ⟨fun w1 h => by
    have e1 := h.at hbc id
    refine ⟨?_, ?_⟩ <;> simp [World.cell?, e1]⟩
  have HM0 := Hold.mk ((Mod.refl noB w).alloc (.cells #[.int .i64 W, .int .i64 H, .slice ao zs.length cap] 24))
  have HG := Hold.mk C.grid
  have hW1 := C.w1
  have hH1 := C.h1
  have har : W * H ≤ 144 := Nat.mul_le_mul C.w2 C.h2
  obtain ⟨g, hg⟩ : ∃ g, laidG W zs zs.length = g := ⟨_, rfl⟩
  obtain ⟨N, hN⟩ : ∃ N, many zs = N := ⟨_, rfl⟩
  rw [hN] at HO
  rw [hg] at HG HO ⊢
  have HS := Hold.mk (fun (w1 : World) (mb : Nat) (hm : MapIs Try.prog 106 cellV w1 mb g) => saw_any g W H HG.out N mb (W * H) 0 0 W H (by omega) (Nat.le_refl _) (by omega) (Nat.le_refl _) (by simp) w1.heap.size w1 (.slice none 0 0) [] (Nat.le_refl _) (own_none _ _ _ _) (by simp; omega) hm)
  clear hs h hN C hg hbc
  cases hsw : sawL g (W * H) 0 0 W H with
  | none =>
    rw [hsw] at HS
    simp only
    clear hsw
    go_enter Try.func24, Try.ntmps24
    go_wp2_with (first
      | (go_at_call 46; refine HO.out.mono ?_; rintro e w1 ⟨mb, rfl, hM1, hmp⟩; obtain ⟨c0, c1⟩ := HB.out _ hM1; have hz : w.heap.size < w1.heap.size := (by have := hM1.size; simp at this; omega); have HM1 := Hold.mk (And.intro hM1 hmp); clear hM1 hmp)
      | (go_at_call 56; refine (HS.out _ mb (HM1.out.2.alloc _)).mono ?_; rintro e w2 ⟨rfl, hR2⟩; have HM2 := Hold.mk (R61.none hR2); clear hR2))
    go_ret2
    exact ⟨_, rfl, own_none _ _ _ _, ((HM0.out.trans HM1.out.1).alloc _).trans HM2.out⟩
  | some L =>
    rw [hsw] at HS
    simp only
    clear hsw
    go_enter Try.func24, Try.ntmps24
    go_wp2_with (first
      | (go_at_call 46; refine HO.out.mono ?_; rintro e w1 ⟨mb, rfl, hM1, hmp⟩; obtain ⟨c0, c1⟩ := HB.out _ hM1; have hz : w.heap.size < w1.heap.size := (by have := hM1.size; simp at this; omega); have HM1 := Hold.mk (And.intro hM1 hmp); clear hM1 hmp)
      | (go_at_call 56; refine (HS.out _ mb (HM1.out.2.alloc _)).mono ?_; rintro e w2 ⟨v, rfl, hown, hR2⟩; have HM2 := Hold.mk (And.intro hown (R61.none hR2)); clear hown hR2))
    go_ret2
    have hz := (HM0.out.trans HM1.out.1).size
    refine ⟨_, rfl, own_mono HM2.out.1 (by simp; omega), ((HM0.out.trans HM1.out.1).alloc _).trans HM2.out.2⟩
end Go.Proofs.Ytogalmkeipigeaa

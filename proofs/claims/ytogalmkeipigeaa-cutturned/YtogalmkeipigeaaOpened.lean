/- open, told by what Check returns; the program's Join. -/
import Derived.Test.YtogalmkeipigeaaOpen
import Derived.Test.YtogalmkeipigeaaJoined
import Derived.Test.YtogalmkeipigeaaRefE
set_option linter.unusedSimpArgs false
set_option linter.unusedVariables false
namespace Go.Proofs.Ytogalmkeipigeaa
open Go.RowKit

theorem countR_ok {f : Nat → Int} {N : Nat} (h : (countR f N).2 = 0) : countR f N = ((N : Int), 0) := by
  unfold countR at h ⊢
  split at h
  · cases h
  · split at h
    · cases h
    · rename_i h1 h2; rw [if_neg h1, if_neg h2]
theorem checkR_ok {W H : Int} {zs : List Int} (h : (checkR W H zs).2 = 0) : isCutB W H zs = true ∧ checkR W H zs = ((many zs : Int), 0) := by
  unfold checkR at h ⊢
  split at h
  · rename_i hb; exact ⟨hb, by rw [if_pos hb]; exact countR_ok h⟩
  · cases h

theorem open_no (W H : Int) (ao : Option Addr) (zs : List Int) (cap : Nat) (w : World) (hs : IntsAt w ao zs) (h : (checkR W H zs).2 ≠ 0) :
    Calls Try.prog 46 #[cutV W H ao zs.length cap] w fun e w' => e = .returned (.tuple #[zeroPic, .int .i64 (checkR W H zs).2]) ∧ Mod noB w w' := by
  cases hb : isCutB W H zs with
  | false => rw [checkR_bad hb]; exact open_bad W H ao zs cap w hs hb
  | true =>
    obtain ⟨W, H, rfl, rfl, C⟩ := isCutB_true hb
    rw [checkR_good hb] at h ⊢
    refine (open_good C ao cap w hs hb).mono ?_
    rintro e w' ⟨f, hf, hM, h1⟩
    rw [countR_part C.grid hf C.many_le.2] at h1
    rcases h1 with ⟨_, rfl⟩ | ⟨h0, _⟩
    · exact ⟨rfl, hM⟩
    · exact absurd h0 h

theorem open_yes {W H : Nat} {zs : List Int} (C : CutN W H zs) (ao : Option Addr) (cap : Nat) (w : World) (hs : IntsAt w ao zs) (h : (checkR W H zs).2 = 0) :
    Calls Try.prog 46 #[cutV W H ao zs.length cap] w fun e w' => ∃ mb, e = .returned (.tuple #[picV W H (many zs) mb, .int .i64 0]) ∧ Mod noB w w' ∧ MapIs Try.prog 106 cellV w' mb (laidG W zs zs.length) := by
  have hb := (checkR_ok h).1
  rw [checkR_good hb] at h
  refine (open_good C ao cap w hs hb).mono ?_
  rintro e w' ⟨f, hf, hM, h1⟩
  rw [countR_part C.grid hf C.many_le.2] at h1
  rcases h1 with ⟨h0, _⟩ | ⟨_, mb, rfl, hmp⟩
  · exact absurd h h0
  · exact ⟨mb, rfl, hM, hmp⟩

/-! ### Edges of pieces, told by what a piece faces -/
theorem edgesTo_faced (g : Int × Int → Option Int) (W H : Nat) (a b : Int) (hab : b ≠ a) : edgesTo g W a b (H * W) = (facedL g W H a).count b := by
  unfold edgesTo facedL
  rw [List.count_flatMap]
  have e : cellsL 0 0 W H = (List.range (H * W)).map (cellOf W) := by
    simp only [cellsL, Nat.sub_zero, Nat.zero_add]
    rfl
  rw [e, List.map_map]
  congr 1
  refine List.map_congr_left (fun m _ => ?_)
  simp only [Function.comp_apply]
  unfold eAt facedAt
  split
  · rw [List.count_filter (by simpa using hab)]
  · rfl
end Go.Proofs.Ytogalmkeipigeaa

/- Sides: what a piece has in common with others. -/
import Derived.Test.YtogalmkeipigeaaOpened
import Derived.Test.YtogalmkeipigeaaApart
import Derived.Test.YtogalmkeipigeaaTally
set_option linter.unusedSimpArgs false
set_option linter.unusedVariables false
namespace Go.Proofs.Ytogalmkeipigeaa
open Go.RowKit

theorem faced_len (g : Int × Int → Option Int) (W H : Nat) (n : Int) (hW : W ≤ 12) (hH : H ≤ 12) : (facedL g W H n).length ≤ 1000000 := by
  have h1 : ∀ p, (facedAt g n p).length ≤ 4 := fun p => by
    unfold facedAt
    split
    · exact Nat.le_trans (List.length_filter_le _ _) (by simp [besideL])
    · simp
  have h2 : ∀ L : List (Int × Int), (L.flatMap (facedAt g n)).length ≤ 4 * L.length := by
    intro L
    induction L with
    | nil => simp
    | cons p L ih => have := h1 p; simp only [List.flatMap_cons, List.length_append, List.length_cons]; omega
  have h3 : (cellsL 0 0 W H).length ≤ 144 := by
    simp only [cellsL, List.length_map, List.length_range]
    exact Nat.le_trans (Nat.mul_le_mul (Nat.le_trans (Nat.sub_le H 0) hH) (Nat.le_trans (Nat.sub_le W 0) hW)) (by decide : 12 * 12 ≤ 144)
  have := h2 (cellsL 0 0 W H)
  unfold facedL
  omega

/-- What comes of the first k others, from the border on. -/
def sidesTo (F : List Int) : Nat → List (Int × Int)
  | 0 => []
  | k + 1 => sidesTo F k ++ (if 0 < F.count ((k : Int) - 1) then [((k : Int) - 1, (F.count ((k : Int) - 1) : Int))] else [])
def sideCells (L : List (Int × Int)) : List Value := L.flatMap fun p => [.int .i64 p.1, .int .i64 p.2]
theorem sidesTo_yes {F : List Int} {k : Nat} {o n : Int} (ho : o = (k : Int) - 1) (hn : n = (F.count o : Nat)) (h : 0 < n) : sidesTo F (k + 1) = sidesTo F k ++ [(o, n)] := by
  subst ho hn; simp only [sidesTo]; rw [if_pos (by omega)]
theorem sidesTo_no {F : List Int} {k : Nat} {o n : Int} (ho : o = (k : Int) - 1) (hn : n = (F.count o : Nat)) (h : ¬ 0 < n) : sidesTo F (k + 1) = sidesTo F k := by
  subst ho hn; simp only [sidesTo]; rw [if_neg (by omega), List.append_nil]
theorem sidesTo_len (F : List Int) (k : Nat) : (sidesTo F k).length ≤ k := by
  induction k with
  | zero => simp [sidesTo]
  | succ k ih => simp only [sidesTo, List.length_append]; split <;> simp <;> omega
theorem sideCells_snoc (L : List (Int × Int)) (a b : Int) : sideCells (L ++ [(a, b)]) = sideCells L ++ [.int .i64 a, .int .i64 b] := by simp [sideCells]
theorem sideCells_len (L : List (Int × Int)) : (sideCells L).length = L.length * 2 := by
  unfold sideCells
  induction L with
  | nil => rfl
  | cons p L ih => simp only [List.flatMap_cons, List.length_append, List.length_cons, List.length_nil]; omega

theorem tallyFaced (g : Int × Int → Option Int) (W H : Nat) (G : Grid g W H) (N p : Int) (mb : Nat) (w : World) (hm : MapIs Try.prog 106 cellV w mb g) :
    Calls Try.prog 48 #[.func (.func 69) #[] #[.pointer (some ⟨w.heap.size, 0, none⟩), .pointer (some ⟨w.heap.size + 1, 0, none⟩)]] ((w.alloc (.cells #[.int .i64 W, .int .i64 H, .int .i64 N, .map (some mb)] 71)).alloc (.cells #[.int .i64 p] 3)) fun e w' =>
      ∃ mb2, e = .returned (.map (some mb2)) ∧ Mod noB w w' ∧ MapIs Try.prog 3 intV w' mb2 (tal (facedL g W H p)) := by
  rw [allocL2]
  have hM := allocL_mod noB [.cells #[.int .i64 W, .int .i64 H, .int .i64 N, .map (some mb)] 71, .cells #[.int .i64 p] 3] w
  have hz := allocL_size [.cells #[.int .i64 W, .int .i64 H, .int .i64 N, .map (some mb)] 71, .cells #[.int .i64 p] 3] w
  have b0 := allocL_at [.cells #[.int .i64 W, .int .i64 H, .int .i64 N, .map (some mb)] 71, .cells #[.int .i64 p] 3] w 0 _ rfl
  have b1 := allocL_at [.cells #[.int .i64 W, .int .i64 H, .int .i64 N, .map (some mb)] 71, .cells #[.int .i64 p] 3] w 1 _ rfl
  generalize allocL w [.cells #[.int .i64 W, .int .i64 H, .int .i64 N, .map (some mb)] 71, .cells #[.int .i64 p] 3] = W1 at *
  have hm1 := hm.same (hM.block mb hm.lt id)
  have hlt := hm.lt
  simp only [List.length_cons, List.length_nil] at hz
  refine (tallyInt_any 69 _ _ _ W1 (faced1_runs w.heap.size (w.heap.size + 1) mb W H N p g W1 b0 b1 hm1 G.w2 G.h2) ?_ enter69 ?_ (faced_len g W H p G.w2 G.h2)).mono ?_
  · rintro k (rfl | rfl | rfl) <;> omega
  · intro x hx
    have := faced_le G hx
    exact key3 (wf64_of (by omega) (by omega))
  · rintro e w' ⟨mb2, rfl, h1, _, h2⟩
    exact ⟨mb2, rfl, hM.trans h1, h2⟩

/-- A slice that a call made lies behind its base. -/
theorem own_ge {w : World} {base : Nat} {e : TypeId} {size : Nat} {v : Value} {n : Nat} {xs : List Value} (h : w.ownsRow base e size v n xs) {r : Nat} (hr : v.ownBlock = some r) : base ≤ r := by
  obtain ⟨_, ⟨rfl, _⟩ | ⟨g, cap, cur, rfl, hb, _⟩⟩ := h
  · cases hr
  · have : some g = some r := hr
    cases this
    exact hb
theorem own_mono {w : World} {base base' : Nat} {e : TypeId} {size : Nat} {v : Value} {n : Nat} {xs : List Value} (h : w.ownsRow base e size v n xs) (hb : base' ≤ base) : w.ownsRow base' e size v n xs := by
  obtain ⟨h1, h2 | ⟨g, cap, cur, hv, hg, h3⟩⟩ := h
  · exact ⟨h1, .inl h2⟩
  · exact ⟨h1, .inr ⟨g, cap, cur, hv, Nat.le_trans hb hg, h3⟩⟩
theorem info54 : (Try.prog.info? 54).map (fun i => (i.zero, i.size, i.bytes)) = some (some (.agg #[.int .i64 0, .int .i64 0]), 2, 16) := by kernel_rfl

/-- What Sides returns. -/
def sidesR (W H : Nat) (zs : List Int) (p : Int) : List (Int × Int) := sidesTo (facedL (laidG W zs zs.length) W H p) (many zs + 1)

set_option maxRecDepth 100000 in
set_option maxHeartbeats 1000000 in
theorem sides_no (W H : Int) (ao : Option Addr) (zs : List Int) (cap : Nat) (p : Int) (w : World) (hs : IntsAt w ao zs) (h : (checkR W H zs).2 ≠ 0) :
    Calls Try.prog 16 #[cutV W H ao zs.length cap, .int .i64 p] w fun e w' => e = .returned (.tuple #[.slice none 0 0, .int .i64 (checkR W H zs).2]) ∧ Mod noB w w' := by
  have HO := Hold.mk (open_no W H ao zs cap _ (hs.alloc (.cells #[.int .i64 W, .int .i64 H, .slice ao zs.length cap] 24)) h)
  generalize (checkR W H zs).2 = e at *
  have he : (e != 0) = true := by simpa using h
  have HM0 := Hold.mk ((Mod.refl noB w).alloc (.cells #[.int .i64 W, .int .i64 H, .slice ao zs.length cap] 24))
  clear hs h
  go_enter Try.func16, Try.ntmps16
  go_wp2_with (go_at_call 46; refine HO.out.mono ?_; rintro e w1 ⟨rfl, hM1⟩; have HM1 := Hold.mk hM1; clear hM1)
  go_ret2
  exact ⟨rfl, (HM0.out.trans HM1.out).alloc _⟩

set_option maxRecDepth 100000 in
set_option maxHeartbeats 2000000 in
theorem sides_yes {W H : Nat} {zs : List Int} (C : CutN W H zs) (ao : Option Addr) (cap : Nat) (p : Int) (w : World) (hs : IntsAt w ao zs) (h : (checkR W H zs).2 = 0) (hp1 : 0 ≤ p) (hp2 : p < many zs) :
    Calls Try.prog 16 #[cutV W H ao zs.length cap, .int .i64 p] w fun e w' => ∃ v, e = .returned (.tuple #[v, .int .i64 0]) ∧ w'.ownsRow w.heap.size 54 2 v (sidesR W H zs p).length (sideCells (sidesR W H zs p)) ∧ Mod noB w w' := by
  have HO := Hold.mk (open_yes C ao cap _ (hs.alloc (.cells #[.int .i64 W, .int .i64 H, .slice ao zs.length cap] 24)) h)
  have HM0 := Hold.mk ((Mod.refl noB w).alloc (.cells #[.int .i64 W, .int .i64 H, .slice ao zs.length cap] 24))
  have hN1 := C.many_le.1
  have hN2 := C.many_le.2
  have HC := Hold.mk C
  have HG := Hold.mk C.grid
  obtain ⟨g, hg⟩ : ∃ g, laidG W zs zs.length = g := ⟨_, rfl⟩
  obtain ⟨F, hF⟩ : ∃ F, facedL (laidG W zs zs.length) W H p = F := ⟨_, rfl⟩
  have hR : sidesR W H zs p = sidesTo F (many zs + 1) := by unfold sidesR; rw [hF]
  rw [hg] at HG HO hF
  have HF := Hold.mk hF
  rw [hR]
  obtain ⟨N, hN⟩ : ∃ N, many zs = N := ⟨_, rfl⟩
  rw [hN] at HO hN1 hN2 hp2 ⊢
  have HN := Hold.mk hN
  obtain ⟨i0, hi, hz0, hz1, hz2⟩ := info_parts info54
  clear hs h hR hN hF C hg
  have hNi : (N : Int) ≤ 40 := by omega
  go_enter Try.func16, Try.ntmps16
  go_wp2_with (first
    | (go_at_call 46; refine HO.out.mono ?_; rintro e w1 ⟨mb, rfl, hM1, hmp⟩; have HM1 := Hold.mk (And.intro hM1 hmp); clear hM1 hmp)
    | (go_at_call 47; refine (has_any W H N mb p _).mono ?_; rintro e w2 ⟨rfl, hb2⟩
       have hM2 := Mod.of_below hb2 rfl
       have hpp := hM2.at (World.alloc_heap_new w1 (.cells #[.int .i64 W, .int .i64 H, .int .i64 N, .map (some mb)] 71)) id
       have p0 : w2.cell? ⟨w1.heap.size, 0, none⟩ = some (.int .i64 W) := (by simp [World.cell?, hpp])
       have p1 : w2.cell? ⟨w1.heap.size, 1, none⟩ = some (.int .i64 H) := (by simp [World.cell?, hpp])
       have p2 : w2.cell? ⟨w1.heap.size, 2, none⟩ = some (.int .i64 N) := (by simp [World.cell?, hpp])
       have p3 : w2.cell? ⟨w1.heap.size, 3, none⟩ = some (.map (some mb)) := (by simp [World.cell?, hpp])
       have HM2 := Hold.mk (And.intro hM2 hpp)
       clear hb2 hM2 hpp)
    | (go_at_call 49; refine (faced_any _ _ _ _ _ _).mono ?_; rintro e w3 ⟨rfl, rfl⟩
       have HT := Hold.mk (tallyFaced g W H HG.out N p mb w2 (HM1.out.2.same (((Mod.refl noB w1).alloc _ |>.trans HM2.out.1).block mb HM1.out.2.lt id))))
    | (go_at_call 48; refine HT.out.mono ?_; rintro e w3 ⟨mb2, rfl, hM3, hmp3⟩
       have HM3 := Hold.mk (And.intro hM3 hmp3)
       clear hM3 hmp3))
  have hpp3 := HM3.out.1.at HM2.out.2 id
  have p2' : w3.cell? ⟨w1.heap.size, 2, none⟩ = some (.int .i64 N) := by simp [World.cell?, hpp3]
  have HP3 := Hold.mk hpp3
  clear p0 p1 p2 p3 hpp3
  have HML := Hold.mk (show Mod noB w w3 from HM0.out.trans (HM1.out.1.trans (((Mod.refl noB w1).alloc _).trans (HM2.out.1.trans HM3.out.1))))
  go_loopw [9, 10, 11] (fun v i n wr => ∃ k : Nat, k ≤ N + 1 ∧ i = .int .i64 ((k : Int) - 1) ∧ wr.ownsRow w3.heap.size 54 2 v (sidesTo F k).length (sideCells (sidesTo F k)) ∧ Mod noB w3 wr) (fun _ i _ _ => N + 1 - (intOf i + 1).toNat)
  case atStart => exact ⟨0, Nat.zero_le _, rfl, World.ownsRow_nil _ _ _ _, Mod.refl _ _⟩
  case round =>
    obtain ⟨k, hk, rfl, hown, hmr⟩ := hrel
    obtain ⟨o, ho⟩ : ∃ o : Int, o = (k : Int) - 1 := ⟨_, rfl⟩
    rw [← ho]
    have HK := Hold.mk (And.intro ho hk)
    have ho1 : -1 ≤ o := by omega
    have ho2 : o ≤ N := by omega
    have p2r : wr.cell? ⟨w1.heap.size, 2, none⟩ = some (.int .i64 N) := by simp [World.cell?, hmr.at HP3.out id]
    have HMR := Hold.mk hmr
    obtain ⟨kl, hkl⟩ := key3 (n := o) (wf64_of (by omega) (by omega))
    have hlk := (HM3.out.2.same (hmr.block mb2 HM3.out.2.lt id)).look1 law3 hkl Try.underlying78 (zero3 _)
    rw [HF.out, tal_getD] at hlk
    obtain ⟨n, hn⟩ : ∃ n : Int, n = ((F.count o : Nat) : Int) := ⟨_, rfl⟩
    rw [← hn] at hlk
    dsimp only [intV] at hlk
    have HNn := Hold.mk hn
    have hcl : (sidesTo F k).length ≤ 41 := by have := sidesTo_len F k; omega
    have HOW := Hold.mk hown
    clear ho hk hmr hkl hn hown p2'
    by_cases c1 : o < N
    · by_cases c2 : 0 < n
      · have hnw := World.alloc_heap_new wr (.cells #[.int .i64 o, .int .i64 n] 54)
        have HNW := Hold.mk (fun j u (hj : [Value.int .i64 o, .int .i64 n][j]? = some u) => (show (wr.alloc (.cells #[.int .i64 o, .int .i64 n] 54)).cell? (Addr.add ⟨wr.heap.size, 0, none⟩ j) = some u from by
          have ea : Addr.add ⟨wr.heap.size, 0, none⟩ j = ⟨wr.heap.size, j, none⟩ := by simp [Addr.add]; omega
          rw [ea]
          simp only [World.cell?, hnw]
          rcases j with _ | _ | j
          · simpa using hj
          · simpa using hj
          · simp at hj))
        clear hnw
        go_wp2_with (at_builtin; go_loud (refine wpList_append_own _ rfl (.tmp 39) (.tmp 43) 30 rfl w3.heap.size 54 i0 (.agg #[.int .i64 0, .int .i64 0]) 2 16 Try.underlying30 hi hz0 hz1 hz2 rfl (by decide) _ _ _ rfl (HOW.out.alloc _) ⟨wr.heap.size, 0, none⟩ 1 1 [.int .i64 o, .int .i64 n] rfl rfl HNW.out (by simp [Value.oneCell']) (by unfold maxLen; omega) (by omega) (by have := HMR.out.size; simp; omega) ?_); intro v' wa hown' hgr _; have HW := Hold.mk (And.intro hown' hgr); clear hown' hgr)
        go_roundw
        case rel =>
          obtain ⟨hown', hgr⟩ := HW.out
          refine ⟨k + 1, by have := HK.out; omega, by rw [show o + 1 = ((k + 1 : Nat) : Int) - 1 by have := HK.out.1; omega], ?_, ?_⟩
          · rw [sidesTo_yes HK.out.1 HNn.out c2, sideCells_snoc, List.length_append]; exact hown'
          · exact HMR.out.then (((Mod.refl (fun b => w3.heap.size ≤ b) wr).alloc _).trans (Mod.of_grownBy hgr (fun r hr _ => own_ge HOW.out hr))) (fun i h1 h2 => absurd h1 (Nat.not_lt.2 h2))
        case measure => simp [intOf]; omega
      · go_wp2
        go_roundw
        case rel => exact ⟨k + 1, by have := HK.out; omega, by rw [show o + 1 = ((k + 1 : Nat) : Int) - 1 by have := HK.out.1; omega], by rw [sidesTo_no HK.out.1 HNn.out c2]; exact HOW.out, HMR.out⟩
        case measure => simp [intOf]; omega
    · go_wp2
      go_ret2
      obtain rfl : k = N + 1 := by have := HK.out; omega
      exact ⟨_, rfl, own_mono HOW.out HML.out.size, HML.out.trans HMR.out⟩
end Go.Proofs.Ytogalmkeipigeaa

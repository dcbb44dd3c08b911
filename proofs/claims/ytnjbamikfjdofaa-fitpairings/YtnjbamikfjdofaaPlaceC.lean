/- place: a pairing that goes on. -/
import Derived.Test.YtnjbamikfjdofaaPlaceB
set_option linter.unusedSimpArgs false
set_option linter.unusedVariables false
namespace Go.Proofs.Ytnjbamikfjdofaa
open Go.RowKit Go.Shelf
attribute [local go_sem] Oper.semAt_some

/-- Between two rounds of place. -/
def LInv (b : PBlocks) (n : Nat) (goes : List (List Int)) (KC : Nat → Prop) (J : List Held → World → Prop) (done : List Held) (PL : List (List Int)) (pre : List Int) (W : World) (wr : World) : Prop :=
  ∃ vs v, vs.map Prod.fst = PL ∧ PS b n goes KC pre v wr ∧ DoneOK b (done ++ vs) v wr ∧ J (done ++ vs) wr ∧ W.heap.size ≤ wr.heap.size

theorem row_form {w : World} {base e size n : Nat} {v : Value} {xs : List Value} (h : w.ownsRow base e size v n xs) : ∃ ao cap, v = .slice ao n cap := by
  obtain ⟨_, ⟨rfl, rfl⟩ | ⟨g, cap, cur, rfl, _⟩⟩ := h
  · exact ⟨none, 0, rfl⟩
  · exact ⟨_, cap, rfl⟩

theorem own_some {B : Nat} {W : World} {pre : List Int} {h : Int} {v : Value} (hO : OwnV B W (pre ++ [h], v)) : ∃ g cap, v = .slice (some ⟨g, 0, none⟩) (pre.length + 1) cap ∧ pre.length + 1 ≤ cap ∧ cap ≤ maxLen := by
  obtain ⟨hl, ⟨hv, hx⟩ | ⟨g, cap, cur, hv, hb, hg, h1, h2, _⟩⟩ := hO
  · simp at hx
  · simp only [List.length_append, List.length_cons, List.length_nil] at hv h1
    exact ⟨g, cap, by simpa using hv, by omega, h2⟩
theorem pairsTo_pre {goes : List (List Int)} {m : Nat} {pre : List Int} {GL : List Int} (hGL : goes[pre.length]? = some GL) (j : Nat) : ∃ r, pairsL goes (m + 1) pre = pairsTo goes m pre j ++ r := by
  unfold pairsTo
  rw [pairsL, hGL, Option.getD_some]
  refine ⟨(GL.drop j).flatMap fun h => if h ∈ pre then [] else pairsL goes m (pre ++ [h]), ?_⟩
  rw [← List.flatMap_append, List.take_append_drop]

theorem step_in {b : PBlocks} {n : Nat} {goes : List (List Int)} {KC : Nat → Prop} (G : PGood b n goes KC) {J : List Held → World → Prop} {B0 : Nat} (hB0 : B0 ≤ b.bl ∧ B0 ≤ b.mb ∧ B0 ≤ b.B) (hJ : StableV B0 J)
    {pre : List Int} {h : Int} {v1 v2 : Value} {d : List Held} {wr wb : World} {ob o2 : Obj} (hS : PS b n goes KC pre v1 wr) (hD : DoneOK b d v1 wr) (hj : J d wr) (ht : TakenIs (wr.putObj b.mb ob) b.mb (pre ++ [h]))
    (hown : wb.ownsRow b.B 3 1 v2 (pre.length + 1) (pre.map (Value.int .i64) ++ [.int .i64 h])) (hgr : ((wr.putObj b.mb ob).alloc o2).grownBy wb v1.ownBlock) (hat : v2.ownBlock = v1.ownBlock ∨ v2.ownBlock = some ((wr.putObj b.mb ob).alloc o2).heap.size) :
    PS b n goes KC (pre ++ [h]) v2 (wb.setCell ⟨b.bl, 0, none⟩ v2) ∧ DoneOK b d v2 (wb.setCell ⟨b.bl, 0, none⟩ v2) ∧ J d (wb.setCell ⟨b.bl, 0, none⟩ v2) ∧ wr.heap.size ≤ (wb.setCell ⟨b.bl, 0, none⟩ v2).heap.size := by
  have g1 := G.bl; have g2 := G.mb; have g3 := G.ne
  have hv1 : ∀ r, v1.ownBlock = some r → b.B ≤ r := fun r hr => (hS.own.cells hr).1
  have m1 : Mod (fun k => k = b.mb) wr (wr.putObj b.mb ob) := (Mod.refl (fun k => k = b.mb) wr).putObj (fun _ => rfl) ob
  have m2 : Mod (fun k => k = b.mb) wr ((wr.putObj b.mb ob).alloc o2) := m1.alloc _
  have m3 : Mod (fun k => v1.ownBlock = some k) ((wr.putObj b.mb ob).alloc o2) wb := Mod.of_grownBy hgr (fun r hr _ => hr)
  have m4 : Mod (fun k => k = b.bl) wb (wb.setCell ⟨b.bl, 0, none⟩ v2) := (Mod.refl (fun k => k = b.bl) wb).setCell (p := ⟨b.bl, 0, none⟩) (fun _ => rfl) _
  have m23 : Mod (fun k => k = b.mb ∨ v1.ownBlock = some k) wr wb := (m2.wider (fun _ _ h => .inl h)).then m3 (fun _ _ h => .inr h)
  have m : Mod (fun k => (k = b.mb ∨ v1.ownBlock = some k) ∨ k = b.bl) wr (wb.setCell ⟨b.bl, 0, none⟩ v2) := (m23.wider (fun _ _ h => .inl h)).then m4 (fun _ _ h => .inr h)
  have nbl : ¬ (b.bl = b.mb ∨ v1.ownBlock = some b.bl) := by
    rintro (hh | hh)
    · omega
    · have := hv1 _ hh
      omega
  have hbl : wb.heap[b.bl]? = some (.cells #[v1] 43) := m23.at hS.l nbl
  have hv2 : ∀ r, v2.ownBlock = some r → b.B ≤ r := fun r hr => own_ge hown hr
  have hsz := m.size
  have hs2 : ((wr.putObj b.mb ob).alloc o2).heap.size = wr.heap.size + 1 := by simp
  refine ⟨⟨?_, ?_, ?_, ?_, Nat.le_trans hS.sz hsz⟩, ?_, ?_, hsz⟩
  · rw [setCell_at hbl 0]; rfl
  · have h0 : OwnV b.B wb (pre ++ [h], v2) := by unfold OwnV; simp only [List.length_append, List.length_cons, List.length_nil, List.map_append, List.map_cons, List.map_nil]; exact hown
    exact h0.same (fun r hr => m4.block r (h0.cells hr).2.1 (by have := hv2 r hr; omega))
  · have e1 : wb.heap[b.mb]? = (wr.putObj b.mb ob).heap[b.mb]? := by
      rw [m3.block b.mb (by have := ht.lt; simp at this ⊢; omega) (fun h => by have := hv1 _ h; omega)]
      exact Below.heap_alloc _ _ _ ht.lt
    exact ht.same ((m4.block b.mb (by have h1 := ht.lt; have h2 := hgr.size; rw [World.size_alloc] at h2; omega) (by omega)).trans e1)
  · exact G.keep _ _ hS.pc (fun k hk => m.block k (Nat.lt_of_lt_of_le (G.kb k hk) hS.sz) (by
      rintro ((h | h) | h)
      · exact G.km (h ▸ hk)
      · have := hv1 _ h; have := G.kb k hk; omega
      · exact G.kl (h ▸ hk))) hsz
  · intro p hp r hr
    obtain ⟨a1, a2, a3⟩ := hD p hp r hr
    refine ⟨a1, by omega, fun he => ?_⟩
    rcases hat with h | h
    · exact a3 (h ▸ he)
    · rw [h] at he
      have : ((wr.putObj b.mb ob).alloc o2).heap.size = r := by simpa using he
      omega
  · refine hJ _ _ _ hj (m.wider (fun i hi h => ?_))
    rcases h with (h | h) | h
    · exact ⟨by omega, fun p hp hr => by have := (hD p hp _ hr).1; omega⟩
    · exact ⟨by have := hv1 _ h; omega, fun p hp hr => (hD p hp _ hr).2.2 h⟩
    · exact ⟨by omega, fun p hp hr => by have := (hD p hp _ hr).1; omega⟩

theorem step_out {b : PBlocks} {n : Nat} {goes : List (List Int)} {KC : Nat → Prop} (G : PGood b n goes KC) {J : List Held → World → Prop} {B0 : Nat} (hB0 : B0 ≤ b.bl ∧ B0 ≤ b.mb ∧ B0 ≤ b.B) (hJ : StableV B0 J)
    {pre : List Int} {h : Int} {g cap : Nat} {d : List Held} {w5 : World} {ob : Obj} (hS : PS b n goes KC (pre ++ [h]) (.slice (some ⟨g, 0, none⟩) (pre.length + 1) cap) w5) (hD : DoneOK b d (.slice (some ⟨g, 0, none⟩) (pre.length + 1) cap) w5) (hj : J d w5)
    (ht : TakenIs ((w5.setCell ⟨b.bl, 0, none⟩ (.slice (some ⟨g, 0, none⟩) pre.length cap)).putObj b.mb ob) b.mb pre) :
    PS b n goes KC pre (.slice (some ⟨g, 0, none⟩) pre.length cap) ((w5.setCell ⟨b.bl, 0, none⟩ (.slice (some ⟨g, 0, none⟩) pre.length cap)).putObj b.mb ob) ∧
      DoneOK b d (.slice (some ⟨g, 0, none⟩) pre.length cap) ((w5.setCell ⟨b.bl, 0, none⟩ (.slice (some ⟨g, 0, none⟩) pre.length cap)).putObj b.mb ob) ∧
      J d ((w5.setCell ⟨b.bl, 0, none⟩ (.slice (some ⟨g, 0, none⟩) pre.length cap)).putObj b.mb ob) ∧ w5.heap.size ≤ ((w5.setCell ⟨b.bl, 0, none⟩ (.slice (some ⟨g, 0, none⟩) pre.length cap)).putObj b.mb ob).heap.size := by
  have g1 := G.bl; have g2 := G.mb; have g3 := G.ne
  have hgb : b.B ≤ g ∧ g < w5.heap.size := ⟨(hS.own.cells (r := g) rfl).1, (hS.own.cells (r := g) rfl).2.1⟩
  have m1 : Mod (fun k => k = b.bl) w5 (w5.setCell ⟨b.bl, 0, none⟩ (.slice (some ⟨g, 0, none⟩) pre.length cap)) := (Mod.refl (fun k => k = b.bl) w5).setCell (p := ⟨b.bl, 0, none⟩) (fun _ => rfl) _
  have m2 : Mod (fun k => k = b.mb) (w5.setCell ⟨b.bl, 0, none⟩ (.slice (some ⟨g, 0, none⟩) pre.length cap)) ((w5.setCell ⟨b.bl, 0, none⟩ (.slice (some ⟨g, 0, none⟩) pre.length cap)).putObj b.mb ob) := (Mod.refl (fun k => k = b.mb) _).putObj (fun _ => rfl) ob
  have m : Mod (fun k => k = b.bl ∨ k = b.mb) w5 ((w5.setCell ⟨b.bl, 0, none⟩ (.slice (some ⟨g, 0, none⟩) pre.length cap)).putObj b.mb ob) := (m1.wider (fun _ _ h => .inl h)).then m2 (fun _ _ h => .inr h)
  have hsz := m.size
  refine ⟨⟨?_, ?_, ht, ?_, Nat.le_trans hS.sz hsz⟩, ?_, ?_, hsz⟩
  · refine m2.at ?_ g3
    rw [setCell_at hS.l 0]; rfl
  · have h0 : OwnV b.B w5 (pre, .slice (some ⟨g, 0, none⟩) pre.length cap) := by
      obtain ⟨hl, ⟨hv, _⟩ | ⟨g', cap', cur, hv, hb, hg, hnc, h4, h2, h3⟩⟩ := hS.own
      · cases hv
      · simp only [List.length_append, List.length_cons, List.length_nil, Value.slice.injEq] at hv
        obtain ⟨e1, _, rfl⟩ := hv
        obtain rfl : g = g' := by simpa using e1
        refine ⟨by simp, .inr ⟨g, cap, cur, rfl, hb, hg, by simp only [List.length_append, List.length_cons, List.length_nil] at hnc; simp only; omega, h4, h2, ?_⟩⟩
        have h5 : (cur.toList.take ((pre.length + 1) * 1)).take (pre.length * 1) = pre.map (Value.int .i64) := by
          simp only [List.length_append, List.length_cons, List.length_nil, List.map_append] at h3
          rw [h3, List.take_left' (by simp)]
        rw [List.take_take] at h5
        rw [show min (pre.length * 1) ((pre.length + 1) * 1) = pre.length * 1 by omega] at h5
        exact h5
    exact h0.same (fun r hr => m.block r (h0.cells hr).2.1 (by have := (h0.cells hr).1; omega))
  · exact G.keep _ _ hS.pc (fun k hk => m.block k (Nat.lt_of_lt_of_le (G.kb k hk) hS.sz) (by
      rintro (h | h)
      · exact G.kl (h ▸ hk)
      · exact G.km (h ▸ hk))) hsz
  · intro p hp r hr
    obtain ⟨a1, a2, a3⟩ := hD p hp r hr
    exact ⟨a1, by omega, a3⟩
  · refine hJ _ _ _ hj (m.wider (fun i hi h => ?_))
    rcases h with h | h
    · exact ⟨by omega, fun p hp hr => by have := (hD p hp _ hr).1; omega⟩
    · exact ⟨by omega, fun p hp hr => by have := (hD p hp _ hr).1; omega⟩

set_option maxRecDepth 100000 in
set_option maxHeartbeats 4000000 in
theorem place_succ (b : PBlocks) (n : Nat) (goes : List (List Int)) (KC : Nat → Prop) (G : PGood b n goes KC) (J Jx : List Held → World → Prop) (B0 : Nat) (hB0 : B0 ≤ b.bl ∧ B0 ≤ b.mb ∧ B0 ≤ b.B) (hJ : StableV B0 J)
    (L : List (List Int)) (m : Nat) (pre : List Int) (hn : pre.length + (m + 1) = n)
    (IH : ∀ (h : Int) (v : Value) (done : List Held) (W : World) (N : Nat), PS b n goes KC (pre ++ [h]) v W → DoneOK b done v W → J done W → (∃ rest, L = done.map Prod.fst ++ (pairsL goes m (pre ++ [h]) ++ rest)) →
      CallsIn Fence.wide N Try.prog 87 b.lb W (PPost b n goes KC J Jx done (pairsL goes m (pre ++ [h])) (pre ++ [h]) W))
    (v : Value) (done : List Held) (W : World) (hS : PS b n goes KC pre v W) (hD : DoneOK b done v W) (hj : J done W) (hL : ∃ rest, L = done.map Prod.fst ++ (pairsL goes (m + 1) pre ++ rest)) (N : Nat) :
    CallsIn Fence.wide (N + 1) Try.prog 87 b.lb W (PPost b n goes KC J Jx done (pairsL goes (m + 1) pre) pre W) := by
  obtain ⟨i0, hi, hz0, hz1, hz2⟩ := info_parts info3
  have hS0 := hS
  obtain ⟨ao, cap, rfl⟩ := own_slice hS.own
  have ht := hS.pc.t
  have hl0 := cellsAt hS.l 0
  have hg0 := hS.pc.g
  have hpl : pre.length < n := by omega
  have hn8 := G.n8
  obtain ⟨GL, hGL⟩ : ∃ GL, goes[pre.length]? = some GL := ⟨_, List.getElem?_eq_getElem (by have := G.len; omega)⟩
  have hr0 := (hS.pc.r _ _ hGL).1
  obtain ⟨ao2, hao⟩ : ∃ x, b.ao pre.length = x := ⟨_, rfl⟩
  rw [hao] at hr0
  have HAO := Hold.mk hao
  clear hao
  have hpli : (pre.length : Int) < (n : Int) := by omega
  have hne : (pre.length == n) = false := by simp; omega
  have hnei : ((pre.length : Int) == (n : Int)) = false := by simp; omega
  have hGs := G.small GL (List.mem_of_getElem? hGL)
  have hGn := hGs.1
  have HL0 : Hold (LInv b n goes KC J done (pairsTo goes m pre 0) pre W W) := ⟨[], _, by simp [pairsTo_zero], hS0, by simpa using hD, by simpa using hj, Nat.le_refl _⟩
  have HGL := Hold.mk hGL
  have HGS := Hold.mk hGs
  have HIH := Hold.mk IH
  have HL := Hold.mk hL
  have HG := Hold.mk G
  have HB0 := Hold.mk hB0
  clear hS hD hj hL G hB0 IH hGL hS0 hGs
  refine callsIn_of_wp Try.func87 rfl trivial ?_ rfl
  simp only [Try.ntmps87, List.size_toArray, List.length_cons, List.length_nil, Nat.reduceAdd, Nat.reduceSub, Array.replicate_succ, Array.replicate_zero, List.push_toArray, List.append_toArray, List.nil_append, List.cons_append]
  gi_wp2
  clear hl0 ht hg0 hr0
  gi_loopw [24] (fun i wr => ∃ j : Nat, j ≤ GL.length ∧ i = .int .i64 j ∧ Hold (LInv b n goes KC J done (pairsTo goes m pre j) pre W wr)) (fun i _ => GL.length - (intOf i).toNat)
  case atStart => exact ⟨0, Nat.zero_le _, rfl, HL0⟩
  case round =>
    obtain ⟨j, hj, rfl, HI⟩ := hrel
    obtain ⟨vs, v1, hvs, hS, hD, hJ1, hsz⟩ := HI.out
    by_cases hlt : j < GL.length
    · obtain ⟨ao1, cap1, rfl⟩ := own_slice hS.own
      have hI2 := (hS.pc.r _ _ HGL.out).2
      rw [HAO.out] at hI2
      obtain ⟨rb, off, rfl, _, hc⟩ := hI2.lies (fun e => by simp [e] at hlt)
      obtain ⟨h, hh⟩ : ∃ h, GL[j]? = some h := ⟨_, List.getElem?_eq_getElem hlt⟩
      have hcell := hc j hlt
      rw [hh, Option.getD_some] at hcell
      have HH := Hold.mk hh
      obtain ⟨hb1, hb2⟩ := HGS.out.2 h (List.mem_of_getElem? hh)
      have hm0 := hS.pc.m
      have HPT : Hold (pairsTo goes m pre (j + 1) = pairsTo goes m pre j ++ (if h ∈ pre then [] else pairsL goes m (pre ++ [h]))) := ⟨pairsTo_succ (by rw [HGL.out]; exact hh)⟩
      have HS := Hold.mk hS
      have HD := Hold.mk hD
      have HJ := Hold.mk hJ1
      have HV := Hold.mk hvs
      have HZ := Hold.mk hsz
      clear hc hh hI2 hD hJ1 hvs hsz
      by_cases hin : h ∈ pre
      · have hlook := hS.tk.look hb1 hb2
        rw [show decide (h ∈ pre) = true by simp [hin]] at hlook
        have HIN := Hold.mk hin
        clear hS hin
        gi_wp2
        go_roundw
        case rel => exact ⟨j + 1, by omega, by go_num, ⟨⟨vs, _, by rw [HPT.out, if_pos HIN.out, List.append_nil]; exact HV.out, HS.out, HD.out, HJ.out, HZ.out⟩⟩⟩
        case measure => simp [intOf]; omega
      · have hlook := hS.tk.look hb1 hb2
        rw [show decide (h ∈ pre) = false by simp [hin]] at hlook
        have HIN := Hold.mk hin
        clear hS hin
        have nbl : ∀ r, (Value.slice ao1 pre.length cap1).ownBlock = some r → b.B ≤ r := fun r hr => (HS.out.own.cells hr).1
        have HNB := Hold.mk nbl
        clear nbl
        gi_wp2_with (first
          | (gi_at_mapUpdate; refine wpListIn_take rfl (.tmp 31) (.tmp 32) (.const (.bool true)) rfl b.mb pre h rfl rfl rfl HS.out.tk hb1 hb2 HIN.out ?_; intro ob ht
             have m1 : Mod (fun k => k = b.mb) wr (wr.putObj b.mb ob) := (Mod.refl (fun k => k = b.mb) wr).putObj (fun _ => rfl) ob
             generalize hwa : wr.putObj b.mb ob = wa at *
             have HWA := Hold.mk hwa
             have HTA := Hold.mk ht
             have hla := m1.at HS.out.l HG.out.ne
             have la0 := cellsAt hla 0
             have HOA : Hold (OwnV b.B wa (pre, .slice ao1 pre.length cap1)) := ⟨HS.out.own.same (fun r hr => m1.block r (HS.out.own.cells hr).2.1 (by have := HNB.out r hr; have := HG.out.mb; omega))⟩
             have HSZ : Hold (b.B ≤ wa.heap.size) := ⟨Nat.le_trans HS.out.sz m1.size⟩
             have HLA := Hold.mk hla
             clear hwa ht m1 hla hcell hm0 hlook)
          | (gi_at_builtin; refine wpListIn_append_own_at _ rfl (.tmp 33) (.tmp 35) 43 rfl b.B 3 i0 (.int .i64 0) 1 8 Try.underlying43 hi hz0 hz1 hz2 rfl (by decide) _ _ _ rfl (World.ownsRow.alloc HOA.out _) ⟨wa.heap.size, 0, none⟩ 1 1 [.int .i64 h] rfl rfl (one_cell wa h) (by simp [Value.oneCell']) (by unfold maxLen; simp only; omega) (by simp only; omega) (by have := HSZ.out; simp; omega) ?_; intro v2 wb hown hgr _ hat
             obtain ⟨ao3, cap3, rfl⟩ := row_form hown
             have hSI := step_in (ob := ob) (o2 := .cells #[.int .i64 h] 3) HG.out HB0.out hJ HS.out HD.out HJ.out (by rw [HWA.out]; exact HTA.out) hown (by rw [HWA.out]; exact hgr) (by rw [HWA.out]; exact hat)
             have HSI := Hold.mk hSI
             have hp1 := hSI.1.pc.p
             clear hSI
             have hlb : wb.heap[b.bl]? = some (.cells #[.slice ao1 pre.length cap1] 43) := (by
               rw [hgr.block b.bl (by have := HSZ.out; have := HG.out.bl; simp; omega) (fun he => by have := HNB.out b.bl he.symm; have := HG.out.bl; omega), Below.heap_alloc _ _ _ (by have := HSZ.out; have := HG.out.bl; omega)]
               exact HLA.out)
             have lb0 := cellsAt hlb 0
             have lf0 := cells_frozen hlb 0
             clear hown hgr hat hlb la0))
        clear lb0 lf0
        refine ⟨trivial, ?_⟩
        gi_at_call 87
        have HLX : ∃ rest, L = (done ++ vs).map Prod.fst ++ (pairsL goes m (pre ++ [h]) ++ rest) := by
          obtain ⟨r0, hr0⟩ := HL.out
          obtain ⟨r, hr⟩ := pairsTo_pre (m := m) HGL.out (j + 1)
          rw [HPT.out, if_neg HIN.out] at hr
          exact ⟨r ++ r0, by rw [hr0, hr, List.map_append, HV.out]; simp only [List.append_assoc]⟩
        refine (HIH.out h _ (done ++ vs) _ N HSI.out.1 HSI.out.2.1 HSI.out.2.2.1 HLX).mono ?_
        rintro e w5 ⟨hz5, ⟨rfl, vs2, v3, hvs2, hS2, hD2, hJ2⟩ | ⟨rfl, vs2, hvs2, hJ2⟩⟩
        · obtain ⟨g3, cap3', rfl, hc1, hc2⟩ := own_some hS2.own
          have hl5 := cellsAt hS2.l 0
          have lf5 := cells_frozen hS2.l 0
          have hm5 := hS2.pc.m
          have hnm : b.bm ≠ b.bl := fun e => by rw [e, hl5] at hm5; cases hm5
          have HNM := Hold.mk hnm
          have HTK : Hold (TakenIs (w5.setCell ⟨b.bl, 0, none⟩ (.slice (some ⟨g3, 0, none⟩) pre.length cap3')) b.mb (pre ++ [h])) := ⟨hS2.tk.same (by
            have : Mod (fun k => k = b.bl) w5 (w5.setCell ⟨b.bl, 0, none⟩ (.slice (some ⟨g3, 0, none⟩) pre.length cap3')) := (Mod.refl (fun k => k = b.bl) w5).setCell (p := ⟨b.bl, 0, none⟩) (fun _ => rfl) _
            exact this.block b.mb hS2.tk.lt (fun e => HG.out.ne e.symm))⟩
          have HS2 := Hold.mk hS2
          have HD2 := Hold.mk hD2
          have HJ2 := Hold.mk hJ2
          have HVS2 := Hold.mk hvs2
          have HZ5 := Hold.mk hz5
          unfold maxLen at hc2
          clear hS2 hD2 hJ2 hvs2 hz5 hp1
          gi_wp2_with (refine wpListIn_give rfl (.tmp 45) (.tmp 46) rfl b.mb pre h rfl rfl HTK.out HIN.out ?_; intro ob2 ht2
                       have HSO := Hold.mk (step_out HG.out HB0.out hJ HS2.out HD2.out HJ2.out ht2)
                       clear ht2)
          go_roundw
          case rel => exact ⟨j + 1, by omega, by go_num, ⟨⟨vs ++ vs2, _, by rw [List.map_append, HV.out, HVS2.out, HPT.out, if_neg HIN.out], HSO.out.1, by rw [← List.append_assoc]; exact HSO.out.2.1, by rw [← List.append_assoc]; exact HSO.out.2.2.1, by have := HSO.out.2.2.2; have := HZ.out; have := HZ5.out; have := HSI.out.2.2.2; omega⟩⟩⟩
          case measure => simp [intOf]; omega
        · clear hp1
          gi_wp2
          go_ret
          refine ⟨by have := HZ.out; have := HSI.out.2.2.2; omega, .inr ⟨rfl, vs ++ vs2, ?_, by rw [← List.append_assoc]; exact hJ2⟩⟩
          obtain ⟨r, hr⟩ := pairsTo_pre (m := m) HGL.out (j + 1)
          rw [hr, HPT.out, if_neg HIN.out, List.map_append, HV.out, List.append_assoc]
          exact (List.prefix_append_right_inj _).2 (hvs2.trans (List.prefix_append _ _))
    · obtain rfl : j = GL.length := by omega
      gi_wp2
      go_ret
      refine ⟨hsz, .inl ⟨rfl, vs, v1, ?_, hS, hD, hJ1⟩⟩
      rw [hvs, ← pairsTo_all, HGL.out, Option.getD_some]

theorem place_any (b : PBlocks) (n : Nat) (goes : List (List Int)) (KC : Nat → Prop) (G : PGood b n goes KC) (J Jx : List Held → World → Prop) (B0 : Nat) (hB0 : B0 ≤ b.bl ∧ B0 ≤ b.mb ∧ B0 ≤ b.B) (hJ : StableV B0 J) (hJx : StableV B0 Jx) (T : Nat → Prop) (hT : ∀ k, T k → k < B0 ∧ ¬ KC k)
    (L : List (List Int)) (n0 : Nat) (hY : YieldH n0 b.l B0 T L J Jx) : ∀ (m : Nat) (pre : List Int) (v : Value) (done : List Held) (W : World) (N : Nat), pre.length + m = n → PS b n goes KC pre v W → DoneOK b done v W → J done W →
      (∃ rest, L = done.map Prod.fst ++ (pairsL goes m pre ++ rest)) → CallsIn Fence.wide N Try.prog 87 b.lb W (PPost b n goes KC J Jx done (pairsL goes m pre) pre W) := by
  have up : ∀ {R : Ending → World → Prop} {W : World} (N : Nat), CallsIn Fence.wide (N + 1) Try.prog 87 b.lb W R → ∀ N', CallsIn Fence.wide N' Try.prog 87 b.lb W R := fun N h N' => callsIn_wide.2 (callsIn_wide.1 h)
  intro m
  induction m with
  | zero =>
    intro pre v done W N hn hS hD hj hL
    exact up 0 (place_zero b n goes KC G J Jx B0 hB0 hJ hJx T hT L n0 hY pre v done W (by omega) hS hD hj hL 0) N
  | succ m ih =>
    intro pre v done W N hn hS hD hj hL
    exact up 0 (place_succ b n goes KC G J Jx B0 hB0 hJ L m pre (by omega) (fun h v done W N hS hD hj hL => ih (pre ++ [h]) v done W N (by simp; omega) hS hD hj hL) v done W hS hD hj hL 0) N
end Go.Proofs.Ytnjbamikfjdofaa

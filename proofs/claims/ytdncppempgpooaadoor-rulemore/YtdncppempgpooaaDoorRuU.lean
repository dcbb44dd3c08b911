/- Follow: a plan that is one. -/
import Derived.Test.YtdncppempgpooaaDoorRuT
set_option linter.unusedSimpArgs false
set_option linter.unusedVariables false
namespace Go.Proofs.YtdncppempgpooaaDoor
open Go.RowKit Go.Shelf

theorem price_any (ao : Option Addr) (n cap : Nat) (d : Dye) (oo : Option Addr) (oc : Nat) (r : Nat → Int) (set : Nat) (w : World) (hs : set < 32) (hT : Tab w) (hst : 0 ≤ d.stop ∧ d.stop ≤ 10000) (hbe : 0 ≤ d.bend ∧ d.bend ≤ 10000) :
    Calls Tryd.prog 49 #[mtV ao n cap d oo oc r, .int .i64 set] w fun e w' => e = .returned (.int .i64 (priceR d set)) ∧ Mod noB w w' := by
  by_cases h : set = 0
  · subst h
    exact (price_zero ao n cap d oo oc r w).mono fun e w' hh => ⟨by rw [hh.1]; simp [priceR], hh.2⟩
  · exact price_some ao n cap d oo oc r set w h hs hT hst hbe
theorem price_bd {d : Dye} {set : Nat} (hs : set < 32) (hst : 0 ≤ d.stop ∧ d.stop ≤ 10000) (hbe : 0 ≤ d.bend ∧ d.bend ≤ 10000) : 0 ≤ priceR d set ∧ priceR d set ≤ 60000 := by
  unfold priceR
  split
  · omega
  · have hl := bits_len ⟨set, hs⟩
    simp only at hl
    have := mul_bd (m := 5) (k := 10000) (a := ((bitsL set).length : Int)) (b := d.bend) (by omega) (by omega)
    have h0 : 0 ≤ ((bitsL set).length : Int) * d.bend := Int.mul_nonneg (by omega) hbe.1
    omega
theorem bent_none (r : Nat → Int) : bentR r 0 = r := by funext k; simp [bentR]

/-- The set of a plan before a stint. -/
theorem set_at {d : Dye} {l : List (Int × Int)} {p : List Int} (h : planB d l p = true) (hn : d.bl.length ≤ 5) {k : Nat} (hk : k < p.length) : ∃ set : Nat, p[k]? = some (set : Int) ∧ (natsOf p)[k]? = some set ∧ set < 32 := by
  simp only [planB, Bool.and_eq_true, List.all_eq_true, fromB, decide_eq_true_eq] at h
  obtain ⟨x, hx⟩ : ∃ x, p[k]? = some x := ⟨_, List.getElem?_eq_getElem hk⟩
  obtain ⟨h0, h1⟩ := h.2 x (List.mem_of_getElem? hx)
  have hall : allS d < 32 := by
    unfold allS
    have : 2 ^ d.bl.length ≤ 2 ^ 5 := Nat.pow_le_pow_right (by decide) hn
    omega
  refine ⟨x.toNat, by rw [hx]; congr 1; omega, by simp [natsOf, hx], by omega⟩
theorem drop_head {α : Type} {l : List α} {k : Nat} {x : α} (h : l[k]? = some x) : l.drop k = x :: l.drop (k + 1) := by
  obtain ⟨hlt, he⟩ := List.getElem?_eq_some_iff.1 h
  rw [← he]; exact List.drop_eq_getElem_cons hlt

/-- What Follow's walk holds on to: the box of the die on the press (that lies right behind w), and the stint's. -/
structure FoS (ao : Option Addr) (cap : Nat) (d : Dye) (oo : Option Addr) (oc : Nat) (w : World) (r : Nat → Int) (W : World) : Prop where
  a : W.heap[w.heap.size]? = some (.cells (mtC ao d.bl.length cap d oo oc r) 87)
  m : Mod noB w W
theorem FoS.later {ao : Option Addr} {cap : Nat} {d : Dye} {oo : Option Addr} {oc : Nat} {w : World} {r : Nat → Int} {W W' : World} (h : FoS ao cap d oo oc w r W) (hm : Mod noB W W') : FoS ao cap d oo oc w r W' := ⟨hm.at h.a id, h.m.trans hm⟩
structure FoR (ao : Option Addr) (cap : Nat) (d : Dye) (oo : Option Addr) (oc : Nat) (w : World) (r : Nat → Int) (sb : Nat) (s : Int × Int) (W : World) : Prop where
  a : W.heap[w.heap.size]? = some (.cells (mtC ao d.bl.length cap d oo oc r) 87)
  s : W.heap[sb]? = some (.cells (spC s) 58)
  m : Mod noB w W
theorem FoR.later {ao : Option Addr} {cap : Nat} {d : Dye} {oo : Option Addr} {oc : Nat} {w : World} {r : Nat → Int} {sb : Nat} {s : Int × Int} {W W' : World} (h : FoR ao cap d oo oc w r sb s W) (hm : Mod noB W W') : FoR ao cap d oo oc w r sb s W' := ⟨hm.at h.a id, hm.at h.s id, h.m.trans hm⟩
theorem FoR.put {ao : Option Addr} {cap : Nat} {d : Dye} {oo : Option Addr} {oc : Nat} {w : World} {r : Nat → Int} {sb : Nat} {s : Int × Int} {W : World} (h : FoR ao cap d oo oc w r sb s W) (r' : Nat → Int) : FoR ao cap d oo oc w r' sb s (W.putObj w.heap.size (.cells (mtC ao d.bl.length cap d oo oc r') 87)) :=
  ⟨World.putObj_heap_same (at_ltS h.a), (World.putObj_heap_other (fun e => by have := h.s; rw [e, h.a] at this; cases this)).trans h.s, h.m.putObj (fun hl => by omega) _⟩

/-- Between two rounds. -/
structure FoI (ao : Option Addr) (cap : Nat) (d : Dye) (oo : Option Addr) (oc : Nat) (l : List (Int × Int)) (p : List Int) (w : World) (k : Nat) (c : Int) (wr : World) : Prop where
  ex : ∃ r, FoS ao cap d oo oc w r wr ∧ RunB (1000 * k) r ∧ goR d 0 zeroR 0 l (0 :: natsOf p) = goR d k r (c + priceR d (((0 :: natsOf p).drop k).headD 0)) (l.drop k) ((0 :: natsOf p).drop k)
  c0 : 0 ≤ c ∧ c ≤ 60000 * k
theorem FoI.next {ao : Option Addr} {cap : Nat} {d : Dye} {oo : Option Addr} {oc : Nat} {l : List (Int × Int)} {p : List Int} {w : World} {k set sb : Nat} {c : Int} {W : World} {r : Nat → Int} {s : Int × Int}
    (hr : RunB (1000 * k) r) (hg : goR d 0 zeroR 0 l (0 :: natsOf p) = goR d k r (c + priceR d (((0 :: natsOf p).drop k).headD 0)) (l.drop k) ((0 :: natsOf p).drop k)) (hs : l[k]? = some s) (hst : stintB s = true)
    (hset : ((0 :: natsOf p).drop k).headD 0 = set) (hf : failing d (bentR r set) s = none) (hR : FoR ao cap d oo oc w (runR d (bentR r set) s) sb s W) (hc : 0 ≤ c + priceR d set ∧ c + priceR d set ≤ 60000 * (k + 1)) : FoI ao cap d oo oc l p w (k + 1) (c + priceR d set) W := by
  have hs1 : 0 ≤ s.1 ∧ s.1 ≤ 1000 := by
    simp only [stintB, fromB, Bool.and_eq_true, decide_eq_true_eq] at hst
    omega
  refine ⟨⟨_, ⟨hR.a, hR.m⟩, ?_, ?_⟩, by simpa using hc⟩
  · have := (hr.bent (by omega) set).run d hs1
    exact this.mono (by omega)
  · rw [hg, drop_head hs, goR, hset, hf]
    simp only [List.drop_drop]
theorem FoI.stop {d : Dye} {l : List (Int × Int)} {p : List Int} {k set b : Nat} {c : Int} {r : Nat → Int} {s : Int × Int}
    (hg : goR d 0 zeroR 0 l (0 :: natsOf p) = goR d k r (c + priceR d (((0 :: natsOf p).drop k).headD 0)) (l.drop k) ((0 :: natsOf p).drop k)) (hs : l[k]? = some s)
    (hset : ((0 :: natsOf p).drop k).headD 0 = set) (hf : failing d (bentR r set) s = some b) : goR d 0 zeroR 0 l (0 :: natsOf p) = (0, (k : Int), (b : Int), 11) := by
  rw [hg, drop_head hs, goR, hset, hf]

set_option maxRecDepth 100000 in
set_option maxHeartbeats 8000000 in
theorem follow_some (B : Nat) (ao : Option Addr) (cap : Nat) (d : Dye) (lo : Option Addr) (lcap : Nat) (l : List (Int × Int)) (po : Option Addr) (pcap : Nat) (p : List Int) (w : World) (hI : InB B w ao d lo l) (hp : IntsAt w po p) (h1 : dieB d = true) (h2 : stintsB l = true) (h3 : planB d l p = true) :
    Calls Tryd.prog 18 #[dyV ao d.bl.length cap d, .slice lo l.length lcap, .slice po p.length pcap] w (Four (followE d l p) w) := by
  have hb := World.alloc_heap_new w (.cells (dyC ao d.bl.length cap d) 24)
  have HC := Hold.mk (mount_ok B ao cap d lo lcap l (w.alloc (.cells (dyC ao d.bl.length cap d) 24)) (by have := hI.le; simp; omega) (hI.mod ((Mod.refl _ _).alloc _)).bl (hI.mod ((Mod.refl _ _).alloc _)).st h1 h2)
  obtain ⟨hl7, hst⟩ : l.length ≤ 7 ∧ ∀ s ∈ l, stintB s = true := by
    simp only [stintsB, Bool.and_eq_true, List.all_eq_true, decide_eq_true_eq] at h2
    exact ⟨by omega, h2.2⟩
  obtain ⟨⟨hn1, hn5⟩, _, _, hsp, hbe⟩ := dieB_parts h1
  have HP : Hold (∀ W, Mod noB w W → Calls Tryd.prog 48 #[dyV ao d.bl.length cap d, .slice lo l.length lcap, .slice po p.length pcap] W fun r w' => r = .returned (.bool true) ∧ Mod noB W w') :=
    ⟨fun W h => by rw [← h3]; exact isPlan_any ao cap d lo l.length lcap l po pcap p W hn5 rfl (by omega) (hp.mod h)⟩
  have he : Hold (followE d l p = goR d 0 zeroR 0 l (0 :: natsOf p)) := ⟨by simp [followE, h1, h2, h3]⟩
  have hpl : p.length = l.length - 1 := by
    simp only [planB, Bool.and_eq_true, decide_eq_true_eq] at h3
    omega
  have hpsm := hp.small
  have HM0 := Hold.mk ((Mod.refl noB w).alloc (.cells (dyC ao d.bl.length cap d) 24))
  have HB := Hold.mk hb
  have HIN := Hold.mk (And.intro hI (And.intro hp (And.intro hst (And.intro h1 (And.intro h3 (And.intro hn5 (And.intro hsp (And.intro hbe hpl))))))))
  generalize followE d l p = FE at *
  clear hI hp h1 h2 h3 hb hst hsp hbe hn1 hpl
  go_enter Tryd.func18, Tryd.ntmps18
  go_wp2_with (first
    | (go_at_call 47; refine HC.out.mono ?_; rintro e w1 ⟨oo, oc, rfl, hO, hM⟩; have hd := ((Mod.refl noB w1).alloc (.cells (mtC ao d.bl.length cap d oo oc zeroR) 87)).at (hM.at HB.out id) id; have c0 := cellsAt hd 0; have c1 := cellsAt hd 1; have c2 := cellsAt hd 2; have c3 := cellsAt hd 3
       have HM := Hold.mk (HM0.out.trans (hM.trans ((Mod.refl noB w1).alloc (.cells (mtC ao d.bl.length cap d oo oc zeroR) 87)))); have HO := Hold.mk hO
       have HS : Hold (FoS ao cap d oo oc w1 zeroR (w1.alloc (.cells (mtC ao d.bl.length cap d oo oc zeroR) 87))) := ⟨⟨World.alloc_heap_new _ _, (Mod.refl _ _).alloc _⟩⟩
       have HM1 := Hold.mk (HM0.out.trans hM)
       clear hM hO hd)
    | (go_at_call 48; refine (HP.out _ HM.out).mono ?_; rintro e w2 ⟨rfl, hM⟩; have HS2 := Hold.mk (HS.out.later hM); clear hM c0 c1 c2 c3))
  have HMN : Hold (∀ W, Mod noB w1 W → Mnt w1.heap.size W oo d) := ⟨fun W h => by
    have hI := HIN.out.1
    have hz := HM1.out.size
    exact ⟨HO.out.low (Low.ofN h (Nat.le_refl _)), HIN.out.2.2.2.1, h.size, ((hI.mod HM1.out).mod h).tab, by have := hI.one; have := hI.le; omega⟩⟩
  have HI0 : Hold (FoI ao cap d oo oc l p w1 0 0 w2) := ⟨⟨⟨zeroR, HS2.out, runB_zero, by simp [priceR]⟩, by omega⟩⟩
  have HL := Hold.mk (And.intro HIN.out.1 (And.intro HIN.out.2.1 HIN.out.2.2))
  clear HC HP HM0 HB HS HS2 HM HO
  go_loopw [31, 6] (fun i c wr => ∃ (k : Nat) (cv : Int), k ≤ l.length ∧ i = .int .i64 k ∧ c = .int .i64 cv ∧ FoI ao cap d oo oc l p w1 k cv wr) (fun i _ _ => l.length - (intOf i).toNat)
  case atStart => exact ⟨0, 0, Nat.zero_le _, rfl, rfl, HI0.out⟩
  case round =>
    obtain ⟨k, cv, hk, rfl, rfl, hI⟩ := hrel
    obtain ⟨⟨r, hS, hr, hg⟩, hc0, hc1⟩ := hI
    by_cases hlt : k < l.length
    · obtain ⟨s, hs⟩ : ∃ s, l[k]? = some s := ⟨_, List.getElem?_eq_getElem hlt⟩
      have hMr := HM1.out.trans hS.m
      obtain ⟨sb, off, rfl, hsb, q0, q1⟩ := (HIN.out.1.mod hMr).st.stint hs
      have hst := HIN.out.2.2.1 s (List.mem_of_getElem? hs)
      have hle := HIN.out.1.le
      have hz := hMr.size
      have hne1 : sb ≠ wr.heap.size := by omega
      have hrun : RunB 10000 r := hr.mono (by omega)
      obtain ⟨W4, hW4⟩ : ∃ W4, wr.alloc (.cells (spC s) 58) = W4 := ⟨_, rfl⟩
      have hm4 : Mod noB wr W4 := by rw [← hW4]; exact (Mod.refl _ _).alloc _
      have HS4 : Hold (FoR ao cap d oo oc w1 r wr.heap.size s W4) := ⟨⟨hm4.at hS.a id, by rw [← hW4]; exact World.alloc_heap_new _ _, hS.m.trans hm4⟩⟩
      have HG := Hold.mk (And.intro hr (And.intro hg (And.intro hs hst)))
      have hk7 : k ≤ 6 := by omega
      clear hr hg hs hst hS hm4 hle hz
      rcases Nat.eq_zero_or_pos k with rfl | hkp
      · simp only [Nat.zero_mul, Nat.add_zero] at q0 q1
        have hset : Hold ((((0 : Nat) :: natsOf p).drop 0).headD 0 = 0) := ⟨rfl⟩
        have HRR : Hold (bentR r 0 = r) := ⟨bent_none r⟩
        have hrr := hrun
        have hp0 : Hold (cv + priceR d 0 = cv) := ⟨by simp [priceR]⟩
        clear hrun
        have HC : ∀ o, failing d r s = o → ∀ W, Mod noB w1 W → Calls Tryd.prog 51 #[mtV ao d.bl.length cap d oo oc r, spV s] W fun e w' => e = .returned (failV o) ∧ Mod noB W w' := fun o ho W h => by rw [← ho]; exact failing_any w1.heap.size ao cap d oo oc r s W (HMN.out W h) hrr HG.out.2.2.2
        have HR := Hold.mk (fun W => run_any ao cap d oo oc r s W hn5 hrr HG.out.2.2.2)
        obtain ⟨c0, c1, c2, c3, c4, c5, c6, c7, c8, c9⟩ := mt_cells HS4.out.a
        obtain ⟨d0, d1⟩ := sp_cells HS4.out.s
        have HV := Hold.mk (And.intro (@mtC_info ao d.bl.length cap d oo oc (runR d r s)) (@mtC_size ao d.bl.length cap d oo oc (runR d r s) r))
        cases ho : failing d r s with
        | some b =>
          have HC' : Hold (∀ W, Mod noB w1 W → Calls Tryd.prog 51 #[mtV ao d.bl.length cap d oo oc r, spV s] W fun e w' => e = .returned (.tuple #[.int .i64 b, .bool true]) ∧ Mod noB W w') := ⟨HC _ ho⟩
          have HE : Hold (FE = (0, 0, (b : Int), 11)) := ⟨by rw [he.out]; exact FoI.stop HG.out.2.1 HG.out.2.2.1 hset.out (by rw [HRR.out]; exact ho)⟩
          clear HC ho hrr
          obtain ⟨s1, s2⟩ := s
          go_wp2_with (go_at_call 51; (try rw [hW4]); refine (HC'.out _ HS4.out.m).mono ?_; rintro e w5 ⟨rfl, hM⟩; have HM5 := Hold.mk (HM1.out.trans (HS4.out.m.trans hM)); clear hM)
          refine go_ret4 rfl ⟨by rw [HE.out]; rfl, HM5.out⟩
        | none =>
          have HC' : Hold (∀ W, Mod noB w1 W → Calls Tryd.prog 51 #[mtV ao d.bl.length cap d oo oc r, spV s] W fun e w' => e = .returned (.tuple #[.int .i64 0, .bool false]) ∧ Mod noB W w') := ⟨HC _ ho⟩
          have HO := Hold.mk ho
          clear HC ho hrr
          obtain ⟨s1, s2⟩ := s
          go_wp2_with (first
            | (go_at_call 51; (try rw [hW4]); refine (HC'.out _ HS4.out.m).mono ?_; rintro e w5 ⟨rfl, hM⟩; clear c0 c1 c2 c3 c4 c5 c6 c7 c8 c9 d0 d1; have HS5 := Hold.mk (HS4.out.later hM); obtain ⟨c0, c1, c2, c3, c4, c5, c6, c7, c8, c9⟩ := mt_cells HS5.out.a; obtain ⟨d0, d1⟩ := sp_cells HS5.out.s; clear hM)
            | (go_at_call 52; refine (HR.out _).mono ?_; rintro e w6 ⟨rfl, hM⟩; have HS6 := Hold.mk (HS5.out.later hM); clear hM c0 c1 c2 c3 c4 c5 c6 c7 c8 c9 d0 d1)
            | (refine wpList_store_row rfl 87 (.tmp 10) (.tmp 65) rfl w1.heap.size (mtC ao d.bl.length cap d oo oc (runR d r (s1, s2))) rfl rfl 87 _ HS6.out.a HV.out.1.1 HV.out.2 HV.out.1.2.2 ?_; rw [setRow_put HS6.out.a]))
          have HS7 := Hold.mk (HS6.out.put (runR d r (s1, s2)))
          go_roundw
          case rel => exact ⟨1, cv, by omega, by simp, rfl, by
                      have := FoI.next HG.out.1 HG.out.2.1 HG.out.2.2.1 HG.out.2.2.2 hset.out (by rw [HRR.out]; exact HO.out) (by rw [HRR.out]; exact HS7.out) (by rw [hp0.out]; omega)
                      rw [hp0.out] at this
                      exact this⟩
          case measure => simp [intOf]; omega
      · obtain ⟨set, hx, hn, hs32⟩ := set_at HIN.out.2.2.2.2.1 hn5 (k := k - 1) (by have := HIN.out.2.2.2.2.2.2.2.2; omega)
        have hset : Hold ((((0 : Nat) :: natsOf p).drop k).headD 0 = set) := ⟨by
          obtain ⟨j, rfl⟩ : ∃ j, k = j + 1 := ⟨k - 1, by omega⟩
          rw [List.drop_succ_cons, drop_head (by simpa using hn)]; rfl⟩
        have hpk : k - 1 < p.length := (List.getElem?_eq_some_iff.1 hx).1
        obtain ⟨pb, poff, rfl, hpb, hpc⟩ := ints_cell HIN.out.2.1 hpk
        rw [hx, Option.getD_some] at hpc
        have hpk2 : ((k : Int) - 1) < (p.length : Int) := by omega
        have hpk0 : (0 : Int) ≤ (k : Int) - 1 := by omega
        have htn : ((k : Int) - 1).toNat = k - 1 := by omega
        have v1 : IntKind.i64.wrap ((k : Int) - 1) = (k : Int) - 1 := IntWalk.i64_in _ (by omega)
        have hkp1 : (0 : Int) < (k : Int) := by omega
        have hkp2 : (1 : Int) ≤ (k : Int) := by omega
        have hkp3 : (k : Int) ≤ (p.length : Int) := by omega
        have hkp4 : 1 ≤ k := by omega
        have hkp5 : k ≤ p.length := by omega
        have hkp6 : k - 1 < p.length := by omega
        obtain ⟨hsp, hbe⟩ := And.intro HIN.out.2.2.2.2.2.2.1 HIN.out.2.2.2.2.2.2.2.1
        have hpb2 := price_bd (d := d) hs32 hsp hbe
        have HPR := Hold.mk (fun W (h : Mod noB w1 W) => price_any ao d.bl.length cap d oo oc r set W hs32 ((HIN.out.1.mod HM1.out).mod h).tab hsp hbe)
        have HBT := Hold.mk (fun W (h : Mod noB w1 W) => bent_any ao d.bl.length cap d oo oc r set W hs32 ((HIN.out.1.mod HM1.out).mod h).tab)
        have HPC : Hold (∀ W, Mod noB w1 W → W.cell? ⟨pb, poff + (k - 1), none⟩ = some (.int .i64 set)) := ⟨fun W h => (cell_same ((HM1.out.trans h).block pb hpb id) _).trans hpc⟩
        have FIN0 : Hold (∀ W', Mod noB W4 W' → FoR ao cap d oo oc w1 r wr.heap.size s W' ∧ W'.cell? ⟨pb, poff + (k - 1), none⟩ = some (.int .i64 set)) := ⟨fun W' h => by
          have hh := HS4.out.later h
          exact ⟨hh, HPC.out _ hh.m⟩⟩
        have FIN := FIN0
        have hrr : RunB 10000 (bentR r set) := (hrun.bent (by omega) set)
        obtain ⟨rr, hrr0⟩ : ∃ rr, bentR r set = rr := ⟨_, rfl⟩
        have HRR := Hold.mk hrr0
        rw [hrr0] at hrr HBT
        obtain ⟨pr, hpr⟩ : ∃ pr, priceR d set = pr := ⟨_, rfl⟩
        have HPE := Hold.mk hpr
        rw [hpr] at HPR hpb2
        have v2 : IntKind.i64.wrap (cv + pr) = cv + pr := IntWalk.i64_in _ (by omega)
        obtain ⟨hpb3, hpb4⟩ := hpb2
        clear hx hn hpc hrun hrr0 hpr hsp hbe
        obtain ⟨s1, s2⟩ := s
        go_wp2
        try rw [hW4]
        refine region_quietP (by kernel_rfl) (by kernel_rfl) (fun W' => Mod noB W4 W') ((Mod.refl _ _).drew) ?_
        repeat
          (first
            | go_big_quiet_skip
            | (go_big_quiet_want
               go_simp
               first
                 | go_big_quiet_on
                 | (apply Exists.intro
                    refine ⟨fun W' hC => ?_, ?_⟩
                    · obtain ⟨gs, gp⟩ := FIN.out W' hC
                      have gm := gs.m
                      obtain ⟨c0, c1, c2, c3, c4, c5, c6, c7, c8, c9⟩ := mt_cells gs.a
                      first
                        | (go_at_call 49; (with_reducible refine (HPR.out _ gm).mono ?_); exact fun e w'' he => ⟨he.1, hC.trans he.2⟩)
                        | with_reducible rfl
                        | (clear gs gm; go_simp; first | rfl | exact ⟨rfl, rfl⟩)
                    go_big_quiet_on)
                 | (refine ⟨⟨_, fun _ _ => rfl⟩, ?_⟩; go_big_quiet_on)))
        refine wpQuiet_nil ?_
        intro Wq hq
        have HSq := Hold.mk (FIN.out Wq hq)
        clear FIN hq
        have FIN : Hold (∀ W', Mod noB Wq W' → FoR ao cap d oo oc w1 r wr.heap.size (s1, s2) W' ∧ W'.cell? ⟨pb, poff + (k - 1), none⟩ = some (.int .i64 set)) := ⟨fun W' h => by
          have hh := HSq.out.1.later h
          exact ⟨hh, HPC.out _ hh.m⟩⟩
        go_wp2
        refine region_tailP 7 ⟨by decide, by kernel_rfl, by kernel_rfl, by kernel_rfl, by kernel_rfl, by kernel_rfl⟩ (by kernel_rfl) (fun W' => Mod noB Wq W') ((Mod.refl _ _).drew) ?_
        simp only [strikeL, List.take_succ_cons, List.take_zero, List.drop_succ_cons, List.drop_zero, List.map_cons, List.map_nil, List.cons_append, List.nil_append, bareO]
        repeat
          (first
            | go_big_quiet_skip
            | (go_big_quiet_want
               go_simp
               first
                 | go_big_quiet_on
                 | (apply Exists.intro
                    refine ⟨fun W' hC => ?_, ?_⟩
                    · obtain ⟨gs, gp⟩ := FIN.out W' hC
                      have gm := gs.m
                      obtain ⟨c0, c1, c2, c3, c4, c5, c6, c7, c8, c9⟩ := mt_cells gs.a
                      first
                        | (go_at_call 50; (with_reducible refine (HBT.out _ gm).mono ?_); exact fun e w'' he => ⟨he.1, hC.trans he.2⟩)
                        | with_reducible rfl
                        | (clear gs gm; go_simp; first | rfl | exact ⟨rfl, rfl⟩)
                    go_big_quiet_on)
                 | (refine ⟨⟨_, fun _ _ => rfl⟩, ?_⟩; go_big_quiet_on)))
        refine wpQuiet_nil ?_
        intro Wp hq
        have HSp := Hold.mk (FIN.out Wp hq).1
        clear FIN hq FIN0
        have HVb := Hold.mk (And.intro (@mtC_info ao d.bl.length cap d oo oc rr) (@mtC_size ao d.bl.length cap d oo oc rr r))
        refine wpListIn_storeRow rfl 87 (.tmp 10) (.tmp 53) rfl w1.heap.size rfl (mtC ao d.bl.length cap d oo oc rr) rfl 87 _ HSp.out.a HVb.out.1.1 HVb.out.2 HVb.out.1.2.2 ?_
        refine wpListIn_nil ?_
        have HSb := Hold.mk (HSp.out.put rr)
        generalize Wp.putObj w1.heap.size (.cells (mtC ao d.bl.length cap d oo oc rr) 87) = Wb at *
        obtain ⟨s, hss⟩ : ∃ s : Int × Int, s = (s1, s2) := ⟨_, rfl⟩
        rw [← hss] at HSb HG
        clear v1 htn

        have HC : ∀ o, failing d rr s = o → ∀ W, Mod noB w1 W → Calls Tryd.prog 51 #[mtV ao d.bl.length cap d oo oc rr, spV s] W fun e w' => e = .returned (failV o) ∧ Mod noB W w' := fun o ho W h => by rw [← ho]; exact failing_any w1.heap.size ao cap d oo oc rr s W (HMN.out W h) hrr HG.out.2.2.2
        have HR := Hold.mk (fun W => run_any ao cap d oo oc rr s W hn5 hrr HG.out.2.2.2)
        obtain ⟨c0, c1, c2, c3, c4, c5, c6, c7, c8, c9⟩ := mt_cells HSb.out.a
        obtain ⟨d0, d1⟩ := sp_cells HSb.out.s
        have HV := Hold.mk (And.intro (@mtC_info ao d.bl.length cap d oo oc (runR d rr s)) (@mtC_size ao d.bl.length cap d oo oc (runR d rr s) rr))
        cases ho : failing d rr s with
        | some b =>
          have HC' : Hold (∀ W, Mod noB w1 W → Calls Tryd.prog 51 #[mtV ao d.bl.length cap d oo oc rr, spV s] W fun e w' => e = .returned (.tuple #[.int .i64 b, .bool true]) ∧ Mod noB W w') := ⟨HC _ ho⟩
          have HE : Hold (FE = (0, (k : Int), (b : Int), 11)) := ⟨by rw [he.out]; exact FoI.stop HG.out.2.1 HG.out.2.2.1 hset.out (by rw [HRR.out]; exact ho)⟩
          clear HC ho hrr
          subst hss
          go_wp2_with (go_at_call 51; refine (HC'.out _ HSb.out.m).mono ?_; rintro e w5 ⟨rfl, hM⟩; have HM5 := Hold.mk (HM1.out.trans (HSb.out.m.trans hM)); clear hM)
          refine go_ret4 rfl ⟨by rw [HE.out]; rfl, HM5.out⟩
        | none =>
          have HC' : Hold (∀ W, Mod noB w1 W → Calls Tryd.prog 51 #[mtV ao d.bl.length cap d oo oc rr, spV s] W fun e w' => e = .returned (.tuple #[.int .i64 0, .bool false]) ∧ Mod noB W w') := ⟨HC _ ho⟩
          have HO := Hold.mk ho
          clear HC ho hrr
          subst hss
          go_wp2_with (first
            | (go_at_call 51; refine (HC'.out _ HSb.out.m).mono ?_; rintro e w5 ⟨rfl, hM⟩; clear c0 c1 c2 c3 c4 c5 c6 c7 c8 c9 d0 d1; have HS5 := Hold.mk (HSb.out.later hM); obtain ⟨c0, c1, c2, c3, c4, c5, c6, c7, c8, c9⟩ := mt_cells HS5.out.a; obtain ⟨d0, d1⟩ := sp_cells HS5.out.s; clear hM)
            | (go_at_call 52; refine (HR.out _).mono ?_; rintro e w6 ⟨rfl, hM⟩; have HS6 := Hold.mk (HS5.out.later hM); clear hM c0 c1 c2 c3 c4 c5 c6 c7 c8 c9 d0 d1)
            | (refine wpList_store_row rfl 87 (.tmp 10) (.tmp 65) rfl w1.heap.size (mtC ao d.bl.length cap d oo oc (runR d rr (s1, s2))) rfl rfl 87 _ HS6.out.a HV.out.1.1 HV.out.2 HV.out.1.2.2 ?_; rw [setRow_put HS6.out.a]))
          have HS7 := Hold.mk (HS6.out.put (runR d rr (s1, s2)))
          go_roundw
          case rel => exact ⟨k + 1, cv + pr, by omega, by go_num, rfl, by
                      have := FoI.next HG.out.1 HG.out.2.1 HG.out.2.2.1 HG.out.2.2.2 hset.out (by rw [HRR.out]; exact HO.out) (by rw [HRR.out]; exact HS7.out) (by rw [HPE.out]; omega)
                      rw [HPE.out] at this
                      exact this⟩
          case measure => simp [intOf]; omega
    · obtain rfl : k = l.length := by omega
      have hq : (((0 : Nat) :: natsOf p).drop l.length).headD 0 = 0 := by
        rcases Nat.eq_zero_or_pos l.length with h | h
        · rw [h]; rfl
        · rw [List.drop_eq_nil_of_le]
          · rfl
          · have := HIN.out.2.2.2.2.2.2.2.2
            simp [natsOf]
            omega
      have HE : Hold (FE = (cv, (l.length : Int), 0, 0)) := ⟨by rw [he.out, hg, hq, List.drop_length, goR]; simp [priceR]⟩
      have HMM := Hold.mk (HM1.out.trans hS.m)
      clear hS hr hg hq
      go_wp2
      refine go_ret4 rfl ⟨by rw [HE.out]; rfl, HMM.out⟩
end Go.Proofs.YtdncppempgpooaaDoor

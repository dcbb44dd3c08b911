/- FitOwns: the walk. -/
import Derived.Test.YtnjbamikfjdofaaOwnsM
import Derived.Test.YtnjbamikfjdofaaAnew
import Derived.Deep.DeepCutAuto
import Derived.Deep.CutRange
set_option linter.unusedSimpArgs false
set_option linter.unusedVariables false
namespace Go.Proofs.Ytnjbamikfjdofaa
open Go.RowKit Go.Shelf

set_option maxRecDepth 100000 in
set_option maxHeartbeats 2000000 in
theorem owns_long (p : Ply) (s : Edg) (ao bo co : Option Addr) (n m k c d e : Nat) (w : World) (hn : n ≤ 9223372036854775807) (hm : m ≤ 9223372036854775807) (hk : k ≤ 9223372036854775807) (h : 50 < n ∨ 6 < m ∨ 6 < k) :
    Calls Try.prog 14 #[plV p, edV s, .slice ao n c, .slice bo m d, .slice co k e] w fun e w' => e = .returned (.bool true) ∧ Mod noB w w' := by
  have HF := Hold.mk (ok2_kept p s w)
  by_cases h1 : 50 < n
  · clear h
    go_enter Try.func14, Try.ntmps14
    go_wp2_with (go_at_call 21; refine (alive_any _).mono ?_; rintro e w1 ⟨rfl, hM⟩; replace HF := Hold.mk (HF.out.later hM); clear hM)
    go_ret
    exact ⟨rfl, HF.out.now.1.1⟩
  · by_cases h2 : 6 < m
    · clear h
      go_enter Try.func14, Try.ntmps14
      go_wp2_with (go_at_call 21; refine (alive_any _).mono ?_; rintro e w1 ⟨rfl, hM⟩; replace HF := Hold.mk (HF.out.later hM); clear hM)
      go_ret
      exact ⟨rfl, HF.out.now.1.1⟩
    · have h3 : 6 < k := by omega
      clear h
      go_enter Try.func14, Try.ntmps14
      go_wp2_with (go_at_call 21; refine (alive_any _).mono ?_; rintro e w1 ⟨rfl, hM⟩; replace HF := Hold.mk (HF.out.later hM); clear hM)
      go_ret
      exact ⟨rfl, HF.out.now.1.1⟩

theorem at_ltW {w : World} {b : Nat} {o : Obj} (h : w.heap[b]? = some o) : b < w.heap.size := (Array.getElem?_eq_some_iff.1 h).1
theorem own_sliceW {w : World} {base n : Nat} {v : Value} {xs : List Value} (h : w.ownsRow base 3 1 v n xs) : ∃ ao cap, v = .slice ao n cap := by
  obtain ⟨_, ⟨rfl, rfl⟩ | ⟨g, cap, cur, rfl, _⟩⟩ := h
  · exact ⟨_, _, rfl⟩
  · exact ⟨_, _, rfl⟩
theorem app_next {w w' : World} {o : Obj} (hm : Mod (fun b => b = w.heap.size) (w.alloc o) w') : Mod noB w w' :=
  ((Mod.refl (fun b => b = w.heap.size) w).alloc o |>.trans hm).wider fun i h1 h2 => by omega
theorem store_next {w3 W5 : World} {V : Nat → Value} {L : Nat → List Int} {i : Nat} {cs : Array Value} {wr wz wy : World} (h : OInv w3 W5 V L i cs wr) (A : OApart w3 W5 V) (hi : i < 4) {g' cap' : Nat} {cur : Array Value}
    (hmz : Mod noB wr wz) (hg : wr.heap.size ≤ g') (hb : wz.heap[g']? = some (.cells cur 3)) (ht : cur.toList.take (L i).length = (L i).map (Value.int .i64))
    (hmy : Mod (fun b => (V i).ownBlock = some b) (wz.setCell ⟨W5.heap.size, i, none⟩ (.slice (some ⟨g', 0, none⟩) (L i).length cap')) wy) :
    OInv w3 W5 V L (i + 1) (cs.setIfInBounds i (.slice (some ⟨g', 0, none⟩) (L i).length cap')) wy := by
  have hn := h.n
  refine h.next A hi (cur := cur) (g' := g') (cap' := cap') ?_ ?_ (by omega) ?_ ht
  · refine (Mod.setCell (hmz.wider (T' := fun b => b = W5.heap.size ∨ (V i).ownBlock = some b) fun _ _ h => absurd h id) (p := ⟨W5.heap.size, i, none⟩) (fun _ => .inl rfl) _).then hmy fun b _ h2 => .inr h2
  · refine hmy.at (set_same (hmz.at h.c id) rfl) fun h1 => ?_
    have := (A.b i hi _ h1).2; omega
  · refine hmy.at (set_other hb (by omega)) fun h1 => ?_
    have := (A.b i hi _ h1).2; omega

/-- What came in and its copies. -/
structure Copies (p : Ply) (s : Edg) (w : World) (a1 b1 c1 a2 b2 c2 : Option Addr) (es ts hs : List Edg) (w' : World) : Prop where
  o : OK2 p s w w'
  a : EdgesAt w' a1 es
  b : EdgesAt w' b1 ts
  c : EdgesAt w' c1 hs
  x : EdgesAt w' a2 es
  y : EdgesAt w' b2 ts
  z : EdgesAt w' c2 hs
theorem Copies.mod {p : Ply} {s : Edg} {w : World} {a1 b1 c1 a2 b2 c2 : Option Addr} {es ts hs : List Edg} {w' w2 : World} (h : Copies p s w a1 b1 c1 a2 b2 c2 es ts hs w') (hm : Mod noB w' w2) : Copies p s w a1 b1 c1 a2 b2 c2 es ts hs w2 :=
  ⟨⟨⟨h.o.1.1.trans hm, hm.at h.o.1.2 id⟩, hm.at h.o.2 id⟩, h.a.mod hm, h.b.mod hm, h.c.mod hm, h.x.mod hm, h.y.mod hm, h.z.mod hm⟩

/-- Behind the loop: all that came in, the copies, and the lists that were copied. -/
structure Fin4 (p : Ply) (s : Edg) (w : World) (a1 b1 c1 a2 b2 c2 : Option Addr) (es ts hs : List Edg) (L : Nat → List Int) (B : Nat) (G C : Nat → Nat) (w' : World) : Prop where
  c : Copies p s w a1 b1 c1 a2 b2 c2 es ts hs w'
  k : w'.heap[B]? = some (.cells #[.slice (some ⟨G 0, 0, none⟩) (L 0).length (C 0), .slice (some ⟨G 1, 0, none⟩) (L 1).length (C 1), .slice (some ⟨G 2, 0, none⟩) (L 2).length (C 2), .slice (some ⟨G 3, 0, none⟩) (L 3).length (C 3)] 81)
  i : ∀ j, j < 4 → IntsAt w' (some ⟨G j, 0, none⟩) (L j)
theorem Fin4.mod {p : Ply} {s : Edg} {w : World} {a1 b1 c1 a2 b2 c2 : Option Addr} {es ts hs : List Edg} {L : Nat → List Int} {B : Nat} {G C : Nat → Nat} {w' w2 : World} (h : Fin4 p s w a1 b1 c1 a2 b2 c2 es ts hs L B G C w') (hm : Mod noB w' w2) : Fin4 p s w a1 b1 c1 a2 b2 c2 es ts hs L B G C w2 :=
  ⟨h.c.mod hm, hm.at h.k id, fun j hj => (h.i j hj).mod hm⟩
theorem fin_of {p : Ply} {s : Edg} {w : World} {a1 b1 c1 a2 b2 c2 : Option Addr} {es ts hs : List Edg} {L : Nat → List Int} {w3 W5 wr : World} {V : Nat → Value} {cs : Array Value} (HC : Copies p s w a1 b1 c1 a2 b2 c2 es ts hs w3) (h : OInv w3 W5 V L 4 cs wr) (hL : ∀ j, (L j).length ≤ 1000) :
    ∃ G C, Fin4 p s w a1 b1 c1 a2 b2 c2 es ts hs L W5.heap.size G C wr := by
  have hd : ∀ j, ∃ g cap, j < 4 → ∃ cur, cs[j]? = some (.slice (some ⟨g, 0, none⟩) (L j).length cap) ∧ W5.heap.size + 2 ≤ g ∧ wr.heap[g]? = some (.cells cur 3) ∧ cur.toList.take (L j).length = (L j).map (Value.int .i64) := fun j => by
    by_cases hj : j < 4
    · obtain ⟨g, cap, cur, hh⟩ := h.d j hj
      exact ⟨g, cap, fun _ => ⟨cur, hh⟩⟩
    · exact ⟨0, 0, fun h => absurd h hj⟩
  let G := fun j => (hd j).choose
  let C := fun j => (hd j).choose_spec.choose
  have hGC : ∀ j, j < 4 → ∃ cur, cs[j]? = some (.slice (some ⟨G j, 0, none⟩) (L j).length (C j)) ∧ W5.heap.size + 2 ≤ G j ∧ wr.heap[G j]? = some (.cells cur 3) ∧ cur.toList.take (L j).length = (L j).map (Value.int .i64) := fun j hj => (hd j).choose_spec.choose_spec hj
  refine ⟨G, C, HC.mod h.m, ?_, fun j hj => ?_⟩
  · rw [h.c]
    congr 2
    apply Array.ext
    · rw [h.z]; rfl
    · intro i hi _
      rw [h.z] at hi
      obtain ⟨cur, e, _⟩ := hGC i hi
      rw [Array.getElem?_eq_getElem (by rw [h.z]; exact hi)] at e
      have e' := Option.some.inj e
      rw [e']
      rcases (by omega : i = 0 ∨ i = 1 ∨ i = 2 ∨ i = 3) with rfl | rfl | rfl | rfl <;> rfl
  · obtain ⟨cur, _, _, hb, ht⟩ := hGC j hj
    exact ints_copied hb ht (by have := hL j; omega)

set_option maxRecDepth 100000 in
set_option maxHeartbeats 16000000 in
theorem owns_ok (p : Ply) (s : Edg) (a1 b1 c1 : Option Addr) (es ts hs : List Edg) (ca cb cc : Nat) (w : World) (L : Nat → List Int) (er1 er2 : Int) (hn : es.length ≤ 50) (hm : ts.length ≤ 6) (hk : hs.length ≤ 6)
    (na : a1 = none → ca = 0) (nb : b1 = none → cb = 0) (nc : c1 = none → cc = 0) (HE : Hold (EdgesAt w a1 es ∧ EdgesAt w b1 ts ∧ EdgesAt w c1 hs)) (HL : Hold (∀ j, (L j).length ≤ 1000))
    (HM : Hold (∀ w, EdgesAt w a1 es → Calls Try.prog 24 #[plV p, edV s, .slice a1 es.length ca] w (TwoOut (L 0) (L 1) er1 w)))
    (HP : Hold (∀ w, EdgesAt w b1 ts → EdgesAt w c1 hs → Calls Try.prog 26 #[plV p, .slice b1 ts.length cb, .slice c1 hs.length cc] w (TwoOut (L 2) (L 3) er2 w))) :
    Calls Try.prog 14 #[plV p, edV s, .slice a1 es.length ca, .slice b1 ts.length cb, .slice c1 hs.length cc] w fun e w' => e = .returned (.bool true) ∧ Mod noB w w' := by
  have HF := Hold.mk (ok2_kept p s w)
  go_enter Try.func14, Try.ntmps14
  have K0 := Hold.mk trivial
  go_wp2_with (first
    | (at_builtin; have Kx := K0; refine append_edges rfl (.tmp 47) (.tmp 48) rfl (w.heap.size + 1 + 1) rfl (by rw [allocL3]; exact allocL_at _ w 2 _ rfl) a1 es es.length ca rfl rfl na (HE.out.1.mod ((((Mod.refl noB w).alloc _).alloc _).alloc _)) (by omega) ?_; intro a2 ca2 wa hx hM; have hMa := ok2_next (wa := (w.alloc (.cells (plC p) 25)).alloc (.cells (edC s) 27)) HF.out (hM.wider fun i h1 h2 => by simpa using h2); replace HF := Hold.mk (HF.out.later hMa); have HX := Hold.mk hx; clear hx hM hMa K0 Kx; have K1 := Hold.mk trivial)
    | (at_builtin; have Kx := K1; refine append_edges rfl (.tmp 50) (.tmp 51) rfl wa.heap.size rfl (World.alloc_heap_new _ _) b1 ts ts.length cb rfl rfl nb (HE.out.2.1.mod (HF.out.now.1.1.alloc _)) (by omega) ?_; intro b2 cb2 wb hy hM; have hMb := ok2_next HF.out hM; replace HF := Hold.mk (HF.out.later hMb); have HY := Hold.mk hy; replace HX := Hold.mk (HX.out.mod hMb); clear hy hM hMb K1 Kx; have K2 := Hold.mk trivial)
    | (at_builtin; have Kx := K2; refine append_edges rfl (.tmp 53) (.tmp 54) rfl wb.heap.size rfl (World.alloc_heap_new _ _) c1 hs hs.length cc rfl rfl nc (HE.out.2.2.mod (HF.out.now.1.1.alloc _)) (by omega) ?_; intro c2 cc2 w3 hz hM; have hMc := ok2_next HF.out hM; replace HF := Hold.mk (HF.out.later hMc); have HC : Hold (Copies p s w a1 b1 c1 a2 b2 c2 es ts hs w3) := ⟨⟨HF.out.now, HE.out.1.mod HF.out.now.1.1, HE.out.2.1.mod HF.out.now.1.1, HE.out.2.2.mod HF.out.now.1.1, HX.out.mod hMc, HY.out.mod hMc, hz⟩⟩; clear hz hM hMc K2 Kx HX HY HE; obtain ⟨p0, p1, p2, p3, p4⟩ := PlayAt.of HC.out.o.1.2; have hp := at_ltW HC.out.o.1.2; obtain ⟨s0, s1, s2, s3, s4, s5, s6⟩ := EdgeAt.of HC.out.o.2; have hs' := at_ltW HC.out.o.2)
    | (go_at_call 24; refine (HM.out _ HC.out.a).mono ?_; rintro e w4 ⟨v0, v1, rfl, i0, i1, d01, hM⟩; obtain ⟨x0, n0, rfl⟩ := own_sliceW i0; obtain ⟨x1, n1, rfl⟩ := own_sliceW i1; clear p0 p1 p2 p3 p4 hp s0 s1 s2 s3 s4 s5 s6 hs'; have HC4 := Hold.mk (HC.out.mod hM); have I4 := Hold.mk (And.intro i0 (And.intro i1 (And.intro d01 hM))); clear i0 i1 d01 hM; obtain ⟨p0, p1, p2, p3, p4⟩ := PlayAt.of HC4.out.o.1.2; have hp := at_ltW HC4.out.o.1.2)
    | (go_at_call 26; refine (HP.out _ HC4.out.b HC4.out.c).mono ?_; rintro e W5 ⟨v2, v3, rfl, i2, i3, d23, hM⟩; obtain ⟨x2, n2, rfl⟩ := own_sliceW i2; obtain ⟨x3, n3, rfl⟩ := own_sliceW i3; clear p0 p1 p2 p3 p4 hp; have I5 := Hold.mk (And.intro i2 (And.intro i3 (And.intro d23 hM))); have HC5 := Hold.mk (HC4.out.mod hM); clear i2 i3 d23 hM))
  have HW0 : Hold (w3.heap.size ≤ w4.heap.size ∧ w4.heap.size ≤ W5.heap.size) := ⟨I4.out.2.2.2.size, I5.out.2.2.2.size⟩
  obtain ⟨V, hV⟩ : ∃ V : Nat → Value, V = fun j => if j = 0 then .slice x0 (L 0).length n0 else if j = 1 then .slice x1 (L 1).length n1 else if j = 2 then .slice x2 (L 2).length n2 else .slice x3 (L 3).length n3 := ⟨_, rfl⟩
  have HA : Hold (OApart w3 W5 V) := ⟨by
    have O4 := I4.out; have O5 := I5.out; have OW := HW0.out
    have b0 := fun r hr => And.intro (own_ge O4.1 (r := r) hr) (own_lt O4.1 (r := r) hr)
    have b1 := fun r hr => And.intro (own_ge O4.2.1 (r := r) hr) (own_lt O4.2.1 (r := r) hr)
    have b2 := fun r hr => And.intro (own_ge O5.1 (r := r) hr) (own_lt O5.1 (r := r) hr)
    have b3 := fun r hr => And.intro (own_ge O5.2.1 (r := r) hr) (own_lt O5.2.1 (r := r) hr)
    have e0 : V 0 = .slice x0 (L 0).length n0 := by rw [hV]; rfl
    have e1 : V 1 = .slice x1 (L 1).length n1 := by rw [hV]; rfl
    have e2 : V 2 = .slice x2 (L 2).length n2 := by rw [hV]; rfl
    have e3 : V 3 = .slice x3 (L 3).length n3 := by rw [hV]; rfl
    refine ⟨by omega, ?_, ?_⟩
    · intro j hj r hr
      rcases (by omega : j = 0 ∨ j = 1 ∨ j = 2 ∨ j = 3) with rfl | rfl | rfl | rfl
      · rw [e0] at hr; have := b0 r hr; omega
      · rw [e1] at hr; have := b1 r hr; omega
      · rw [e2] at hr; have := b2 r hr; omega
      · rw [e3] at hr; have := b3 r hr; omega
    · intro j k hj hk hjk r hr hr2
      have n01 := O4.2.2.1
      have n23 := O5.2.2.1
      rcases (by omega : j = 0 ∨ j = 1 ∨ j = 2 ∨ j = 3) with rfl | rfl | rfl | rfl <;> rcases (by omega : k = 0 ∨ k = 1 ∨ k = 2 ∨ k = 3) with rfl | rfl | rfl | rfl <;>
        first | exact absurd rfl hjk | skip
      all_goals simp only [e0, e1, e2, e3] at hr hr2
      all_goals first
        | exact n01 r hr hr2
        | exact n01 r hr2 hr
        | exact n23 r hr hr2
        | exact n23 r hr2 hr
        | (have := b0 r hr; have := b2 r hr2; omega)
        | (have := b0 r hr; have := b3 r hr2; omega)
        | (have := b1 r hr; have := b2 r hr2; omega)
        | (have := b1 r hr; have := b3 r hr2; omega)
        | (have := b2 r hr; have := b0 r hr2; omega)
        | (have := b3 r hr; have := b0 r hr2; omega)
        | (have := b2 r hr; have := b1 r hr2; omega)
        | (have := b3 r hr; have := b1 r hr2; omega)⟩
  have HI : Hold (OInv w3 W5 V L 0 #[.slice none 0 0, .slice none 0 0, .slice none 0 0, .slice none 0 0] ((W5.alloc (.cells #[.slice none 0 0, .slice none 0 0, .slice none 0 0, .slice none 0 0] 81)).alloc (.cells #[.slice x0 (L 0).length n0, .slice x1 (L 1).length n1, .slice x2 (L 2).length n2, .slice x3 (L 3).length n3] 43))) := ⟨by
    have O4 := I4.out; have O5 := I5.out; have OW := HW0.out
    have hmm : Mod noB W5 ((W5.alloc (.cells #[.slice none 0 0, .slice none 0 0, .slice none 0 0, .slice none 0 0] 81)).alloc (.cells #[.slice x0 (L 0).length n0, .slice x1 (L 1).length n1, .slice x2 (L 2).length n2, .slice x3 (L 3).length n3] 43)) := ((Mod.refl noB W5).alloc _).alloc _
    refine ⟨O4.2.2.2.trans (O5.2.2.2.trans hmm), by simp, ?_, ?_, rfl, fun j hj => absurd hj (Nat.not_lt_zero _), ?_⟩
    · rw [allocL2, hV]; exact allocL_at _ W5 1 _ rfl
    · rw [allocL2]; exact allocL_at _ W5 0 _ rfl
    · intro j _ hj
      rcases (by omega : j = 0 ∨ j = 1 ∨ j = 2 ∨ j = 3) with rfl | rfl | rfl | rfl
      · rw [hV]; exact own_mod O4.1 (O5.2.2.2.trans hmm)
      · rw [hV]; exact own_mod O4.2.1 (O5.2.2.2.trans hmm)
      · rw [hV]; exact own_mono (own_mod O5.1 hmm) (by omega)
      · rw [hV]; exact own_mono (own_mod O5.2.1 hmm) (by omega)⟩
  clear hV I4 I5 HC5 HC4
  go_loopw [78] (fun i wr => ∃ (k : Nat) (cs : Array Value), k ≤ 4 ∧ i = .int .i64 k ∧ Hold (OInv w3 W5 V L k cs wr)) (fun i _ => 4 - (intOf i).toNat)
  case atStart => exact ⟨0, _, by omega, rfl, HI⟩
  case round =>
    clear HI
    obtain ⟨k, cs, hk4, rfl, HI⟩ := hrel
    by_cases hlt : k < 4
    · have hsz := HI.out.n
      have hcs := HI.out.z
      have hsA : wr.cell? ⟨W5.heap.size + 1, k, none⟩ = some (V k) := by rw [cellsAt HI.out.s k]; exact four_at V hlt
      have hT := HI.out.t k (Nat.le_refl _) hlt
      have hfr := cells_frozen HI.out.c k
      have hcc : ∃ u, wr.cell? ⟨W5.heap.size, k, none⟩ = some u := ⟨cs[k]'(by omega), by rw [cellsAt HI.out.c k]; exact Array.getElem?_eq_getElem (by omega)⟩
      obtain ⟨u, hcc⟩ := hcc
      have hlc := at_ltW HI.out.c
      have hls := at_ltW HI.out.s
      have HT := Hold.mk hT
      rcases hT.2 with ⟨hv, h0⟩ | ⟨gk, capk, curk, hv, hbk, hgk, hrk⟩
      · rw [hv] at hsA
        have hl0 : (L k).length = 0 := h0
        clear hT
        go_wp2_with (at_builtin; refine append_ints rfl (.tmp 84) (.tmp 85) rfl wr.heap.size rfl (World.alloc_heap_new _ _) (L k) (V k) w3.heap.size (HT.out.alloc _) hv.symm (HL.out k) ?_; intro g' cap' cur wz hg' hbz hpz hMz; have HZ := Hold.mk (And.intro hg' (And.intro hbz (And.intro hpz (app_next hMz)))); have hccz := (cell_same ((app_next hMz).block _ hlc id) k).trans hcc; have hfrz := cells_frozen ((app_next hMz).at HI.out.c id) k; have hlcz := at_ltW ((app_next hMz).at HI.out.c id); clear hg' hbz hpz hMz)
        clear hccz hfrz hlcz
        go_loopw [90] (fun i wy => i = .int .i64 0 ∧ Hold (Mod (fun b => (V k).ownBlock = some b) (wz.setCell ⟨W5.heap.size, k, none⟩ (.slice (some ⟨g', 0, none⟩) (L k).length cap')) wy)) (fun _ _ => 0)
        case atStart => exact ⟨rfl, ⟨by first | exact Mod.refl _ _ | (rw [hl0]; exact Mod.refl _ _)⟩⟩
        case round =>
          obtain ⟨rfl, HY⟩ := hrel
          go_wp2_with fail
          go_roundw
          case rel => exact ⟨k + 1, _, by omega, by go_num, ⟨store_next HI.out HA.out hlt HZ.out.2.2.2 HZ.out.1 HZ.out.2.1 HZ.out.2.2.1 HY.out⟩⟩
          case measure => simp [intOf]; omega
      · rw [hv] at hsA
        have hLk := HL.out k
        clear hT
        go_wp2_with (at_builtin; refine append_ints rfl (.tmp 84) (.tmp 85) rfl wr.heap.size rfl (World.alloc_heap_new _ _) (L k) (V k) w3.heap.size (HT.out.alloc _) hv.symm (HL.out k) ?_; intro g' cap' cur wz hg' hbz hpz hMz; have HZ := Hold.mk (And.intro hg' (And.intro hbz (And.intro hpz (app_next hMz)))); have hccz := (cell_same ((app_next hMz).block _ hlc id) k).trans hcc; have hfrz := cells_frozen ((app_next hMz).at HI.out.c id) k; have hlcz := at_ltW ((app_next hMz).at HI.out.c id); clear hg' hbz hpz hMz)
        have HK : Hold (∃ c : Array Value, (wz.setCell ⟨W5.heap.size, k, none⟩ (.slice (some ⟨g', 0, none⟩) (L k).length cap')).heap[gk]? = some (.cells c 3) ∧ (L k).length ≤ c.size) := ⟨by
          have hlt2 := (HA.out.b k hlt gk (by rw [hv]; rfl)).2
          exact ⟨curk, set_other (HZ.out.2.2.2.at hgk id) (by omega), by have h1 := hrk.1; have h2 := hrk.2.2.1; omega⟩⟩
        clear hccz hfrz hlcz hcc hfr hlc hls hcs hsA hsz hrk hgk hbk
        go_loopw [90] (fun i wy => ∃ m : Nat, m ≤ (L k).length ∧ i = .int .i64 m ∧ Hold (Mod (fun b => (V k).ownBlock = some b) (wz.setCell ⟨W5.heap.size, k, none⟩ (.slice (some ⟨g', 0, none⟩) (L k).length cap')) wy) ∧ Hold (∃ c : Array Value, wy.heap[gk]? = some (.cells c 3) ∧ (L k).length ≤ c.size)) (fun i _ => (L k).length - (intOf i).toNat)
        case atStart => exact ⟨0, Nat.zero_le _, rfl, ⟨Mod.refl _ _⟩, HK⟩
        case round =>
          clear HK
          obtain ⟨m, hm2, rfl, HY, HK⟩ := hrel
          obtain ⟨c, hc, hcz⟩ := HK.out
          by_cases hml : m < (L k).length
          · have f0 := cells_frozen hc m
            have c0 : ∃ u, wr.cell? ⟨gk, m, none⟩ = some u := ⟨c[m]'(by omega), by rw [cellsAt hc m]; exact Array.getElem?_eq_getElem (by omega)⟩
            obtain ⟨u0, c0⟩ := c0
            have l0 := at_ltW hc
            have HC2 := Hold.mk hc
            clear hc HK
            go_wp2_with fail
            go_roundw
            case rel => exact ⟨m + 1, by omega, by go_num, ⟨HY.out.setCell (fun _ => by rw [hv]; rfl) _⟩, ⟨_, set_same HC2.out rfl, by simpa using hcz⟩⟩
            case measure => simp [intOf]; omega
          · obtain rfl : m = (L k).length := by omega
            clear hc HK
            go_wp2_with fail
            go_roundw
            case rel => exact ⟨k + 1, _, by omega, by go_num, ⟨store_next HI.out HA.out hlt HZ.out.2.2.2 HZ.out.1 HZ.out.2.1 HZ.out.2.2.1 HY.out⟩⟩
            case measure => simp [intOf]; omega
    · obtain rfl : k = 4 := by omega
      obtain ⟨G, C, hFin⟩ := fin_of HC.out HI.out HL.out
      have HB := Hold.mk hFin
      clear hFin HI HA HW0
      generalize W5.heap.size = BK at *
      obtain ⟨p0, p1, p2, p3, p4⟩ := PlayAt.of HB.out.c.o.1.2; have hp := at_ltW HB.out.c.o.1.2
      obtain ⟨s0, s1, s2, s3, s4, s5, s6⟩ := EdgeAt.of HB.out.c.o.2; have hs' := at_ltW HB.out.c.o.2
      go_wp2_with (first
        | (go_at_call 24; refine (HM.out _ HB.out.c.a).mono ?_; intro e w6 hh; obtain ⟨a6, c6, a7, c7, rfl, i6, i7, hM⟩ := two_at hh (by have := HL.out 0; omega) (by have := HL.out 1; omega); clear hh; clear p0 p1 p2 p3 p4 hp s0 s1 s2 s3 s4 s5 s6 hs'; replace HB := Hold.mk (HB.out.mod hM); have HI6 := Hold.mk (And.intro i6 i7); clear i6 i7 hM; obtain ⟨p0, p1, p2, p3, p4⟩ := PlayAt.of HB.out.c.o.1.2; have hp := at_ltW HB.out.c.o.1.2)
        | (go_at_call 26; refine (HP.out _ HB.out.c.b HB.out.c.c).mono ?_; intro e w7 hh; obtain ⟨a8, c8, a9, c9, rfl, i8, i9, hM⟩ := two_at hh (by have := HL.out 2; omega) (by have := HL.out 3; omega); clear hh; clear p0 p1 p2 p3 p4 hp; replace HB := Hold.mk (HB.out.mod hM); have HI67 := Hold.mk (And.intro (HI6.out.1.mod hM) (And.intro (HI6.out.2.mod hM) (And.intro i8 i9))); clear i8 i9 hM HI6))
      generalize w7 = wA at *
      go_loopw [116] (fun i wr => ∃ k : Nat, k ≤ es.length ∧ i = .int .i64 k ∧ Hold (Mod noB wA wr)) (fun i _ => es.length - (intOf i).toNat)
      case atStart => exact ⟨0, Nat.zero_le _, rfl, ⟨Mod.refl _ _⟩⟩
      case round =>
        obtain ⟨k, hk, rfl, HMR⟩ := hrel
        by_cases hlt : k < es.length
        · obtain ⟨x, hx⟩ : ∃ x, es[k]? = some x := ⟨_, List.getElem?_eq_getElem hlt⟩
          obtain ⟨b, off, rfl, hb1, hc1⟩ := (HB.out.c.x.mod HMR.out).lies (fun e => by simp [e] at hlt)
          obtain ⟨b', off', rfl, hb2, hc2⟩ := (HB.out.c.a.mod HMR.out).lies (fun e => by simp [e] at hlt)
          obtain ⟨q0, q1, q2, q3, q4, q5, q6⟩ := hc1 _ x hx
          obtain ⟨r0, r1, r2, r3, r4, r5, r6⟩ := hc2 _ x hx
          clear hc1 hc2 hx
          go_wp2_with fail
          go_region
          go_wp2_with fail
          go_roundw
          case rel => exact ⟨k + 1, by omega, by go_num, ⟨HMR.out.drew⟩⟩
          case measure => simp [intOf]; omega
        · obtain rfl : k = es.length := by omega
          replace HB := Hold.mk (HB.out.mod HMR.out)
          replace HI67 := Hold.mk (And.intro (HI67.out.1.mod HMR.out) (And.intro (HI67.out.2.1.mod HMR.out) (And.intro (HI67.out.2.2.1.mod HMR.out) (HI67.out.2.2.2.mod HMR.out))))
          clear HMR
          go_wp2_with fail
          generalize wr = wB at *
          go_loopw [131] (fun i wr => ∃ k : Nat, k ≤ ts.length ∧ i = .int .i64 k ∧ Hold (Mod noB wB wr)) (fun i _ => ts.length - (intOf i).toNat)
          case atStart => exact ⟨0, Nat.zero_le _, rfl, ⟨Mod.refl _ _⟩⟩
          case round =>
            obtain ⟨k, hk, rfl, HMR⟩ := hrel
            by_cases hlt : k < ts.length
            · obtain ⟨x, hx⟩ : ∃ x, ts[k]? = some x := ⟨_, List.getElem?_eq_getElem hlt⟩
              obtain ⟨b, off, rfl, hb1, hc1⟩ := (HB.out.c.y.mod HMR.out).lies (fun e => by simp [e] at hlt)
              obtain ⟨b', off', rfl, hb2, hc2⟩ := (HB.out.c.b.mod HMR.out).lies (fun e => by simp [e] at hlt)
              obtain ⟨q0, q1, q2, q3, q4, q5, q6⟩ := hc1 _ x hx
              obtain ⟨r0, r1, r2, r3, r4, r5, r6⟩ := hc2 _ x hx
              clear hc1 hc2 hx
              go_wp2_with fail
              go_region
              go_wp2_with fail
              go_roundw
              case rel => exact ⟨k + 1, by omega, by go_num, ⟨HMR.out.drew⟩⟩
              case measure => simp [intOf]; omega
            · obtain rfl : k = ts.length := by omega
              replace HB := Hold.mk (HB.out.mod HMR.out)
              replace HI67 := Hold.mk (And.intro (HI67.out.1.mod HMR.out) (And.intro (HI67.out.2.1.mod HMR.out) (And.intro (HI67.out.2.2.1.mod HMR.out) (HI67.out.2.2.2.mod HMR.out))))
              clear HMR
              go_wp2_with fail
              generalize wr = wC at *
              go_loopw [146] (fun i wr => ∃ k : Nat, k ≤ hs.length ∧ i = .int .i64 k ∧ Hold (Mod noB wC wr)) (fun i _ => hs.length - (intOf i).toNat)
              case atStart => exact ⟨0, Nat.zero_le _, rfl, ⟨Mod.refl _ _⟩⟩
              case round =>
                obtain ⟨k, hk, rfl, HMR⟩ := hrel
                by_cases hlt : k < hs.length
                · obtain ⟨x, hx⟩ : ∃ x, hs[k]? = some x := ⟨_, List.getElem?_eq_getElem hlt⟩
                  obtain ⟨b, off, rfl, hb1, hc1⟩ := (HB.out.c.z.mod HMR.out).lies (fun e => by simp [e] at hlt)
                  obtain ⟨b', off', rfl, hb2, hc2⟩ := (HB.out.c.c.mod HMR.out).lies (fun e => by simp [e] at hlt)
                  obtain ⟨q0, q1, q2, q3, q4, q5, q6⟩ := hc1 _ x hx
                  obtain ⟨r0, r1, r2, r3, r4, r5, r6⟩ := hc2 _ x hx
                  clear hc1 hc2 hx
                  go_wp2_with fail
                  go_region
                  go_wp2_with fail
                  go_roundw
                  case rel => exact ⟨k + 1, by omega, by go_num, ⟨HMR.out.drew⟩⟩
                  case measure => simp [intOf]; omega
                · obtain rfl : k = hs.length := by omega
                  replace HB := Hold.mk (HB.out.mod HMR.out)
                  replace HI67 := Hold.mk (And.intro (HI67.out.1.mod HMR.out) (And.intro (HI67.out.2.1.mod HMR.out) (And.intro (HI67.out.2.2.1.mod HMR.out) (HI67.out.2.2.2.mod HMR.out))))
                  clear HMR
                  have K0 := Hold.mk trivial
                  have k0 := cellsAt HB.out.k 0; have k1 := cellsAt HB.out.k 1; have k2 := cellsAt HB.out.k 2; have k3 := cellsAt HB.out.k 3; have hkl := at_ltW HB.out.k
                  go_wp2_with (first
                    | (go_at_call 28; have Kx := K0; refine (callInts _ _ (L 0) _ _ _ _ rfl rfl _ HI67.out.1 (HB.out.i 0 (by omega))).mono ?_; rintro e w10 ⟨rfl, hM⟩; clear k0 k1 k2 k3 hkl; replace HB := Hold.mk (HB.out.mod hM); replace HI67 := Hold.mk (And.intro (HI67.out.1.mod hM) (And.intro (HI67.out.2.1.mod hM) (And.intro (HI67.out.2.2.1.mod hM) (HI67.out.2.2.2.mod hM)))); have k0 := cellsAt HB.out.k 0; have k1 := cellsAt HB.out.k 1; have k2 := cellsAt HB.out.k 2; have k3 := cellsAt HB.out.k 3; have hkl := at_ltW HB.out.k; clear hM Kx K0; have K1 := Hold.mk trivial)
                    | (go_at_call 28; have Kx := K1; refine (callInts _ _ (L 1) _ _ _ _ rfl rfl _ HI67.out.2.1 (HB.out.i 1 (by omega))).mono ?_; rintro e w11 ⟨rfl, hM⟩; clear k0 k1 k2 k3 hkl; replace HB := Hold.mk (HB.out.mod hM); replace HI67 := Hold.mk (And.intro (HI67.out.1.mod hM) (And.intro (HI67.out.2.1.mod hM) (And.intro (HI67.out.2.2.1.mod hM) (HI67.out.2.2.2.mod hM)))); have k0 := cellsAt HB.out.k 0; have k1 := cellsAt HB.out.k 1; have k2 := cellsAt HB.out.k 2; have k3 := cellsAt HB.out.k 3; have hkl := at_ltW HB.out.k; clear hM Kx K1; have K2 := Hold.mk trivial)
                    | (go_at_call 28; have Kx := K2; refine (callInts _ _ (L 2) _ _ _ _ rfl rfl _ HI67.out.2.2.1 (HB.out.i 2 (by omega))).mono ?_; rintro e w12 ⟨rfl, hM⟩; clear k0 k1 k2 k3 hkl; replace HB := Hold.mk (HB.out.mod hM); replace HI67 := Hold.mk (And.intro (HI67.out.1.mod hM) (And.intro (HI67.out.2.1.mod hM) (And.intro (HI67.out.2.2.1.mod hM) (HI67.out.2.2.2.mod hM)))); have k0 := cellsAt HB.out.k 0; have k1 := cellsAt HB.out.k 1; have k2 := cellsAt HB.out.k 2; have k3 := cellsAt HB.out.k 3; have hkl := at_ltW HB.out.k; clear hM Kx K2; have K3 := Hold.mk trivial)
                    | (go_at_call 28; have Kx := K3; refine (callInts _ _ (L 3) _ _ _ _ rfl rfl _ HI67.out.2.2.2 (HB.out.i 3 (by omega))).mono ?_; rintro e w13 ⟨rfl, hM⟩; clear k0 k1 k2 k3 hkl; replace HB := Hold.mk (HB.out.mod hM); replace HI67 := Hold.mk (And.intro (HI67.out.1.mod hM) (And.intro (HI67.out.2.1.mod hM) (And.intro (HI67.out.2.2.1.mod hM) (HI67.out.2.2.2.mod hM)))); have k0 := cellsAt HB.out.k 0; have k1 := cellsAt HB.out.k 1; have k2 := cellsAt HB.out.k 2; have k3 := cellsAt HB.out.k 3; have hkl := at_ltW HB.out.k; clear hM Kx K3; have K4 := Hold.mk trivial)
                    | (go_at_call 21; refine (alive_any _).mono ?_; rintro e w9 ⟨rfl, hM⟩; replace HB := Hold.mk (HB.out.mod hM); clear hM))
                  go_ret
                  exact ⟨rfl, HB.out.c.o.1.1⟩
end Go.Proofs.Ytnjbamikfjdofaa

/- Lists of one's own; the sum of spreads. -/
import Derived.Test.YtknbcmildpmokaaScF
import Derived.Maps.AppendAt
import Derived.Maps.OwnIn
import Derived.Stop.RegionWithIn
set_option linter.unusedSimpArgs false
set_option linter.unusedVariables false
namespace Go.Proofs.Ytknbcmildpmokaa
open Go.RowKit Go.Shelf


theorem own_same {base n sz : Nat} {e : TypeId} {w w' : World} {v : Value} {xs : List Value} (h : w.ownsRow base e sz v n xs) (hs : ∀ r, v.ownBlock = some r → w'.heap[r]? = w.heap[r]?) : w'.ownsRow base e sz v n xs := by
  obtain ⟨h1, h2 | ⟨g, cap, cur, hv, hb, hh, hr⟩⟩ := h
  · exact ⟨h1, .inl h2⟩
  · exact ⟨h1, .inr ⟨g, cap, cur, hv, hb, (hs g (by rw [hv]; rfl)).trans hh, hr⟩⟩
theorem own_block {base n sz : Nat} {e : TypeId} {w : World} {v : Value} {xs : List Value} (h : w.ownsRow base e sz v n xs) {r : Nat} (hr : v.ownBlock = some r) : base ≤ r ∧ r < w.heap.size := by
  obtain ⟨_, ⟨rfl, _⟩ | ⟨g, cap, cur, rfl, hb, hh, _⟩⟩ := h
  · cases hr
  · have : some g = some r := hr
    cases this
    exact ⟨hb, at_ltS hh⟩
theorem own_form {base n sz : Nat} {e : TypeId} {w : World} {v : Value} {xs : List Value} (h : w.ownsRow base e sz v n xs) : ∃ ao cap, v = .slice ao n cap := by
  obtain ⟨_, ⟨rfl, h2⟩ | ⟨g, cap, cur, hv, _⟩⟩ := h
  · exact ⟨none, 0, by rw [h2]⟩
  · exact ⟨_, _, hv⟩
theorem info_parts {T : Nat} {z : Value} {size bytes : Nat} (h : (Try.prog.info? T).map (fun i => (i.zero, i.size, i.bytes)) = some (some z, size, bytes)) : ∃ i, Try.prog.info? T = some i ∧ i.zero = some z ∧ i.size = size ∧ i.bytes = bytes := by
  cases h0 : Try.prog.info? T with
  | none => rw [h0] at h; cases h
  | some i =>
    rw [h0] at h
    simp only [Option.map_some, Option.some.injEq, Prod.mk.injEq] at h
    exact ⟨i, rfl, h.1, h.2.1, h.2.2⟩
theorem info78 : (Try.prog.info? 78).map (fun i => (i.zero, i.size, i.bytes)) = some (some (spV (0, 0)), 2, 16) := by kernel_rfl
theorem info77 : (Try.prog.info? 77).map (fun i => (i.zero, i.size, i.bytes)) = some (some (liV []), 4, 32) := by kernel_rfl

/-- A list of things, as cells. -/
def flatC {α : Type} (cs : α → Array Value) (l : List α) : List Value := l.flatMap fun x => (cs x).toList
theorem flatC_snoc {α : Type} (cs : α → Array Value) (l : List α) (x : α) : flatC cs (l ++ [x]) = flatC cs l ++ (cs x).toList := by simp [flatC]
theorem flatC_len {α : Type} {cs : α → Array Value} {sz : Nat} (hs : ∀ x, (cs x).size = sz) (l : List α) : (flatC cs l).length = l.length * sz := by
  induction l with
  | nil => simp [flatC]
  | cons x l ih =>
    have : flatC cs (x :: l) = (cs x).toList ++ flatC cs l := by simp [flatC]
    rw [this, List.length_append, ih, Array.length_toList, hs, List.length_cons, Nat.succ_mul]
    omega
theorem flatC_at {α : Type} {cs : α → Array Value} {sz : Nat} (hs : ∀ x, (cs x).size = sz) : ∀ (l : List α) (k : Nat) (x : α), l[k]? = some x → ∀ j, j < sz → (flatC cs l)[k * sz + j]? = (cs x)[j]? := by
  intro l
  induction l with
  | nil => intro k x h; simp at h
  | cons y l ih =>
    intro k x h j hj
    have : flatC cs (y :: l) = (cs y).toList ++ flatC cs l := by simp [flatC]
    rw [this]
    cases k with
    | zero =>
      have : y = x := by simpa using h
      subst this
      rw [List.getElem?_append_left (by rw [Array.length_toList, hs]; omega), Nat.zero_mul, Nat.zero_add, Array.getElem?_toList]
    | succ k =>
      have h' : l[k]? = some x := by simpa using h
      rw [List.getElem?_append_right (by rw [Array.length_toList, hs, Nat.succ_mul]; omega), Array.length_toList, hs]
      have := ih k x h' j hj
      rw [← this]
      congr 1
      rw [Nat.succ_mul]
      omega
/-- A list of one's own reads as a list. -/
theorem own_list {α : Type} {cs : α → Array Value} {sz : Nat} (hs : ∀ x, (cs x).size = sz) {w : World} {base : Nat} {e : TypeId} {v : Value} {l : List α} (h : w.ownsRow base e sz v l.length (flatC cs l)) (hl : l.length ≤ 1000000000000) : ∃ ao cap, v = .slice ao l.length cap ∧ ListAt w.heap.size w sz cs ao l ∧ (l ≠ [] → ∃ g, ao = some ⟨g, 0, none⟩ ∧ base ≤ g ∧ g < w.heap.size) := by
  obtain ⟨_, ⟨rfl, h2⟩ | ⟨g, cap, cur, rfl, hb, hg, h1, _, h2, h3⟩⟩ := h
  · have : l = [] := List.length_eq_zero_iff.1 h2
    subst this
    exact ⟨none, 0, rfl, ListAt.nilL _ _ _ _ _, fun h => absurd rfl h⟩
  · refine ⟨_, cap, rfl, ⟨fun hne => ⟨g, 0, rfl, at_ltS hg, fun k x hx j hj => ?_⟩, hl⟩, fun _ => ⟨g, rfl, hb, at_ltS hg⟩⟩
    have e0 := flatC_at hs l k x hx j hj
    have hk := (List.getElem?_eq_some_iff.1 hx).1
    have hlt : k * sz + j < l.length * sz := by
      have : (k + 1) * sz ≤ l.length * sz := Nat.mul_le_mul_right _ hk
      rw [Nat.succ_mul] at this
      omega
    rw [← h3, List.getElem?_take_of_lt hlt, Array.getElem?_toList] at e0
    rw [cellsAt hg, Nat.zero_add]
    exact e0
theorem new_cells (w : World) (cs : Array Value) (t : TypeId) : ∀ (j : Nat) (u : Value), cs.toList[j]? = some u → (w.alloc (.cells cs t)).cell? (Addr.add ⟨w.heap.size, 0, none⟩ j) = some u := fun j u hj => by
  have hnw := World.alloc_heap_new w (.cells cs t)
  have ea : Addr.add ⟨w.heap.size, 0, none⟩ j = ⟨w.heap.size, j, none⟩ := by simp [Addr.add]; omega
  rw [ea, cellsAt hnw, ← Array.getElem?_toList]
  exact hj
theorem sp_cells {W : World} {b : Nat} {s : Int × Int} {t : TypeId} (h : W.heap[b]? = some (.cells (spC s) t)) : W.cell? ⟨b, 0, none⟩ = some (.int .i64 s.1) ∧ W.cell? ⟨b, 1, none⟩ = some (.int .i64 s.2) := ⟨cellsAt h 0, cellsAt h 1⟩
theorem li_cells {W : World} {b : Nat} {l : List Int} {t : TypeId} (h : W.heap[b]? = some (.cells (liC l) t)) : W.cell? ⟨b, 0, none⟩ = some (.int .i64 (l[0]?.getD 0)) ∧ W.cell? ⟨b, 1, none⟩ = some (.int .i64 (l[1]?.getD 0)) ∧ W.cell? ⟨b, 2, none⟩ = some (.int .i64 (l[2]?.getD 0)) ∧ W.cell? ⟨b, 3, none⟩ = some (.int .i64 (l[3]?.getD 0)) := ⟨cellsAt h 0, cellsAt h 1, cellsAt h 2, cellsAt h 3⟩
theorem sp_one (s : Int × Int) : (spC s).all (·.oneCell') = true := by simp [Value.oneCell']
theorem li_one (l : List Int) : (liC l).all (·.oneCell') = true := by simp [Value.oneCell']
theorem info78u : (Try.prog.info? 78).map (·.size) = some 2 := by kernel_rfl
theorem info77u : (Try.prog.info? 77).map (·.size) = some 4 := by kernel_rfl

/-! ### The sum -/
theorem sumP_snoc (a : Int × Int) (l : List (Int × Int)) (x : Int × Int) : sumP a (l ++ [x]) = plusP (sumP a l) x := by simp [sumP]
theorem sumP_small {a : Int × Int} {m c : Int} (ha : Small m a) : ∀ (l : List (Int × Int)), (∀ x ∈ l, Small c x) → Small (m + l.length * c) (sumP a l) := by
  intro l
  induction l generalizing a m with
  | nil => intro _; simpa [sumP] using ha
  | cons x l ih =>
    intro h
    have hx := h x (by simp)
    have h2 : Small (m + c) (plusP a x) := by
      obtain ⟨⟨a1, a2⟩, a3, a4⟩ := ha
      obtain ⟨⟨b1, b2⟩, b3, b4⟩ := hx
      exact ⟨⟨by simp only [plusP]; omega, by simp only [plusP]; omega⟩, by simp only [plusP]; omega, by simp only [plusP]; omega⟩
    have h3 := ih h2 (fun y hy => h y (by simp [hy]))
    have e : m + ((x :: l).length : Int) * c = m + c + (l.length : Int) * c := by
      rw [List.length_cons, Int.natCast_succ, Int.add_mul]; omega
    rw [e]
    exact h3
theorem Small.mono {m c : Int} {s : Int × Int} (h : Small m s) (hc : m ≤ c) : Small c s := by
  obtain ⟨⟨a1, a2⟩, a3, a4⟩ := h
  exact ⟨⟨by omega, by omega⟩, by omega, by omega⟩

set_option maxRecDepth 100000 in
set_option maxHeartbeats 4000000 in
theorem sum_any (B : Nat) (ao : Option Addr) (cap : Nat) (a : Int × Int) (l : List (Int × Int)) (w : World) (hB : B ≤ w.heap.size) (hs : SpansAt B w ao l) (ha : Small 10000000000 a) (hl : l.length ≤ 4) (hx : ∀ x ∈ l, Small 10000000000 x) :
    Calls Try.prog 99 #[.func (.func 100) #[] #[], spV a, .slice ao l.length cap] w fun e w' => e = .returned (spV (sumP a l)) ∧ Mod noB w w' := by
  obtain ⟨a1, a2⟩ := a
  have HS := Hold.mk hs
  have HB := Hold.mk hB
  have HA := Hold.mk ha
  have HX := Hold.mk hx
  have HE1 : Hold (((w.alloc (.cells (spC (a1, a2)) 78)).alloc (.cells (spC (0, 0)) 78)).heap[w.heap.size]? = some (.cells (spC (sumP (a1, a2) (l.take 0))) 78)) := ⟨allocL_at [_, _] w 0 _ rfl⟩
  have HE2 : Hold (((w.alloc (.cells (spC (a1, a2)) 78)).alloc (.cells (spC (0, 0)) 78)).heap[w.heap.size + 1]? = some (.cells (spC (0, 0)) 78)) := ⟨allocL_at [_, _] w 1 _ rfl⟩
  have HM0 := Hold.mk (((Mod.refl noB w).alloc (.cells (spC (a1, a2)) 78)).alloc (.cells (spC (0, 0)) 78))
  clear hs hB ha hx
  go_enter Try.func99, Try.ntmps99
  go_wp2
  go_loopw [11] (fun i wr => ∃ k : Nat, k ≤ l.length ∧ i = .int .i64 k ∧ wr.heap[w.heap.size]? = some (.cells (spC (sumP (a1, a2) (l.take k))) 78) ∧ wr.heap[w.heap.size + 1]? = some (.cells (spC (0, 0)) 78) ∧ Mod noB w wr) (fun i _ => l.length - (intOf i).toNat)
  case atStart => exact ⟨0, Nat.zero_le _, rfl, HE1.out, HE2.out, HM0.out⟩
  case round =>
    obtain ⟨k, hk, rfl, h1, h2, hmr⟩ := hrel
    have HM := Hold.mk hmr
    have hlt2 := at_ltS h2
    by_cases hlt : k < l.length
    · obtain ⟨⟨z1, z2⟩, hz⟩ : ∃ z, l[k]? = some z := ⟨_, List.getElem?_eq_getElem hlt⟩
      obtain ⟨b, off, rfl, hbB, q0, q1⟩ := (HS.out.low (Low.ofN hmr HB.out)).span hz
      have Hz := Hold.mk hz
      have HT : Hold (sumP (a1, a2) (l.take (k + 1)) = plusP (sumP (a1, a2) (l.take k)) (z1, z2)) := ⟨by
        have : l.take (k + 1) = l.take k ++ [(z1, z2)] := by rw [List.take_succ_eq_append_getElem hlt]; congr 1; have := (List.getElem?_eq_some_iff.1 hz).2; rw [this]
        rw [this, sumP_snoc]⟩
      have hsm : Small 50000000000 (sumP (a1, a2) (l.take k)) := (sumP_small HA.out _ (fun x hx' => HX.out x (List.mem_of_mem_take hx'))).mono (by rw [List.length_take]; omega)
      have HP := Hold.mk (fun w => plus_any (sumP (a1, a2) (l.take k)) (z1, z2) w (hsm.mono (by omega)) ((HX.out _ (List.mem_of_getElem? hz)).mono (by omega)))
      rw [← HT.out] at HP
      obtain ⟨W4, hW4⟩ : ∃ W4, wr.alloc (.cells #[.int .i64 z1, .int .i64 z2] 78) = W4 := ⟨_, rfl⟩
      have hm4 : Mod noB wr W4 := by rw [← hW4]; exact (Mod.refl _ _).alloc _
      have hd4 : W4.heap[wr.heap.size]? = some (.cells #[.int .i64 z1, .int .i64 z2] 78) := by rw [← hW4]; exact World.alloc_heap_new _ _
      have HF : Hold (Kept W4 (fun W => W.heap[w.heap.size]? = some (.cells (spC (sumP (a1, a2) (l.take k))) 78) ∧ W.heap[w.heap.size + 1]? = some (.cells (spC (0, 0)) 78) ∧ Mod noB w W)) := ⟨fun W h => ⟨(hm4.trans h).at h1 id, (hm4.trans h).at h2 id, hmr.trans (hm4.trans h)⟩⟩
      obtain ⟨e0, e1⟩ := sp_cells HF.out.now.1
      have d0 := cellsAt hd4 0
      have d1 := cellsAt hd4 1
      clear hz hmr hsm h1 h2 hm4 hd4
      go_wp2_with (first
        | (go_at_call 100; (try rw [hW4]); refine (HP.out _).mono ?_; rintro e w2 ⟨rfl, hM⟩; have HF2 := Hold.mk (HF.out.later hM); clear hM)
        | (refine wpList_store_row rfl 78 (.tmp 4) (.tmp 18) rfl w.heap.size (spC (sumP (a1, a2) (l.take (k + 1)))) rfl rfl 78 _ HF2.out.now.1 info78u rfl (sp_one _) ?_; rw [setRow_put HF2.out.now.1]))
      go_roundw
      case rel => exact ⟨k + 1, by omega, by go_num, World.putObj_heap_same (at_ltS HF2.out.now.1), (World.putObj_heap_other (by omega)).trans HF2.out.now.2.1, HF2.out.now.2.2.putObj (fun h => by omega) _⟩
      case measure => simp [intOf]; omega
    · obtain rfl : k = l.length := by omega
      have he : Hold (sumP (a1, a2) (l.take l.length) = sumP (a1, a2) l) := ⟨by rw [List.take_length]⟩
      rw [he.out] at h1
      have H1 := Hold.mk h1
      have H2 := Hold.mk h2
      clear h1 h2 hmr
      go_wp2_with (first
        | (refine wpList_load_row rfl 78 (.tmp 4) rfl w.heap.size rfl 78 _ (0, 0) _ H1.out Try.underlying78 rfl info78u ?_; refine wpList_store_row rfl 78 (.tmp 6) (.tmp 20) rfl (w.heap.size + 1) (spC (sumP (a1, a2) l)) rfl rfl 78 _ H2.out info78u rfl (sp_one _) ?_; rw [setRow_put H2.out]))
      have hz := World.putObj_heap_same (o := .cells (spC (sumP (a1, a2) l)) 78) (at_ltS H2.out)
      obtain ⟨r0, r1⟩ := sp_cells hz
      clear hz
      refine bodyPost_ret (v := spV (sumP (a1, a2) l)) ?_ rfl ⟨rfl, HM.out.putObj (fun h => by omega) _⟩
      simp [results, Try.results99, go_sem, *]

end Go.Proofs.Ytknbcmildpmokaa

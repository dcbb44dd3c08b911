/- The document's has and Sides; lists of lists in memory; what pairings gathers, hole by hole. -/
import Derived.Test.YtnjbamikfjdofaaRefE
import Derived.Test.YtnjbamikfjdofaaInv
import Derived.Test.YtnjbamikfjdofaaOwnsM
set_option linter.unusedSimpArgs false
set_option linter.unusedVariables false
namespace Go.Proofs.Ytnjbamikfjdofaa
open Go.RowKit Go.Shelf

set_option maxHeartbeats 2000000 in
theorem has_any (ao : Option Addr) (zs : List Int) (cap : Nat) (x : Int) (w : World) (hs : IntsAt w ao zs) :
    Calls Try.prog 89 #[.slice ao zs.length cap, .int .i64 x] w fun e w' => e = .returned (.bool (decide (x ∈ zs))) ∧ Mod noB w w' := by
  have hsm := hs.small
  have HS := Hold.mk hs
  clear hs
  go_enter Try.func89, Try.ntmps89
  go_wp2
  go_loopw [5] (fun i wr => ∃ k : Nat, k ≤ zs.length ∧ i = .int .i64 k ∧ Hold ((∀ j, j < k → zs[j]? ≠ some x) ∧ Mod noB w wr)) (fun i _ => zs.length - (intOf i).toNat)
  case atStart => exact ⟨0, Nat.zero_le _, rfl, ⟨fun j hj => absurd hj (Nat.not_lt_zero _), Mod.refl _ _⟩⟩
  case round =>
    obtain ⟨k, hk, rfl, H0⟩ := hrel
    by_cases hlt : k < zs.length
    · obtain ⟨b, off, rfl, hb, hc⟩ := (HS.out.mod H0.out.2).lies (fun e => by simp [e] at hlt)
      have c0 := hc k hlt
      have hz : zs[k]? = some (zs[k]?.getD 0) := by rw [List.getElem?_eq_getElem hlt]; rfl
      clear hc
      have HZ := Hold.mk hz
      clear hz
      generalize zs[k]?.getD 0 = z at *
      by_cases hx : z = x
      · subst hx
        go_wp2
        go_ret
        exact ⟨by rw [decide_eq_true (List.mem_of_getElem? HZ.out)]; rfl, H0.out.2⟩
      · have hx' : (z == x) = false := by simpa using hx
        go_wp2
        go_roundw
        case rel => exact ⟨k + 1, by omega, by go_num, ⟨fun j hj => by
          by_cases h : j = k
          · subst h; rw [HZ.out]; simpa using hx
          · exact H0.out.1 j (by omega), H0.out.2⟩⟩
        case measure => simp [intOf]; omega
    · obtain rfl : k = zs.length := by omega
      go_wp2
      go_ret
      refine ⟨?_, H0.out.2⟩
      have hn : ¬ x ∈ zs := fun hm => by
        obtain ⟨j, hj⟩ := List.getElem?_of_mem hm
        exact H0.out.1 j (List.getElem?_eq_some_iff.1 hj).1 hj
      rw [decide_eq_false hn]; rfl

set_option maxHeartbeats 2000000 in
theorem refSides_any (ao : Option Addr) (es : List Edg) (cap : Nat) (w : World) (hs : EdgesAt w ao es) :
    Calls Try.prog 64 #[.slice ao es.length cap] w fun e w' => e = .returned (.bool (sidesB es)) ∧ Mod noB w w' := by
  have hsm := hs.small
  have HS := Hold.mk hs
  clear hs
  go_enter Try.func64, Try.ntmps64
  go_wp2
  go_loopw [3] (fun i wr => ∃ k : Nat, k ≤ es.length ∧ i = .int .i64 k ∧ Hold ((∀ j e, j < k → es[j]? = some e → sideB e = true) ∧ Mod noB w wr)) (fun i _ => es.length - (intOf i).toNat)
  case atStart => exact ⟨0, Nat.zero_le _, rfl, ⟨fun j e hj => absurd hj (Nat.not_lt_zero _), Mod.refl _ _⟩⟩
  case round =>
    obtain ⟨k, hk, rfl, H0⟩ := hrel
    by_cases hlt : k < es.length
    · obtain ⟨b, off, rfl, hb, hc⟩ := (HS.out.mod H0.out.2).lies (fun e => by simp [e] at hlt)
      obtain ⟨x, hx⟩ : ∃ x, es[k]? = some x := ⟨_, List.getElem?_eq_getElem hlt⟩
      obtain ⟨q0, q1, q2, q3, q4, q5, q6⟩ := hc _ x hx
      have HX := Hold.mk hx
      have HQ := Hold.mk (fun w => refSide_any x w)
      clear hc hx
      cases hv : sideB x with
      | false =>
        rw [hv] at HQ
        go_wp2_with (go_at_call 36; refine (HQ.out _).mono ?_; rintro e w3 ⟨rfl, hM⟩; have HM := Hold.mk (H0.out.2.trans hM); clear hM q0 q1 q2 q3 q4 q5 q6)
        go_ret
        refine ⟨?_, HM.out⟩
        have : sidesB es = false := by
          cases h : sidesB es with
          | false => rfl
          | true => have := List.all_eq_true.1 h x (List.mem_of_getElem? HX.out); rw [hv] at this; cases this
        rw [this]; rfl
      | true =>
        rw [hv] at HQ
        go_wp2_with (go_at_call 36; refine (HQ.out _).mono ?_; rintro e w3 ⟨rfl, hM⟩; have HM := Hold.mk (H0.out.2.trans hM); clear hM q0 q1 q2 q3 q4 q5 q6)
        go_roundw
        case rel => exact ⟨k + 1, by omega, by go_num, ⟨fun j e hj he => by
          by_cases h : j = k
          · subst h; rw [HX.out] at he; cases he; exact hv
          · exact H0.out.1 j e (by omega) he, HM.out⟩⟩
        case measure => simp [intOf]; omega
    · obtain rfl : k = es.length := by omega
      go_wp2
      go_ret
      refine ⟨?_, H0.out.2⟩
      have : sidesB es = true := List.all_eq_true.2 fun e he => by
        obtain ⟨j, hj⟩ := List.getElem?_of_mem he
        exact H0.out.1 j e (List.getElem?_eq_some_iff.1 hj).1 hj
      rw [this]; rfl

/-- A block from B on whose cells are slices of integers. -/
def Row43 (B : Nat) (w : World) (i : Nat) : Prop := B ≤ i ∧ ∃ cs, w.heap[i]? = some (.cells cs 43)
theorem Mod.t43 {B : Nat} {w w1 w2 : World} (h : Mod (Row43 B w) w w1) (k : Mod (Row43 B w1) w1 w2) : Mod (Row43 B w) w w2 :=
  h.then k fun i hi hr => by
    by_cases hn : Row43 B w i
    · exact hn
    · have hb := h.block i hi hn
      obtain ⟨h1, cs, h2⟩ := hr
      rw [hb] at h2
      exact ⟨h1, cs, h2⟩
theorem Mod.to43 {B : Nat} {w w1 : World} (h : Mod noB w w1) : Mod (Row43 B w) w w1 := h.wider fun i _ h => absurd h id
theorem Mod.all43 {B : Nat} {w w1 : World} (h : Mod (Row43 B w) w w1) (hB : w.heap.size ≤ B) : Mod noB w w1 := h.wider fun i hi h => absurd h.1 (by omega)
/-- What lies below B stays. -/
theorem Mod.low43 {B : Nat} {w0 w w1 : World} (h : Mod noB w0 w) (k : Mod (Row43 B w) w w1) (hB : w0.heap.size ≤ B) : Mod noB w0 w1 := h.then k fun i hi hr => absurd hr.1 (by omega)

/-- A slice of integers, wherever it lies. -/
def IntV (w : World) (u : Value) (l : List Int) : Prop := w.ownsRow 0 3 1 u l.length (l.map (Value.int .i64))
theorem IntV.t43 {B : Nat} {w w1 : World} {u : Value} {l : List Int} (h : IntV w u l) (k : Mod (Row43 B w) w w1) : IntV w1 u l := by
  obtain ⟨h1, h2 | ⟨g, cap, cur, hv, hb, hg, hr⟩⟩ := h
  · exact ⟨h1, .inl h2⟩
  · refine ⟨h1, .inr ⟨g, cap, cur, hv, hb, ?_, hr⟩⟩
    rw [k.block g (Array.getElem?_eq_some_iff.1 hg).1 fun hh => ?_]
    · exact hg
    · obtain ⟨_, cs, hc⟩ := hh
      rw [hg] at hc
      cases hc
theorem IntV.mod {w w1 : World} {u : Value} {l : List Int} (h : IntV w u l) (k : Mod noB w w1) : IntV w1 u l := h.t43 (B := 0) (Mod.to43 k)
theorem IntV.ints {w : World} {u : Value} {l : List Int} (h : IntV w u l) (hs : l.length ≤ 1000000) : ∃ ao cap, u = .slice ao l.length cap ∧ IntsAt w ao l := by
  obtain ⟨ao, cap, h1, h2, _⟩ := ints_of_owns h rfl hs
  exact ⟨ao, cap, h1, h2⟩
theorem intV_nil (w : World) : IntV w (.slice none 0 0) [] := World.ownsRow_nil _ _ _ _

/-- A slice of slices of integers, of the call's own. -/
def RowsV (w : World) (B : Nat) (v : Value) (LL : List (List Int)) : Prop := ∃ vs : List Value, w.ownsRow B 43 1 v LL.length vs ∧ ∀ (i : Nat) (l : List Int), LL[i]? = some l → ∃ u, vs[i]? = some u ∧ IntV w u l
theorem rowsV_nil (w : World) (B : Nat) : RowsV w B (.slice none 0 0) [] := ⟨[], World.ownsRow_nil _ _ _ _, fun i l h => by cases h⟩
theorem RowsV.mod {w w1 : World} {B : Nat} {v : Value} {LL : List (List Int)} (h : RowsV w B v LL) (k : Mod noB w w1) : RowsV w1 B v LL := by
  obtain ⟨vs, h1, h2⟩ := h
  exact ⟨vs, own_mod h1 k, fun i l hl => by obtain ⟨u, hu, hi⟩ := h2 i l hl; exact ⟨u, hu, hi.mod k⟩⟩

/-- What is gathered when so many holes have been tried. -/
def gatherK (p : Ply) (t : Edg) (holes : List Edg) (goes : List (List Int)) (m : Nat) (pre : List Int) (k : Nat) : List (List Int) :=
  (indicesTo maybe (foundL p t holes) k).flatMap fun h => if h ∈ pre then [] else pairsL goes m (pre ++ [h])
theorem gatherK_zero (p : Ply) (t : Edg) (holes : List Edg) (goes : List (List Int)) (m : Nat) (pre : List Int) : gatherK p t holes goes m pre 0 = [] := rfl
theorem maybe_iff {z : Int} (h : z = 0 ∨ z = 1 ∨ z = 2) : maybe z = !(z == 0) := by rcases h with rfl | rfl | rfl <;> rfl
theorem fitR_zot (p : Ply) (a b : Edg) : fitR p a b = 0 ∨ fitR p a b = 1 ∨ fitR p a b = 2 := by
  unfold fitR least3
  split
  · split
    · exact .inl rfl
    · split
      · exact .inr (.inr rfl)
      · exact .inr (.inl rfl)
  · exact .inl rfl
theorem foundK {p : Ply} {t : Edg} {holes : List Edg} {k : Nat} {x : Edg} (h : holes[k]? = some x) : (foundL p t holes)[k]?.getD 0 = fitR p t x := by
  unfold foundL
  rw [List.getElem?_map, h]; rfl
theorem gatherK_no {p : Ply} {t : Edg} {holes : List Edg} {goes : List (List Int)} {m : Nat} {pre : List Int} {k : Nat} {x : Edg} (h : holes[k]? = some x) (hf : fitR p t x = 0) : gatherK p t holes goes m pre (k + 1) = gatherK p t holes goes m pre k := by
  unfold gatherK
  rw [indicesTo_no (by rw [foundK h, maybe_iff (fitR_zot p t x), hf]; rfl)]
theorem gatherK_yes {p : Ply} {t : Edg} {holes : List Edg} {goes : List (List Int)} {m : Nat} {pre : List Int} {k : Nat} {x : Edg} (h : holes[k]? = some x) (hf : fitR p t x ≠ 0) :
    gatherK p t holes goes m pre (k + 1) = gatherK p t holes goes m pre k ++ (if (k : Int) ∈ pre then [] else pairsL goes m (pre ++ [(k : Int)])) := by
  unfold gatherK
  rw [indicesTo_yes (by rw [foundK h, maybe_iff (fitR_zot p t x)]; simpa using hf), List.flatMap_append]
  simp
theorem gatherK_in {p : Ply} {t : Edg} {holes : List Edg} {goes : List (List Int)} {m : Nat} {pre : List Int} {k : Nat} {x : Edg} (h : holes[k]? = some x) (hm : (k : Int) ∈ pre) : gatherK p t holes goes m pre (k + 1) = gatherK p t holes goes m pre k := by
  by_cases hf : fitR p t x = 0
  · exact gatherK_no h hf
  · rw [gatherK_yes h hf, if_pos hm, List.append_nil]
theorem gatherK_all {p : Ply} {t : Edg} {tabs holes : List Edg} {m : Nat} {pre : List Int} (ht : tabs[pre.length]? = some t) : gatherK p t holes (goesL p tabs holes) m pre holes.length = pairsL (goesL p tabs holes) (m + 1) pre := by
  unfold gatherK
  rw [pairsL, goesL, List.getElem?_map, ht]
  simp only [Option.map_some, Option.getD_some, indicesR, foundL_len]
theorem gatherK_len {p : Ply} {t : Edg} {holes : List Edg} {goes : List (List Int)} {m : Nat} {pre : List Int} {k : Nat} (hk : k < holes.length) : (gatherK p t holes goes m pre k).length ≤ (gatherK p t holes goes m pre (k + 1)).length := by
  obtain ⟨x, hx⟩ : ∃ x, holes[k]? = some x := ⟨_, List.getElem?_eq_getElem hk⟩
  by_cases hf : fitR p t x = 0
  · rw [gatherK_no hx hf]; exact Nat.le_refl _
  · rw [gatherK_yes hx hf, List.length_append]; exact Nat.le_add_right _ _
theorem gatherK_le {p : Ply} {t : Edg} {holes : List Edg} {goes : List (List Int)} {m : Nat} {pre : List Int} : ∀ (d k : Nat), k + d ≤ holes.length → (gatherK p t holes goes m pre k).length ≤ (gatherK p t holes goes m pre (k + d)).length := by
  intro d
  induction d with
  | zero => intro k _; exact Nat.le_refl _
  | succ d ih => intro k h; exact Nat.le_trans (ih k (by omega)) (gatherK_len (k := k + d) (by omega))


/-- How many pairings there are at most. -/
theorem flat_len {α β : Type} (f : α → List β) (c : Nat) : ∀ l : List α, (∀ x ∈ l, (f x).length ≤ c) → (l.flatMap f).length ≤ l.length * c := by
  intro l
  induction l with
  | nil => intro _; simp
  | cons x l ih =>
    intro h
    rw [List.flatMap_cons, List.length_append, List.length_cons, Nat.succ_mul]
    have h1 := h x (by simp)
    have h2 := ih fun y hy => h y (by simp [hy])
    omega
theorem pairsL_most (goes : List (List Int)) (c : Nat) (hc : ∀ l ∈ goes, l.length ≤ c) : ∀ (m : Nat) (pre : List Int), (pairsL goes m pre).length ≤ c ^ m := by
  intro m
  induction m with
  | zero => intro pre; simp [pairsL]
  | succ m ih =>
    intro pre
    rw [pairsL, Nat.pow_succ, Nat.mul_comm]
    refine Nat.le_trans (flat_len _ (c ^ m) _ fun x _ => ?_) (Nat.mul_le_mul_right _ ?_)
    · split
      · exact Nat.zero_le _
      · exact ih _
    · cases h : goes[pre.length]? with
      | none => simp
      | some l => exact hc l (List.mem_of_getElem? h)
end Go.Proofs.Ytnjbamikfjdofaa

/- What speaks of no seat: a drawn region that appends what it has built to a list of its own: 'l = append(l, f(..))'. -/
import Derived.Test.YtknbcmildpmokaaGeo
import Derived.Maps.AppendAt
set_option linter.unusedSimpArgs false
set_option linter.unusedVariables false
namespace Go.Proofs.Ytknbcmildpmokaa
open Go Go.RowKit Go.Shelf

theorem anc_doneA {l : List Oper} {D : Nat → Bool} (hc : ∀ i o, l[i]? = some o → D i = true → ∀ e ∈ o.after, Region.binds .any e = true → D e.on = true) : ∀ (f i j : Nat), D i = true → ancB l f i j = true → D j = true := by
  intro f
  induction f with
  | zero =>
    intro i j hi h
    simp [ancB] at h
    exact h ▸ hi
  | succ f ih =>
    intro i j hi h
    simp only [ancB, Bool.or_eq_true, beq_iff_eq] at h
    rcases h with h | h
    · exact h ▸ hi
    · split at h
      · rename_i o ho
        obtain ⟨e, he, hh⟩ := List.any_eq_true.1 h
        rw [Bool.and_eq_true] at hh
        exact ih _ _ (hc i o ho hi e (by simpa using he) hh.1) hh.2
      · cases h

def valsA (C : Nat → Value) (ib ia iz : Nat) (bv v : Value) (i : Nat) : Value := if i = ib then bv else if i = ia then v else if i = iz then v else C i

/-- A drawn region of known values, with 'append' of one built slice to a list of its own, and an assignment, behind all others. -/
theorem region_app {rid N : Nat} {Q : Exit → Act → World → Prop} {a0 : Act} {w : World} {l : List Oper} (hlow : lowB l = true) (ds : List (Nat × Nat)) (hsz : a0.tmps.size = N) (hok : slotsB l ds N = true) (hgd : l.all (fun o => o.guard.isNone) = true)
    (C : Nat → Value) (ib ia : Nat) (ob oa oz : Oper) (hib : l[ib]? = some ob) (hia : l[ia]? = some oa) (hiz : l[ia + 1]? = some oz) (hlen : l.length = ia + 2) (hba : ib < ia) (hcov : coverB l ia = true) (hcz : waitsB oz ia = true)
    (js ss sb sa sz : Nat) (t : TypeId) (hsb : ob.dst = some sb) (hoa : oa.op = .call { callee := .builtin .append, args := #[.tmp ss, .tmp sb], argTypes := #[t, t] }) (hsa : oa.dst = some sa) (hoz : oz.op = .assign (.tmp sa)) (hsz2 : oz.dst = some sz)
    (hjs : (js, ss) ∈ ds) (hjs1 : js < ia) (hjs2 : js ≠ ib)
    (m c : Nat) (ncs : Array Value) (T : TypeId)
    (hs : ∀ i o (ρ : Act) w', i < ia → i ≠ ib → l[i]? = some o → Mod noB w w' → (∀ j s, j ≠ ib → waitsB o j = true → (j, s) ∈ ds → ρ.eval (.tmp s) = C j) → (∀ s, (∀ x ∈ ds, x.2 = s → x.1 = ia + 1) → ρ.eval (.tmp s) = a0.eval (.tmp s)) →
      wpList Try.prog l.toArray (only fun a' w2 => a' = ρ.put o.dst (C i) ∧ Mod noB w' w2) [o] ρ w')
    (hb : ∀ (ρ : Act) w', Mod noB w w' → (∀ j s, j ≠ ib → waitsB ob j = true → (j, s) ∈ ds → ρ.eval (.tmp s) = C j) → (∀ s, (∀ x ∈ ds, x.2 = s → x.1 = ia + 1) → ρ.eval (.tmp s) = a0.eval (.tmp s)) →
      (execOp ρ.eval ob).run Try.prog w' = .ok (.value (.slice (some ⟨w'.heap.size, 0, none⟩) m c)) (w'.alloc (.cells ncs T)))
    (base : Nat) (e : TypeId) (ti : TypeInfo) (z : Value) (size bytes : Nat) (ht : Try.prog.underlying t = some (.slice e)) (hi : Try.prog.info? e = some ti) (hz : ti.zero = some z)
    (hsize : ti.size = size) (hby : ti.bytes = bytes) (hzs : z.cells.size = size) (hsz0 : 0 < size) (n : Nat) (xs : List Value) (hown : ∀ w', Mod noB w w' → w'.ownsRow base e size (C js) n xs)
    (hl : ncs.toList.length = m * size) (h1 : ∀ u ∈ ncs.toList, u.oneCell' = true) (h63 : n + m ≤ maxLen) (hbytes : (n + m) * bytes ≤ 140737488355328) (hbase : base ≤ w.heap.size)
    (hend : ∀ g v' w1 w', Mod noB w w1 → w1.grownBy w' (C js).ownBlock → w'.ownsRow base e size v' (n + m) (xs ++ ncs.toList) → (v'.ownBlock = (C js).ownBlock ∨ v'.ownBlock = some w1.heap.size) →
      Q .normal (ds.foldl (fun a x => a.put (some x.2) (valsA C ib ia (ia + 1) (.slice (some ⟨g, 0, none⟩) m c) v' x.1)) a0) w') : (Code.region rid l.toArray true).wp Try.prog Q a0 w := by
  simp only [slotsB, Bool.and_eq_true, decide_eq_true_eq, List.all_eq_true, List.mem_range] at hok
  obtain ⟨⟨⟨n1, n2⟩, n3⟩, n4⟩ := hok
  have hin : ∀ i o s, l[i]? = some o → o.dst = some s → (i, s) ∈ ds := fun i o s ho hd => by
    have := n4 i (List.getElem?_eq_some_iff.1 ho).1
    simpa [ho, hd] using this
  have hg0 : ∀ (i : Nat) (o : Oper), l[i]? = some o → o.guard = none := fun i o ho => by
    have := List.all_eq_true.1 hgd o (List.mem_of_getElem? ho)
    cases h : o.guard with
    | none => rfl
    | some y => rw [h] at this; cases this
  have cov : ∀ D : Nat → Bool, (∀ i o, l[i]? = some o → D i = true → ∀ e ∈ o.after, Region.binds .any e = true → D e.on = true) → (∀ e ∈ oa.after, Region.binds .any e = true → D e.on = true) → ∀ i, i < ia → D i = true := by
    intro D hcl hdep i hlt
    have hl' := hcov
    simp only [coverB, hia] at hl'
    have := List.all_eq_true.1 hl' i (List.mem_range.2 hlt)
    obtain ⟨ed, he, hh⟩ := List.any_eq_true.1 this
    rw [Bool.and_eq_true] at hh
    exact anc_doneA hcl _ _ _ (hdep ed (by simpa using he) hh.1) hh.2
  refine region_word hlow ds (fun D vs w' => (∀ i, i < ia → i ≠ ib → D i = true → vs i = C i) ∧
      (D ia = false → D (ia + 1) = false ∧ Mod noB w w' ∧ (D ib = true → ∃ g, vs ib = .slice (some ⟨g, 0, none⟩) m c ∧ w'.heap[g]? = some (.cells ncs T))) ∧
      (D ia = true → (∃ g, vs ib = .slice (some ⟨g, 0, none⟩) m c) ∧ (D (ia + 1) = true → vs (ia + 1) = vs ia) ∧ ∃ w1, Mod noB w w1 ∧ w1.grownBy w' (C js).ownBlock ∧ w'.ownsRow base e size (vs ia) (n + m) (xs ++ ncs.toList) ∧ ((vs ia).ownBlock = (C js).ownBlock ∨ (vs ia).ownBlock = some w1.heap.size)))
    n1 n2 (fun x hx => by rw [hsz]; exact (n3 x hx).1) hin (fun i o ho hd => ?_) (fun x hx => (n3 x hx).2) ⟨(fun i _ _ h => by cases h), fun _ => ⟨rfl, (Mod.refl noB w).drew, (fun h => by cases h)⟩, (fun h => by cases h)⟩ ?_ ?_
  · have := n4 i (List.getElem?_eq_some_iff.1 ho).1
    simpa [ho, hd] using this
  · intro D vs i o ρ w' hcl ho hD hdep hP hA hW
    obtain ⟨hW1, hW2, hW3⟩ := hW
    have hil := (List.getElem?_eq_some_iff.1 ho).1
    have done : ∀ j, waitsB o j = true → D j = true := fun j hw => by
      obtain ⟨k, hk, hh⟩ := Array.any_eq_true.1 hw
      simp only [Bool.and_eq_true, beq_iff_eq] at hh
      exact hh.2 ▸ hdep _ (Array.getElem_mem hk) hh.1
    rcases (by omega : i < ia ∨ i = ia ∨ i = ia + 1) with h | h | h
    · -- one of the first
      have hDa : D ia = false := by
        cases hda : D ia with
        | false => rfl
        | true =>
          have := cov D hcl (fun ed he hb' => hcl ia oa hia hda ed he hb') i h
          rw [this] at hD; cases hD
      obtain ⟨hz1, hM, hB⟩ := hW2 hDa
      have far : ∀ s, (∀ x ∈ ds, x.2 = s → x.1 = ia + 1) → ρ.eval (.tmp s) = a0.eval (.tmp s) := fun s hs' => hA s fun x hx e' => by rw [hs' x hx e']; exact hz1
      have kn : ∀ j s, j ≠ ib → waitsB o j = true → (j, s) ∈ ds → ρ.eval (.tmp s) = C j := fun j s hj hw hm => by
        have hd := done j hw
        rw [hP j s hm hd]
        refine hW1 j ?_ hj hd
        have hjl := (n3 _ hm).2
        simp only at hjl
        rcases (by omega : j < ia ∨ j = ia ∨ j = ia + 1) with h | h | h
        · exact h
        · rw [h, hDa] at hd; cases hd
        · rw [h, hz1] at hd; cases hd
      by_cases hie : i = ib
      · subst hie
        obtain rfl := Option.some.inj (hib.symm.trans ho)
        refine step_run (hg0 i ob hib) _ _ (hb ρ w' hM kn far) ⟨_, rfl, ?_, ?_, ?_⟩
        · intro j hj hjn hd
          simp only [hjn, if_false]
          exact hW1 j hj hjn (by simpa [hjn] using hd)
        · intro _
          refine ⟨?_, hM.alloc _, fun _ => ⟨w'.heap.size, by simp, World.alloc_heap_new _ _⟩⟩
          have : (ia + 1 == i) = false := by simp; omega
          simp [this, hz1]
        · intro hd
          have : (ia == i) = false := by simp; omega
          simp only [this, Bool.false_or, hDa] at hd
          cases hd
      · refine wpList_mono1 ?_ (hs i o ρ w' h hie ho hM kn far)
        rintro a' w2 ⟨rfl, hm⟩
        refine ⟨_, rfl, ?_, ?_, ?_⟩
        · intro j hj hjn hd
          by_cases hji : j = i
          · simp [hji]
          · simp only [hji, if_false]
            exact hW1 j hj hjn (by simpa [hji] using hd)
        · intro _
          refine ⟨?_, hM.trans hm, fun hd => ?_⟩
          · have : (ia + 1 == i) = false := by simp; omega
            simp [this, hz1]
          · have h2 : ¬ ib = i := fun e' => hie e'.symm
            obtain ⟨g, hg1, hg2⟩ := hB (by simpa [h2] using hd)
            exact ⟨g, by simp only [h2, if_false]; exact hg1, hm.at hg2 id⟩
        · intro hd
          have : (ia == i) = false := by simp; omega
          simp only [this, Bool.false_or, hDa] at hd
          cases hd
    · -- the append
      subst h
      obtain rfl := Option.some.inj (hia.symm.trans ho)
      obtain ⟨hz1, hM, hB⟩ := hW2 hD
      have hall := cov D hcl hdep
      obtain ⟨g, hg1, hg2⟩ := hB (hall ib hba)
      have hss : ρ.eval (.tmp ss) = C js := (hP js ss hjs (hall js hjs1)).trans (hW1 js hjs1 hjs2 (hall js hjs1))
      have hsb' : ρ.eval (.tmp sb) = .slice (some ⟨g, 0, none⟩) m c := (hP ib sb (hin ib ob sb hib hsb) (hall ib hba)).trans hg1
      refine wpList_append_own_at w' (hg0 i oa hia) (.tmp ss) (.tmp sb) t hoa base e ti z size bytes ht hi hz hsize hby hzs hsz0 (C js) n xs hss (hown w' hM) ⟨g, 0, none⟩ m c ncs.toList hsb' hl (fun j u hj => ?_) h1 h63 hbytes (Nat.le_trans hbase hM.size) ?_
      · have ea : Addr.add ⟨g, 0, none⟩ j = ⟨g, j, none⟩ := by simp [Addr.add]; omega
        rw [ea, cellsAt hg2, ← Array.getElem?_toList]
        exact hj
      · intro v' w2 ho2 hgr _ hat
        refine wpList_nil ⟨rfl, v', by rw [hsa], ?_, ?_, ?_⟩
        · intro j hj hjn hd
          have hji : ¬ j = i := by omega
          simp only [hji, if_false]
          exact hW1 j hj hjn (by simpa [hji] using hd)
        · intro hd
          simp at hd
        · intro _
          have hbi : ¬ ib = i := by omega
          refine ⟨⟨g, by simp only [hbi, if_false]; exact hg1⟩, fun hd => ?_, w', hM, hgr, ?_, ?_⟩
          · have : (i + 1 == i) = false := by simp
            simp only [this, Bool.false_or, hz1] at hd
            cases hd
          · simp only [if_true]; exact ho2
          · simp only [if_true]; exact hat
    · -- the assignment
      subst h
      obtain rfl := Option.some.inj (hiz.symm.trans ho)
      have hDa : D ia = true := done ia hcz
      obtain ⟨hg, _, w1, a1, a2, a3, a4⟩ := hW3 hDa
      have hv : ρ.eval (.tmp sa) = vs ia := hP ia sa (hin ia oa sa hia hsa) hDa
      refine step_assign (hg0 (ia + 1) oz hiz) (.tmp sa) hoz ⟨_, rfl, ?_, ?_, ?_⟩
      · intro j hj hjn hd
        have hji : ¬ j = ia + 1 := by omega
        simp only [hji, if_false]
        exact hW1 j hj hjn (by simpa [hji] using hd)
      · intro hd
        have : (ia == ia + 1) = false := by simp
        simp only [this, Bool.false_or, hDa] at hd
        cases hd
      · intro _
        have h2 : ¬ ib = ia + 1 := by omega
        have h3 : ¬ ia = ia + 1 := by omega
        simp only [h2, h3, if_false, if_true]
        exact ⟨hg, fun _ => hv, w1, a1, a2, a3, a4⟩
  · intro vs D w' hall hW
    obtain ⟨hW1, _, hW3⟩ := hW
    obtain ⟨⟨g, hg⟩, hz', w1, a1, a2, a3, a4⟩ := hW3 (hall ia (by omega))
    have hz'' := hz' (hall _ (by omega))
    have same : ∀ (ds' : List (Nat × Nat)) (a : Act), (∀ x ∈ ds', x ∈ ds) → ds'.foldl (fun a x => a.put (some x.2) (vs x.1)) a = ds'.foldl (fun a x => a.put (some x.2) (valsA C ib ia (ia + 1) (.slice (some ⟨g, 0, none⟩) m c) (vs ia) x.1)) a := by
      intro ds'
      induction ds' with
      | nil => intro a _; rfl
      | cons x ds' ih =>
        intro a hx
        simp only [List.foldl_cons]
        have hxl := (n3 x (hx x (by simp))).2
        have hv : vs x.1 = valsA C ib ia (ia + 1) (.slice (some ⟨g, 0, none⟩) m c) (vs ia) x.1 := by
          unfold valsA
          by_cases e1 : x.1 = ib
          · rw [if_pos e1, e1]; exact hg
          · rw [if_neg e1]
            by_cases e2 : x.1 = ia
            · rw [if_pos e2, e2]
            · rw [if_neg e2]
              by_cases e3 : x.1 = ia + 1
              · rw [if_pos e3, e3]; exact hz''
              · rw [if_neg e3]; exact hW1 _ (by omega) e1 (hall _ hxl)
        rw [hv]
        exact ih _ fun y hy => hx y (by simp [hy])
    rw [same ds a0 fun x hx => hx]
    exact hend g (vs ia) w1 w' a1 a2 a3 a4
end Go.Proofs.Ytknbcmildpmokaa

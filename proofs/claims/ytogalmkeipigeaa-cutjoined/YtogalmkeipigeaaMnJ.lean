/- Several texts in one (a claim holds at most 60 files): each has its own words ahead of it. -/
import Derived.Test.YtogalmkeipigeaaMnV
import Derived.Test.YtogalmkeipigeaaJoined
import Derived.Deep.DeepCutAuto
import Derived.Deep.CutRange
import Derived.Deep.CutBlock
set_option linter.unusedSimpArgs false
set_option linter.unusedVariables false

/- CutJoined: what two pieces made one are. -/
namespace Go.Proofs.Ytogalmkeipigeaa
open Go Go.RowKit Go.Shelf

theorem jf_lt {l h z : Int} (k : z < h) : jf l h z = z := by unfold jf; rw [if_neg (by omega), if_neg (by omega)]
theorem jf_eq {l h : Int} : jf l h h = l := by unfold jf; rw [if_pos rfl]
theorem jf_gt {l h z : Int} (k : h < z) : jf l h z = z - 1 := by unfold jf; rw [if_neg (by omega), if_pos k]

theorem count_whole {W H : Nat} {zs : List Int} (C : CutN W H zs) (h : (checkR W H zs).2 = 0) : ∀ k : Nat, k < many zs → WholeP (laidG W zs zs.length) W H k := by
  have hb := (checkR_ok h).1
  have hm := many_eq zs
  intro k
  induction k using Nat.strongRecOn with
  | ind k ih =>
    intro hk
    apply Classical.byContradiction
    intro hn
    have := checkR_6 C hb (fun j hj => count_pos C h j (by omega)) (k := k) (by omega) hn (fun j hj => ih j hj (by omega))
    rw [this] at h; cases h
theorem greatest_is {zs : List Int} {m : Int} (hne : zs ≠ []) (h0 : ∀ z ∈ zs, 0 ≤ z) (hle : ∀ z ∈ zs, z ≤ m) (hm : m ∈ zs) : greatest zs = m := by
  have h1 := le_greatest2 hm
  have h2 := hle _ (greatest_mem hne h0)
  omega

section
variable {W H : Nat} {zs : List Int} {lo hi N : Nat}
theorem atG_join (hlt : lo < hi) (p : Int × Int) : atG (laidG W (zs.map (jf lo hi)) (zs.map (jf lo hi)).length) p = jf lo hi (atG (laidG W zs zs.length) p) := by
  unfold atG laidG
  rw [List.length_map]
  by_cases hc : 0 ≤ p.1 ∧ p.1 < W ∧ 0 ≤ p.2 ∧ p.2.toNat * W + p.1.toNat < zs.length
  · rw [if_pos hc, if_pos hc]
    simp only [Option.getD_some]
    rw [List.getElem?_map, List.getElem?_eq_getElem hc.2.2.2]
    simp
  · rw [if_neg hc, if_neg hc]
    exact (jf_lt (by show (-1 : Int) < hi; omega)).symm
theorem mem_all (C : CutN W H zs) (h : (checkR W H zs).2 = 0) (hN : many zs = N) : (∀ z ∈ zs, 0 ≤ z ∧ z < N) ∧ ∀ k : Nat, k < N → (k : Int) ∈ zs := by
  have hm := many_eq zs
  refine ⟨fun z hz => ⟨(C.num z hz).1, by have := le_greatest2 hz; omega⟩, fun k hk => ?_⟩
  have := count_pos C h k (by omega)
  exact List.count_pos_iff.1 (by omega)
theorem mem_join (C : CutN W H zs) (h : (checkR W H zs).2 = 0) (hN : many zs = N) (hlt : lo < hi) (hhi : hi < N) {j : Nat} (hj : j + 1 < N) : (j : Int) ∈ zs.map (jf lo hi) := by
  obtain ⟨h1, h2⟩ := mem_all C h hN
  rw [List.mem_map]
  by_cases e : j < hi
  · exact ⟨j, h2 j (by omega), jf_lt (by omega)⟩
  · exact ⟨((j + 1 : Nat) : Int), h2 (j + 1) (by omega), by rw [jf_gt (by omega)]; omega⟩
theorem cut_join (C : CutN W H zs) (h : (checkR W H zs).2 = 0) (hN : many zs = N) (hlt : lo < hi) (hhi : hi < N) :
    CutN W H (zs.map (jf lo hi)) ∧ many (zs.map (jf lo hi)) = N - 1 ∧ ∀ z ∈ zs.map (jf lo hi), 0 ≤ z ∧ z + 1 < N := by
  obtain ⟨h1, h2⟩ := mem_all C h hN
  have hN40 : N ≤ 40 := by rw [← hN]; exact C.many_le.2
  have hb : ∀ z ∈ zs.map (jf lo hi), 0 ≤ z ∧ z + 1 < N := fun z hz => by
    obtain ⟨x, hx, rfl⟩ := List.mem_map.1 hz
    have := h1 x hx
    unfold jf
    split
    · omega
    · split <;> omega
  have C' : CutN W H (zs.map (jf lo hi)) := ⟨C.w1, C.w2, C.h1, C.h2, by rw [List.length_map]; exact C.len, fun z hz => by have := hb z hz; omega⟩
  refine ⟨C', ?_, hb⟩
  have hg := greatest_is (m := ((N - 2 : Nat) : Int)) C'.pos (fun z hz => (hb z hz).1) (fun z hz => by have := hb z hz; omega) (mem_join C h hN hlt hhi (by omega))
  unfold many
  rw [hg]; omega
theorem Conn.join {g g' : Int × Int → Option Int} (F : Int → Int) (hF : ∀ p, atG g' p = F (atG g p)) {p q : Int × Int} (h : Conn g p q) : Conn g' p q := by
  induction h with
  | refl => exact .refl
  | step h hr he ih => exact .step ih hr (by rw [hF, hF, he])
theorem check_join (C : CutN W H zs) (h : (checkR W H zs).2 = 0) (hN : many zs = N) (hlt : lo < hi) (hhi : hi < N) (hf : (hi : Int) ∈ facedL (laidG W zs zs.length) W H lo) :
    checkR W H (zs.map (jf lo hi)) = (((N - 1 : Nat) : Int), 0) := by
  obtain ⟨C', hm', hb⟩ := cut_join C h hN hlt hhi
  have hc : isCutB W H (zs.map (jf lo hi)) = true := by
    unfold isCutB
    have := C'.len
    have h1 := C'.w1
    have h2 := C'.w2
    have h3 := C'.h1
    have h4 := C'.h2
    simp only [Bool.and_eq_true, decide_eq_true_eq, Bool.not_eq_true', List.any_eq_false, Bool.or_eq_true, not_or]
    refine ⟨⟨by omega, by rw [this]; simp⟩, fun z hz => ?_⟩
    have := C'.num z hz
    simp; omega
  have hg := many_eq (zs.map (jf lo hi))
  rw [hm'] at hg
  rw [← hm']
  have hat := fun p => atG_join (W := W) (zs := zs) hlt p
  obtain ⟨c, d, hcin, hcl, hdb, hdh⟩ : ∃ c d, inPic W H c ∧ atG (laidG W zs zs.length) c = lo ∧ d ∈ besideL c ∧ atG (laidG W zs zs.length) d = hi := by
    unfold facedL at hf
    rw [List.mem_flatMap] at hf
    obtain ⟨c, hc, hf⟩ := hf
    unfold facedAt at hf
    split at hf
    · rename_i hn
      rw [List.mem_filter, List.mem_map] at hf
      obtain ⟨⟨d, hd, hd2⟩, _⟩ := hf
      have := cellsL_mem hc
      exact ⟨c, d, ⟨this.1, this.2.1, this.2.2.1, this.2.2.2⟩, hn, hd, hd2⟩
    · cases hf
  have hdin : inPic W H d := C.grid.in_of_at (by rw [hdh]; omega)
  refine checkR_0 C' hc (fun j hj => ?_) (fun j hj => ?_)
  · have := mem_join C h hN hlt hhi (j := j) (by omega)
    have := List.count_pos_iff.2 this
    omega
  · intro p q hp hq hpj hqj
    rw [hat] at hpj hqj
    have hWh := fun k hk => count_whole C h k hk
    rw [hN] at hWh
    have bd : ∀ x, inPic W H x → ∃ n : Nat, atG (laidG W zs zs.length) x = n ∧ n < N := fun x hx => by
      have h1 := C.grid.at_in hx
      have h2 := at_many2 C x
      rw [hN] at h2
      exact ⟨(atG (laidG W zs zs.length) x).toNat, by omega, by omega⟩
    obtain ⟨u, hu, huN⟩ := bd p hp
    obtain ⟨v, hv, hvN⟩ := bd q hq
    rw [hu] at hpj
    rw [hv] at hqj
    have lift : ∀ {x y}, Conn (laidG W zs zs.length) x y → Conn (laidG W (zs.map (jf lo hi)) (zs.map (jf lo hi)).length) x y := fun k => Conn.join (jf lo hi) hat k
    by_cases e : u = v
    · subst e
      exact lift (hWh u huN p q hp hq hu hv)
    · have key : (u = lo ∧ v = hi) ∨ (u = hi ∧ v = lo) := by
        unfold jf at hpj hqj
        split at hpj <;> split at hqj <;> (try split at hpj) <;> (try split at hqj) <;> omega
      have hcd : Conn (laidG W (zs.map (jf lo hi)) (zs.map (jf lo hi)).length) c d := .step .refl hdb (by rw [hat, hat, hcl, hdh, jf_eq, jf_lt (by omega)])
      have hdc : Conn (laidG W (zs.map (jf lo hi)) (zs.map (jf lo hi)).length) d c := .step .refl (beside_symm hdb) (by rw [hat, hat, hcl, hdh, jf_eq, jf_lt (by omega)])
      rcases key with ⟨rfl, rfl⟩ | ⟨rfl, rfl⟩
      · exact ((lift (hWh u huN p c hp hcin hu hcl)).trans hcd).trans (lift (hWh v hvN d q hdin hq hdh hv))
      · exact ((lift (hWh u huN p d hp hdin hu hdh)).trans hdc).trans (lift (hWh v hvN c q hcin hq hcl hv))
end
end Go.Proofs.Ytogalmkeipigeaa

/- CutJoined: the edges of what two pieces made one are. -/
namespace Go.Proofs.Ytogalmkeipigeaa
open Go Go.RowKit Go.Shelf

/-- Whose number becomes x. -/
def preL (lo hi x : Int) : List Int := if x = lo then [lo, hi] else if x < hi then [x] else [x + 1]
theorem pre_iff {lo hi : Int} (hlt : lo < hi) (e x : Int) : jf lo hi e = x ↔ e ∈ preL lo hi x := by
  unfold jf preL
  split
  · rename_i h
    subst h
    split
    · simp; omega
    · split
      · simp only [List.mem_singleton]; omega
      · simp only [List.mem_singleton]; omega
  · split
    · split
      · simp only [List.mem_cons, List.not_mem_nil, or_false]; omega
      · split <;> simp only [List.mem_singleton] <;> omega
    · split
      · simp only [List.mem_cons, List.not_mem_nil, or_false]; omega
      · split <;> simp only [List.mem_singleton] <;> omega
theorem pre_nodup {lo hi : Int} (hlt : lo < hi) (x : Int) : (preL lo hi x).Nodup := by
  unfold preL
  split
  · simp; omega
  · split <;> simp
def lsum (l : List Int) (f : Int → Nat) : Nat := (l.map f).sum
theorem lsum_add (l : List Int) (f h : Int → Nat) : lsum l (fun k => f k + h k) = lsum l f + lsum l h := by
  unfold lsum
  induction l with
  | nil => rfl
  | cons p l ih => simp only [List.map_cons, List.sum_cons]; omega
theorem lsum_congr {l : List Int} {f h : Int → Nat} (k : ∀ x ∈ l, f x = h x) : lsum l f = lsum l h := by
  unfold lsum
  rw [List.map_congr_left k]
theorem lsum_zero (l : List Int) : lsum l (fun _ => 0) = 0 := by
  unfold lsum
  induction l with
  | nil => rfl
  | cons p l ih => simp only [List.map_cons, List.sum_cons, ih]
/-- Of pairwise different numbers at most one is it. -/
theorem lsum_one {l : List Int} (hn : l.Nodup) (e : Int) (v : Nat) : lsum l (fun k => if e = k then v else 0) = if e ∈ l then v else 0 := by
  induction l with
  | nil => rfl
  | cons p l ih =>
    rw [List.nodup_cons] at hn
    have := ih hn.2
    show (if e = p then v else 0) + lsum l _ = _
    rw [this]
    by_cases h : e = p
    · subst h
      rw [if_pos rfl, if_neg hn.1, if_pos (by simp)]; rfl
    · rw [if_neg h]
      by_cases h2 : e ∈ l
      · rw [if_pos h2, if_pos (by simp [h2])]; omega
      · rw [if_neg h2, if_neg (by simp [h, h2])]
theorem count_map {lo hi : Int} (hlt : lo < hi) (l : List Int) (x : Int) : (l.map (jf lo hi)).count x = lsum (preL lo hi x) (fun k => l.count k) := by
  induction l with
  | nil => simp only [List.map_nil, List.count_nil]; exact (lsum_zero _).symm
  | cons e l ih =>
    simp only [List.map_cons, List.count_cons]
    rw [ih, lsum_add]
    congr 1
    have h1 := lsum_one (pre_nodup hlt x) e 1
    have e1 : (fun k => if (e == k) = true then (1 : Nat) else 0) = fun k => if e = k then 1 else 0 := by funext k; simp only [beq_iff_eq]
    rw [e1, h1]
    by_cases h : jf lo hi e = x
    · rw [if_pos ((pre_iff hlt e x).1 h)]; simp [h]
    · rw [if_neg (fun h' => h ((pre_iff hlt e x).2 h'))]; simp [h]
section
variable {g g' : Int × Int → Option Int} {lo hi : Int}
theorem eAt_join (hlt : lo < hi) (hF : ∀ p, atG g' p = jf lo hi (atG g p)) (m o : Int) (p : Int × Int) : eAt g' m o p = lsum (preL lo hi m) fun l => lsum (preL lo hi o) fun k => eAt g l k p := by
  have e0 : (besideL p).map (atG g') = ((besideL p).map (atG g)).map (jf lo hi) := by
    rw [List.map_map]
    exact List.map_congr_left fun q _ => hF q
  have e1 : ∀ l, lsum (preL lo hi o) (fun k => eAt g l k p) = if atG g p = l then ((besideL p).map (atG g')).count o else 0 := fun l => by
    unfold eAt
    by_cases h : atG g p = l
    · simp only [if_pos h]
      rw [e0, count_map hlt]
    · simp only [if_neg h]
      exact lsum_zero _
  rw [lsum_congr (fun l _ => e1 l), lsum_one (pre_nodup hlt m)]
  unfold eAt
  rw [hF]
  by_cases h : jf lo hi (atG g p) = m
  · rw [if_pos h, if_pos ((pre_iff hlt _ _).1 h)]
  · rw [if_neg h, if_neg (fun h' => h ((pre_iff hlt _ _).2 h'))]
theorem edges_join (hlt : lo < hi) (hF : ∀ p, atG g' p = jf lo hi (atG g p)) (W : Nat) (m o : Int) (n : Nat) : edgesTo g' W m o n = lsum (preL lo hi m) fun l => lsum (preL lo hi o) fun k => edgesTo g W l k n := by
  induction n with
  | zero =>
    have : ∀ a b : Int, ∀ g, edgesTo g W a b 0 = 0 := fun a b g => rfl
    simp only [this, lsum_zero]
  | succ n ih =>
    rw [edgesTo_succ, ih, eAt_join hlt hF, ← lsum_add]
    refine lsum_congr fun l _ => ?_
    rw [← lsum_add]
    exact lsum_congr fun k _ => (edgesTo_succ g W l k n).symm
end
theorem pre_lo (lo hi : Int) : preL lo hi lo = [lo, hi] := if_pos rfl
theorem pre_lt {lo hi x : Int} (h : x ≠ lo) (h2 : x < hi) : preL lo hi x = [x] := by unfold preL; rw [if_neg h, if_pos h2]
theorem pre_ge {lo hi x : Int} (hlt : lo < hi) (h2 : hi ≤ x) : preL lo hi x = [x + 1] := by unfold preL; rw [if_neg (by omega), if_neg (by omega)]
theorem lsum_1 (x : Int) (f : Int → Nat) : lsum [x] f = f x := by simp [lsum]
theorem lsum_2 (x y : Int) (f : Int → Nat) : lsum [x, y] f = f x + f y := by simp [lsum]

theorem sm_at {n x : Nat} (v : Nat → Nat) (h : x < n) : sm n (fun m => if m = x then v m else 0) = v x := by
  induction n with
  | zero => omega
  | succ n ih =>
    rw [sm_succ]
    by_cases e : x = n
    · subst e
      rw [if_pos rfl, sm_none fun i hi => if_neg (by omega)]
      omega
    · rw [ih (by omega), if_neg (by omega)]; rfl
theorem sm_skip {hi : Nat} (f : Nat → Nat) : ∀ {n : Nat}, hi ≤ n → sm n (fun m => f (if m < hi then m else m + 1)) + f hi = sm (n + 1) f := by
  intro n
  induction n with
  | zero => intro h; obtain rfl : hi = 0 := by omega
            simp [sm_succ, sm_zero]
  | succ n ih =>
    intro h
    rw [sm_succ, sm_succ (n + 1)]
    by_cases e : hi ≤ n
    · rw [if_neg (by omega), ← ih e]; omega
    · obtain rfl : hi = n + 1 := by omega
      rw [if_pos (by omega), sm_congr (fun m hm => by rw [if_pos (by omega)]), sm_succ]

section
variable {g : Int × Int → Option Int} {W H N : Nat}
/-- All edges of all cells: of the border, within pieces, and of the lines twice. -/
theorem edges_total (G : Grid g W H) (hgN : ∀ p, atG g p < N) (hc : sm N (fun a => cellsN g W H a) = W * H) :
    4 * (W * H) = 2 * (W + H) + sm N (fun a => edgesTo g W a a (H * W)) + 2 * (edgesL g W H).count true := by
  have h1 : sm N (fun a => edgesTo g W a (-1) (H * W) + sm N (fun o => edgesTo g W a o (H * W))) = 4 * (W * H) := by
    rw [sm_congr (fun a _ => edges_all G hgN (a : Int)), ← hc, sm_mul]
  rw [sm_add, edges_border G hgN] at h1
  have h2 : sm N (fun a => sm N (fun o => edgesTo g W a o (H * W))) = sm N (fun a => edgesTo g W a a (H * W)) + sm N (fun a => sm N (fun b => if b = a then 0 else edgesTo g W a b (H * W))) := by
    rw [← sm_add]
    refine sm_congr fun a ha => ?_
    rw [← sm_at (n := N) (x := a) (fun b => edgesTo g W a b (H * W)) ha, ← sm_add]
    refine sm_congr fun b _ => ?_
    by_cases e : b = a
    · rw [if_pos e, if_pos e]; rfl
    · rw [if_neg e, if_neg e]; omega
  have h3 := pairs_twice (fun a b => edgesTo g W a b (H * W)) (fun a b => edges_sym G (by omega) (by omega)) N
  rw [edges_pairs G hgN] at h3
  omega
theorem len_join {g' : Int × Int → Option Int} {lo hi : Nat} (G : Grid g W H) (G' : Grid g' W H) (hlt : lo < hi) (hhi : hi < N) (hF : ∀ p, atG g' p = jf lo hi (atG g p)) (hgN : ∀ p, atG g p < N) (hgN' : ∀ p, atG g' p < (N - 1 : Nat))
    (hc : sm N (fun a => cellsN g W H a) = W * H) (hc' : sm (N - 1) (fun a => cellsN g' W H a) = W * H) :
    (edgesL g W H).count true = (edgesL g' W H).count true + edgesTo g W lo hi (H * W) := by
  have h1 := edges_total G hgN hc
  have h2 := edges_total G' hgN' hc'
  have h3 : sm (N - 1) (fun m => edgesTo g' W m m (H * W)) = sm N (fun a => edgesTo g W a a (H * W)) + 2 * edgesTo g W lo hi (H * W) := by
    obtain ⟨h, hh⟩ : ∃ h : Nat → Nat, ∀ x : Nat, edgesTo g W x x (H * W) = h x := ⟨_, fun _ => rfl⟩
    obtain ⟨v, hv⟩ : ∃ v : Nat, 2 * edgesTo g W lo hi (H * W) + h hi = v := ⟨_, rfl⟩
    have e1 : ∀ m : Nat, edgesTo g' W m m (H * W) = h (if m < hi then m else m + 1) + (if m = lo then (fun _ => v) m else 0) := fun m => by
      rw [edges_join (by omega) hF]
      by_cases e : m = lo
      · subst e
        rw [if_pos rfl, if_pos hlt, pre_lo, ← hv, ← hh, ← hh]
        simp only [lsum_2]
        have := edges_sym G (a := (m : Int)) (b := (hi : Int)) (by omega) (by omega)
        omega
      · rw [if_neg e, ← hh]
        by_cases e2 : m < hi
        · rw [if_pos e2, pre_lt (by omega) (by omega)]
          simp only [lsum_1]; omega
        · rw [if_neg e2, pre_ge (by omega) (by omega)]
          simp only [lsum_1]
          rw [show (m : Int) + 1 = ((m + 1 : Nat) : Int) by omega]; omega
    have h4 := sm_skip (hi := hi) h (n := N - 1) (by omega)
    rw [show N - 1 + 1 = N by omega] at h4
    have h5 : sm N (fun a => edgesTo g W a a (H * W)) = sm N h := sm_congr fun a _ => hh a
    rw [h5, ← h4, sm_congr (fun m _ => e1 m), sm_add, sm_at _ (show lo < N - 1 by omega)]
    omega
  omega
end
end Go.Proofs.Ytogalmkeipigeaa

/- CutJoined: what is wanted of the sides of each piece. -/
namespace Go.Proofs.Ytogalmkeipigeaa
open Go Go.RowKit Go.Shelf

def edW (E : Int → Int → Nat) (lo hi p j : Nat) : Nat := (if (j : Int) - 1 = p then 0 else E p ((j : Int) - 1)) + (if p = lo ∧ (j : Int) - 1 ≠ hi then E hi ((j : Int) - 1) else 0)
def wantT (E : Int → Int → Nat) (lo hi p j : Nat) : Nat → Nat := fun i => sm j (fun u => if jf lo hi ((u : Int) - 1) ≠ jf lo hi p ∧ jf lo hi ((u : Int) - 1) + 1 = i then edW E lo hi p u else 0)
def wantE (E' : Int → Int → Nat) (N : Nat) (m : Int) : Nat → Nat := fun i => if (i : Int) - 1 ≠ m ∧ i < N then E' m ((i : Int) - 1) else 0
theorem pre_of {lo hi : Int} (hlt : lo < hi) {p : Int} (h1 : p ≠ lo) (h2 : p ≠ hi) : preL lo hi (jf lo hi p) = [p] := by
  unfold jf
  rw [if_neg h2]
  split
  · rw [pre_ge hlt (by omega)]; simp
  · rw [pre_lt h1 (by omega)]
theorem jf_low {lo hi : Int} (hlt : lo < hi) : jf lo hi lo = lo := jf_lt hlt
theorem want_end {E E' : Int → Int → Nat} {lo hi p N : Nat} (hlt : lo < hi) (hhi : hi < N) (hp : p < N) (hph : p ≠ hi) (hE : ∀ m o : Int, E' m o = lsum (preL lo hi m) fun l => lsum (preL lo hi o) fun k => E l k) :
    wantT E lo hi p (N + 1) = wantE E' N (jf lo hi p) := by
  funext i
  unfold wantT wantE
  by_cases hi_ : (i : Int) - 1 ≠ jf lo hi p ∧ i < N
  · rw [if_pos hi_, hE]
    obtain ⟨h1, h2⟩ := hi_
    have cond : ∀ u : Nat, (jf lo hi ((u : Int) - 1) ≠ jf lo hi p ∧ jf lo hi ((u : Int) - 1) + 1 = i) ↔ ((u : Int) - 1) ∈ preL lo hi ((i : Int) - 1) := fun u => by
      rw [← pre_iff (by omega)]
      constructor
      · rintro ⟨_, h⟩; omega
      · intro h; exact ⟨by rw [h]; exact h1, by omega⟩
    have ce : ∀ u : Nat, (if jf lo hi ((u : Int) - 1) ≠ jf lo hi p ∧ jf lo hi ((u : Int) - 1) + 1 = i then edW E lo hi p u else 0) = if ((u : Int) - 1) ∈ preL lo hi ((i : Int) - 1) then edW E lo hi p u else 0 := fun u => by
      by_cases h : jf lo hi ((u : Int) - 1) ≠ jf lo hi p ∧ jf lo hi ((u : Int) - 1) + 1 = i
      · rw [if_pos h, if_pos ((cond u).1 h)]
      · rw [if_neg h, if_neg (fun h' => h ((cond u).2 h'))]
    rw [sm_congr (fun u _ => ce u)]
    by_cases e : (i : Int) - 1 = lo
    · rw [e, pre_lo]
      have hpl : p ≠ lo := fun e2 => by subst e2; rw [jf_low (by omega)] at h1; exact h1 e
      have e1 : ∀ u : Nat, (if ((u : Int) - 1) ∈ ([(lo : Int), (hi : Int)] : List Int) then edW E lo hi p u else 0) = (if u = lo + 1 then edW E lo hi p u else 0) + (if u = hi + 1 then edW E lo hi p u else 0) := fun u => by
        simp only [List.mem_cons, List.not_mem_nil, or_false]
        by_cases u1 : u = lo + 1
        · rw [if_pos (by omega), if_pos u1, if_neg (by omega)]; rfl
        · by_cases u2 : u = hi + 1
          · rw [if_pos (by omega), if_neg u1, if_pos u2]; omega
          · rw [if_neg (by omega), if_neg u1, if_neg u2]
      rw [sm_congr (fun u _ => e1 u), sm_add, sm_at (fun u => edW E lo hi p u) (by omega), sm_at (fun u => edW E lo hi p u) (by omega), pre_of (by omega) (by omega) (by omega), lsum_1, lsum_2]
      unfold edW
      rw [if_neg (by omega), if_neg (by omega), if_neg (by omega), if_neg (by omega)]
      rw [show ((lo + 1 : Nat) : Int) - 1 = lo by omega, show ((hi + 1 : Nat) : Int) - 1 = hi by omega]
      omega
    · obtain ⟨x, hx, hpre, hxh, hxN⟩ : ∃ x : Nat, True ∧ preL lo hi ((i : Int) - 1) = [(x : Int) - 1] ∧ (x : Int) - 1 ≠ hi ∧ x < N + 1 := by
        by_cases e2 : (i : Int) - 1 < hi
        · exact ⟨i, trivial, pre_lt e e2, by omega, by omega⟩
        · exact ⟨i + 1, trivial, by rw [pre_ge (by omega) (by omega)]; congr 1; omega, by omega, by omega⟩
      have hjx : jf lo hi ((x : Int) - 1) = (i : Int) - 1 := (pre_iff (by omega) _ _).2 (by rw [hpre]; simp)
      rw [hpre]
      have e1 : ∀ u : Nat, (if ((u : Int) - 1) ∈ ([(x : Int) - 1] : List Int) then edW E lo hi p u else 0) = (if u = x then edW E lo hi p u else 0) := fun u => by
        simp only [List.mem_singleton]
        by_cases u1 : u = x
        · rw [if_pos (by omega), if_pos u1]
        · rw [if_neg (by omega), if_neg u1]
      rw [sm_congr (fun u _ => e1 u), sm_at (fun u => edW E lo hi p u) hxN]
      unfold edW
      rw [if_neg (show ¬ (x : Int) - 1 = p from fun e3 => by rw [e3] at hjx; exact h1 hjx.symm)]
      by_cases hpl : p = lo
      · subst hpl
        rw [if_pos ⟨rfl, hxh⟩, jf_low (by omega), pre_lo, lsum_2, lsum_1, lsum_1]
      · rw [if_neg (fun h => hpl h.1), pre_of (by omega) (by omega) (by omega), lsum_1, lsum_1]; rfl
  · rw [if_neg hi_]
    refine sm_none fun u hu => if_neg ?_
    rintro ⟨h1, h2⟩
    refine hi_ ⟨by omega, ?_⟩
    have : jf lo hi ((u : Int) - 1) ≤ (N : Int) - 2 := by
      unfold jf
      split
      · omega
      · split <;> omega
    omega

theorem sidesTo_mem {F : List Int} {o : Int} : ∀ {n : Nat}, -1 ≤ o → o < (n : Int) - 1 → 0 < F.count o → ∃ q ∈ sidesTo F n, q.1 = o := by
  intro n
  induction n with
  | zero => intro h1 h2; omega
  | succ n ih =>
    intro h1 h2 h3
    simp only [sidesTo]
    by_cases e : o = (n : Int) - 1
    · exact ⟨_, List.mem_append_right _ (by rw [← e, if_pos h3]; exact List.mem_singleton.2 rfl), rfl⟩
    · obtain ⟨q, hq, hq2⟩ := ih h1 (by omega) h3
      exact ⟨q, List.mem_append_left _ hq, hq2⟩
def zeroT (WE : Nat → Nat) (L : List (Int × Int)) (j : Nat) : Nat → Nat := fun i => if (L.take j).any (fun q => q.1 + 1 == (i : Int)) then 0 else WE i
/-- What is found of what is wanted. -/
def ZeroOk (N n : Nat) (P : Nat → Int) (M : Nat → Nat) (ZT : Nat → Nat → Nat) : Prop := ∀ j, j < n → ∃ q : Nat, P j + 1 = q ∧ q ≤ N ∧ ZT j q = M j ∧ M j ≤ 1000000 ∧ ZT (j + 1) = fun i => if i = q then 0 else ZT j i
section
variable {g' : Int × Int → Option Int} {W H N m : Nat}
theorem zero_ok (hm : m + 1 < N) (hN : N ≤ 40) (hE2 : ∀ o, edgesTo g' W m o (H * W) ≤ 576) :
    ZeroOk N (sdL g' W H (N - 1) m).length (pAt (sdL g' W H (N - 1) m)) (mAt (sdL g' W H (N - 1) m)) (zeroT (wantE (fun a b => edgesTo g' W a b (H * W)) N m) (sdL g' W H (N - 1) m)) := by
  intro j hj
  obtain ⟨p, hp⟩ : ∃ p, (sdL g' W H (N - 1) m)[j]? = some p := ⟨_, List.getElem?_eq_getElem hj⟩
  obtain ⟨a1, a2, a3, a4⟩ := sides_at (F := facedL g' W H (m : Int)) (n := N - 1 + 1) hp
  have eP : pAt (sdL g' W H (N - 1) m) j = p.1 := by unfold pAt; rw [hp]; rfl
  have eM : mAt (sdL g' W H (N - 1) m) j = (facedL g' W H (m : Int)).count p.1 := by unfold mAt; rw [hp]; simp [a3]
  have hne : p.1 ≠ (m : Int) := fun e => by rw [e, faced_self] at a4; omega
  have eE : (facedL g' W H (m : Int)).count p.1 = edgesTo g' W m p.1 (H * W) := (edgesTo_faced g' W H (m : Int) p.1 hne).symm
  have hE3 := hE2 p.1
  refine ⟨(p.1 + 1).toNat, by rw [eP]; omega, by omega, ?_, by rw [eM, eE]; omega, ?_⟩
  · rw [eM, eE]
    unfold zeroT
    have hno : ((sdL g' W H (N - 1) m).take j).any (fun q => q.1 + 1 == (((p.1 + 1).toNat : Nat) : Int)) = false := by
      rw [List.any_eq_false]
      intro q hq
      obtain ⟨i, hi⟩ := List.getElem?_of_mem hq
      rw [List.getElem?_take] at hi
      split at hi
      · rename_i hij
        have := sides_asc (F := facedL g' W H (m : Int)) (n := N - 1 + 1) hij hi hp
        simp; omega
      · cases hi
    rw [if_neg (by rw [hno]; simp)]
    unfold wantE
    rw [if_pos ⟨by omega, by omega⟩]
    rw [show (((p.1 + 1).toNat : Nat) : Int) - 1 = p.1 by omega]
  · funext i
    unfold zeroT
    rw [List.take_add_one, hp]
    simp only [Option.toList_some, List.any_append, List.any_cons, List.any_nil, Bool.or_false]
    by_cases e : i = (p.1 + 1).toNat
    · rw [if_pos e, if_pos (by simp; right; omega)]
    · rw [if_neg e]
      have : (p.1 + 1 == (i : Int)) = false := by simp; omega
      rw [this, Bool.or_false]
theorem zero_all (hm : m + 1 < N) : zeroT (wantE (fun a b => edgesTo g' W a b (H * W)) N m) (sdL g' W H (N - 1) m) (sdL g' W H (N - 1) m).length = fun _ => 0 := by
  funext i
  unfold zeroT
  rw [List.take_length]
  split
  · rfl
  · rename_i hno
    unfold wantE
    split
    · rename_i hc
      show edgesTo g' W m ((i : Int) - 1) (H * W) = 0
      rw [edgesTo_faced g' W H (m : Int) _ hc.1]
      rcases Nat.eq_zero_or_pos ((facedL g' W H (m : Int)).count ((i : Int) - 1)) with e | e
      · exact e
      · exfalso
        obtain ⟨q, hq, hq2⟩ := sidesTo_mem (F := facedL g' W H (m : Int)) (n := N - 1 + 1) (by omega) (by omega) e
        exact hno (List.any_eq_true.2 ⟨q, hq, by simp; omega⟩)
    · rfl
theorem zero_none (WE : Nat → Nat) (L : List (Int × Int)) : zeroT WE L 0 = WE := by funext i; rfl
end
end Go.Proofs.Ytogalmkeipigeaa

/- CutJoined: what a number becomes, and the regions that ask. (The operations, and a step for each: written by wip/tools.) -/
namespace Go.Proofs.Ytogalmkeipigeaa
open Go Go.RowKit Go.Shelf

theorem enter38 : ∀ args w, (callFunc 38 args).run Try.prog w = .ok (.enter 38 args) w := enters_of Try.func38 (by kernel_rfl) rfl
theorem enter16J : ∀ args w, (callFunc 16 args).run Try.prog w = .ok (.enter 16 args) w := enters_of Try.func16 (by kernel_rfl) rfl
section
variable {ops : Array Oper} {K : Act → World → Prop} {o : Oper} {a : Act} {w : World}
theorem step_callV (hg : o.guard = none) (f : Nat) (s : Operand) (caps : Array Value) (args : Array Operand) (tys : Array TypeId) (hop : o.op = .call { callee := .value s, args := args, argTypes := tys })
    (hs : a.eval s = .func (.func f) #[] caps) (hrun : ∀ (vs : Array Value) (w : World), (callFunc f vs).run Try.prog w = .ok (.enter f vs) w)
    (h : Calls Try.prog f (args.map a.eval ++ caps) w fun e w' => ∃ v, e = .returned v ∧ K (a.put o.dst v) w') : wpList Try.prog ops (only K) [o] a w := by
  refine wpList_plain hg fun K' hK => ?_
  unfold Oper.wp
  have e : (execOp a.eval o).run Try.prog w = .ok (.enter f (args.map a.eval ++ caps)) w := by
    simp [execOp, hop, resolve, invoke, hs, Deferred.ofValue, Result.andThen, hrun]
  rw [e]
  simp only [Oper.upon]
  refine h.mono fun e w' hh => ?_
  obtain ⟨v, rfl, hk⟩ := hh
  exact hK _ _ ⟨rfl, hk⟩
end
/-- What the closure holds: the greater number and the lesser one. -/
def NowAt (hb lb : Nat) (lo hi : Nat) (W : World) : Prop := W.heap[hb]? = some (.cells #[.int .i64 (hi : Int)] 3) ∧ W.heap[lb]? = some (.cells #[.int .i64 (lo : Int)] 3)
theorem NowAt.mod {hb lb lo hi : Nat} {W W' : World} (h : NowAt hb lb lo hi W) (hm : Mod noB W W') : NowAt hb lb lo hi W' := ⟨hm.at h.1 id, hm.at h.2 id⟩
set_option maxRecDepth 100000 in
theorem now_any {hb lb lo hi : Nat} (k : Int) (hk : -1000 ≤ k ∧ k ≤ 1000) (w : World) (h : NowAt hb lb lo hi w) :
    Calls Try.prog 38 #[.int .i64 k, .pointer (some ⟨hb, 0, none⟩), .pointer (some ⟨lb, 0, none⟩)] w fun e w' => e = .returned (.int .i64 (jf lo hi k)) ∧ w' = w := by
  have c0 := cellsAt h.1 0
  have c1 := cellsAt h.2 0
  simp at c0 c1
  by_cases e : k = hi
  · subst e
    rw [jf_eq]
    clear h
    go_enter Try.func38, Try.ntmps38
    go_wp2
    go_ret
    exact ⟨rfl, rfl⟩
  · have e2 : (k == (hi : Int)) = false := by simpa using e
    by_cases e3 : (hi : Int) < k
    · rw [jf_gt e3]
      clear h
      go_enter Try.func38, Try.ntmps38
      go_wp2
      go_ret
      exact ⟨rfl, rfl⟩
    · rw [jf_lt (by omega)]
      clear h
      go_enter Try.func38, Try.ntmps38
      go_wp2
      go_ret
      exact ⟨rfl, rfl⟩
section
variable {o : Oper} {a : Act} {w : World} {x y : Operand}
theorem run_idx22J (hop : o.op = .indexAddr 22 x y) {b f n c i : Nat} (hx : a.eval x = .slice (some ⟨b, f, none⟩) n c) (hy : a.eval y = .int .i64 (i : Int)) (hi : i < n) : (execOp a.eval o).run Try.prog w = .ok (.value (.pointer (some ⟨b, f + i, none⟩))) w := by
  have h1 : (i : Int) < (n : Int) := by omega
  simp only [execOp, hop, hx, hy]
  go_simp
  done
theorem run_arr67 (hop : o.op = .indexAddr 67 x y) {b i : Nat} (hx : a.eval x = .pointer (some ⟨b, 0, none⟩)) {z : Int} (hy : a.eval y = .int .i64 z) (hz : z = (i : Int)) (hi : i < 41) : (execOp a.eval o).run Try.prog w = .ok (.value (.pointer (some ⟨b, i, none⟩))) w := by
  subst hz
  have h1 : (i : Int) < 41 := by omega
  simp only [execOp, hop, hx, hy]
  go_simp
  done
theorem run_neqSameJ (hop : o.op = .binOp .neq 3 x y 3) {A : Int} (hx : a.eval x = .int .i64 A) (hy : a.eval y = .int .i64 A) : (execOp a.eval o).run Try.prog w = .ok (.value (.bool false)) w := by
  simp only [execOp, hop, hx, hy]
  go_simp
  done
theorem info24J : (Try.prog.info? 24).map (·.size) = some 3 := by kernel_rfl
end
@[reducible] def ja0 : Oper := { dst := some 193, op := Op.fieldAddr 24 (Operand.tmp 7) 2, type := 0, pos := "outright.go:327", after := #[], guard := none }
@[reducible] def ja1 : Oper := { dst := some 194, op := Op.load 22 (Operand.tmp 193), type := 22, pos := "outright.go:327", after := #[{ on := 0, ground := Ground.data }], guard := none }
@[reducible] def ja2 : Oper := { dst := some 195, op := Op.move (Operand.tmp 23), type := 3, pos := "outright.go:327", after := #[], guard := none }
@[reducible] def ja3 : Oper := { dst := some 196, op := Op.indexAddr 22 (Operand.tmp 194) (Operand.tmp 195), type := 0, pos := "outright.go:327", after := #[{ on := 1, ground := Ground.data }, { on := 2, ground := Ground.data }], guard := none }
@[reducible] def ja4 : Oper := { dst := some 197, op := Op.load 3 (Operand.tmp 196), type := 3, pos := "outright.go:327", after := #[{ on := 3, ground := Ground.data }], guard := none }
@[reducible] def ja5 : Oper := { dst := some 198, op := Op.move (Operand.tmp 22), type := 66, pos := "outright.go:327", after := #[], guard := none }
@[reducible] def ja6 : Oper := { dst := some 199, op := Op.fieldAddr 24 (Operand.tmp 3) 2, type := 0, pos := "outright.go:327", after := #[], guard := none }
@[reducible] def ja7 : Oper := { dst := some 200, op := Op.load 22 (Operand.tmp 199), type := 22, pos := "outright.go:327", after := #[{ on := 6, ground := Ground.data }], guard := none }
@[reducible] def ja8 : Oper := { dst := some 201, op := Op.move (Operand.tmp 23), type := 3, pos := "outright.go:327", after := #[], guard := none }
@[reducible] def ja9 : Oper := { dst := some 202, op := Op.indexAddr 22 (Operand.tmp 200) (Operand.tmp 201), type := 0, pos := "outright.go:327", after := #[{ on := 7, ground := Ground.data }, { on := 8, ground := Ground.data }], guard := none }
@[reducible] def ja10 : Oper := { dst := some 203, op := Op.load 3 (Operand.tmp 202), type := 3, pos := "outright.go:327", after := #[{ on := 9, ground := Ground.data }], guard := none }
@[reducible] def ja11 : Oper := { dst := some 204, op := Op.call { callee := Callee.value (Operand.tmp 198), args := #[Operand.tmp 203], argTypes := #[3] }, type := 3, pos := "outright.go:327", after := #[{ on := 5, ground := Ground.data }, { on := 10, ground := Ground.data }], guard := none }
@[reducible] def ja12 : Oper := { dst := some 205, op := Op.binOp BinOp.neq 3 (Operand.tmp 197) (Operand.tmp 204) 3, type := 4, pos := "outright.go:327", after := #[{ on := 4, ground := Ground.data }, { on := 11, ground := Ground.data }], guard := none }
@[reducible] def jaOps : List Oper := [ja0, ja1, ja2, ja3, ja4, ja5, ja6, ja7, ja8, ja9, ja10, ja11, ja12]
@[reducible] def jaDs : List (Nat × Nat) := [(0, 193), (1, 194), (2, 195), (3, 196), (4, 197), (5, 198), (6, 199), (7, 200), (8, 201), (9, 202), (10, 203), (11, 204), (12, 205)]
theorem jaB : lowB jaOps = true := by kernel_rfl
theorem jaOk : slotsB jaOps jaDs 308 = true := by decide +kernel
@[reducible] def jaC (xb cb hb lb lw gt xo xf xcap co cf ccap n i : Nat) (z : Int) : Nat → Value := fun idx => ([Value.pointer (some ⟨xb, 2, none⟩), Value.slice (some ⟨xo, xf, none⟩) n xcap, Value.int .i64 (i), Value.pointer (some ⟨xo, xf + i, none⟩), Value.int .i64 (jf lw gt z), Value.func (.func 38) #[] #[.pointer (some ⟨hb, 0, none⟩), .pointer (some ⟨lb, 0, none⟩)], Value.pointer (some ⟨cb, 2, none⟩), Value.slice (some ⟨co, cf, none⟩) n ccap, Value.int .i64 (i), Value.pointer (some ⟨co, cf + i, none⟩), Value.int .i64 (z), Value.int .i64 (jf lw gt z), Value.bool false] : List Value).getD idx undef
theorem jaG (xb cb hb lb lw gt xo xf xcap co cf ccap n i : Nat) (z : Int) : guardsC jaOps (jaC xb cb hb lb lw gt xo xf xcap co cf ccap n i z) = true := by kernel_rfl
set_option maxRecDepth 100000 in
set_option maxHeartbeats 4000000 in
theorem region_ja {rid : Nat} {Q : Exit → Act → World → Prop} {a0 : Act} {w : World} {xb cb hb lb lw gt xo xf xcap co cf ccap n i : Nat} {z : Int} (hsz : a0.tmps.size = 308) (x3 : a0.eval (.tmp 3) = Value.pointer (some ⟨cb, 0, none⟩)) (x7 : a0.eval (.tmp 7) = Value.pointer (some ⟨xb, 0, none⟩)) (x22 : a0.eval (.tmp 22) = Value.func (.func 38) #[] #[.pointer (some ⟨hb, 0, none⟩), .pointer (some ⟨lb, 0, none⟩)]) (x23 : a0.eval (.tmp 23) = Value.int .i64 (i))
    (FX : ∀ W', Mod noB w W' → W'.cell? ⟨xb, 2, none⟩ = some (.slice (some ⟨xo, xf, none⟩) n xcap)) (FC : ∀ W', Mod noB w W' → W'.cell? ⟨cb, 2, none⟩ = some (.slice (some ⟨co, cf, none⟩) n ccap)) (FX2 : ∀ W', Mod noB w W' → W'.cell? ⟨xo, xf + i, none⟩ = some (.int .i64 (jf lw gt z))) (FC2 : ∀ W', Mod noB w W' → W'.cell? ⟨co, cf + i, none⟩ = some (.int .i64 z)) (HN : NowAt hb lb lw gt w) (hin : i < n) (hz : -1000 ≤ z ∧ z ≤ 1000)
    (hend : ∀ w', Mod noB w w' → Q .normal (jaDs.foldl (fun a x => a.put (some x.2) (jaC xb cb hb lb lw gt xo xf xcap co cf ccap n i z x.1)) a0) w') : (Code.region rid jaOps.toArray true).wp Try.prog Q a0 w := by
  refine region_known jaB jaDs hsz jaOk (jaC xb cb hb lb lw gt xo xf xcap co cf ccap n i z) (jaG xb cb hb lb lw gt xo xf xcap co cf ccap n i z) ?_ hend
  intro ij o ρ w' hi ho hM kn far
  have hlt : ij < 13 := hi
  rcases (by omega : ij = 0 ∨ ij = 1 ∨ ij = 2 ∨ ij = 3 ∨ ij = 4 ∨ ij = 5 ∨ ij = 6 ∨ ij = 7 ∨ ij = 8 ∨ ij = 9 ∨ ij = 10 ∨ ij = 11 ∨ ij = 12) with rfl | rfl | rfl | rfl | rfl | rfl | rfl | rfl | rfl | rfl | rfl | rfl | rfl
  all_goals (obtain rfl := Option.some.inj ho)
  · have e7 : ρ.eval (.tmp 7) = Value.pointer (some ⟨xb, 0, none⟩) := (far 7 (by decide +kernel)).trans x7
    refine step_run rfl (Value.pointer (some ⟨xb, 2, none⟩)) _ ?_ ⟨rfl, Mod.refl _ _⟩
    simp only [execOp, e7]
    go_simp
  · have e193 : ρ.eval (.tmp 193) = Value.pointer (some ⟨xb, 2, none⟩) := kn 0 193 (by decide +kernel) (by decide +kernel)
    have c := FX _ hM
    refine step_run rfl (Value.slice (some ⟨xo, xf, none⟩) n xcap) _ ?_ ⟨rfl, Mod.refl _ _⟩
    simp only [execOp, e193]
    go_simp
  · have e23 : ρ.eval (.tmp 23) = Value.int .i64 (i) := (far 23 (by decide +kernel)).trans x23
    exact step_run rfl _ _ (run_move rfl e23) ⟨rfl, Mod.refl _ _⟩
  · have e194 : ρ.eval (.tmp 194) = Value.slice (some ⟨xo, xf, none⟩) n xcap := kn 1 194 (by decide +kernel) (by decide +kernel)
    have e195 : ρ.eval (.tmp 195) = Value.int .i64 (i) := kn 2 195 (by decide +kernel) (by decide +kernel)
    exact step_run rfl _ _ (run_idx22J rfl e194 e195 hin) ⟨rfl, Mod.refl _ _⟩
  · have e196 : ρ.eval (.tmp 196) = Value.pointer (some ⟨xo, xf + i, none⟩) := kn 3 196 (by decide +kernel) (by decide +kernel)
    have c := FX2 _ hM
    refine step_run rfl (Value.int .i64 (jf lw gt z)) _ ?_ ⟨rfl, Mod.refl _ _⟩
    simp only [execOp, e196]
    go_simp
  · have e22 : ρ.eval (.tmp 22) = Value.func (.func 38) #[] #[.pointer (some ⟨hb, 0, none⟩), .pointer (some ⟨lb, 0, none⟩)] := (far 22 (by decide +kernel)).trans x22
    exact step_run rfl _ _ (run_move rfl e22) ⟨rfl, Mod.refl _ _⟩
  · have e3 : ρ.eval (.tmp 3) = Value.pointer (some ⟨cb, 0, none⟩) := (far 3 (by decide +kernel)).trans x3
    refine step_run rfl (Value.pointer (some ⟨cb, 2, none⟩)) _ ?_ ⟨rfl, Mod.refl _ _⟩
    simp only [execOp, e3]
    go_simp
  · have e199 : ρ.eval (.tmp 199) = Value.pointer (some ⟨cb, 2, none⟩) := kn 6 199 (by decide +kernel) (by decide +kernel)
    have c := FC _ hM
    refine step_run rfl (Value.slice (some ⟨co, cf, none⟩) n ccap) _ ?_ ⟨rfl, Mod.refl _ _⟩
    simp only [execOp, e199]
    go_simp
  · have e23 : ρ.eval (.tmp 23) = Value.int .i64 (i) := (far 23 (by decide +kernel)).trans x23
    exact step_run rfl _ _ (run_move rfl e23) ⟨rfl, Mod.refl _ _⟩
  · have e200 : ρ.eval (.tmp 200) = Value.slice (some ⟨co, cf, none⟩) n ccap := kn 7 200 (by decide +kernel) (by decide +kernel)
    have e201 : ρ.eval (.tmp 201) = Value.int .i64 (i) := kn 8 201 (by decide +kernel) (by decide +kernel)
    exact step_run rfl _ _ (run_idx22J rfl e200 e201 hin) ⟨rfl, Mod.refl _ _⟩
  · have e202 : ρ.eval (.tmp 202) = Value.pointer (some ⟨co, cf + i, none⟩) := kn 9 202 (by decide +kernel) (by decide +kernel)
    have c := FC2 _ hM
    refine step_run rfl (Value.int .i64 (z)) _ ?_ ⟨rfl, Mod.refl _ _⟩
    simp only [execOp, e202]
    go_simp
  · have e198 : ρ.eval (.tmp 198) = Value.func (.func 38) #[] #[.pointer (some ⟨hb, 0, none⟩), .pointer (some ⟨lb, 0, none⟩)] := kn 5 198 (by decide +kernel) (by decide +kernel)
    have e203 : ρ.eval (.tmp 203) = Value.int .i64 (z) := kn 10 203 (by decide +kernel) (by decide +kernel)
    refine step_callV rfl 38 _ _ _ _ rfl e198 enter38 ?_
    simp only [List.map_toArray, List.map_cons, List.map_nil, e203]
    refine (now_any (z) (by omega) w' (HN.mod hM)).mono ?_
    rintro e w2 ⟨h1, rfl⟩
    exact ⟨_, h1, rfl, Mod.refl _ _⟩
  · have e197 : ρ.eval (.tmp 197) = Value.int .i64 (jf lw gt z) := kn 4 197 (by decide +kernel) (by decide +kernel)
    have e204 : ρ.eval (.tmp 204) = Value.int .i64 (jf lw gt z) := kn 11 204 (by decide +kernel) (by decide +kernel)
    exact step_run rfl _ _ (run_neqSameJ rfl e197 e204) ⟨rfl, Mod.refl _ _⟩
theorem SideRow.mod {sb0 n : Nat} {ao : Option Addr} {P : Nat → Int} {M : Nat → Nat} {W W' : World} (h : SideRow sb0 n ao P M W) (hm : Mod noB W W') : SideRow sb0 n ao P M W' := fun hn => by
  obtain ⟨b, h1, h2, h3, h4⟩ := h hn
  have := hm.size
  exact ⟨b, h1, h2, by omega, fun j hj => ⟨(cell_same (hm.block b h3 id) _).trans (h4 j hj).1, (cell_same (hm.block b h3 id) _).trans (h4 j hj).2⟩⟩
/-- A drawn region each of whose operations yields a value with a property of its own. -/
theorem region_knownP {rid n : Nat} {Q : Exit → Act → World → Prop} {a0 : Act} {w : World} {l : List Oper} (hlow : lowB l = true) (ds : List (Nat × Nat)) (hsz : a0.tmps.size = n) (hok : slotsB l ds n = true) (P : Nat → Value → World → Prop)
    (hPm : ∀ j v w1 w2, P j v w1 → Mod noB w1 w2 → P j v w2)
    (hs : ∀ i o (ρ : Act) w', i < l.length → l[i]? = some o → Mod noB w w' → (∀ j s, waitsB o j = true → (j, s) ∈ ds → P j (ρ.eval (.tmp s)) w') → (∀ s, s ∉ ds.map Prod.snd → ρ.eval (.tmp s) = a0.eval (.tmp s)) →
      wpList Try.prog l.toArray (only fun a' w2 => (∃ v, a' = ρ.put o.dst v ∧ P i v w2) ∧ Mod noB w' w2) [o] ρ w')
    (hend : ∀ (vs : Nat → Value) w', Mod noB w w' → (∀ x ∈ ds, P x.1 (vs x.1) w') → Q .normal (ds.foldl (fun a x => a.put (some x.2) (vs x.1)) a0) w') : (Code.region rid l.toArray true).wp Try.prog Q a0 w := by
  simp only [slotsB, Bool.and_eq_true, decide_eq_true_eq, List.all_eq_true, List.mem_range] at hok
  obtain ⟨⟨⟨n1, n2⟩, n3⟩, n4⟩ := hok
  have hin : ∀ i o s, l[i]? = some o → o.dst = some s → (i, s) ∈ ds := fun i o s ho hd => by
    have := n4 i (List.getElem?_eq_some_iff.1 ho).1
    simpa [ho, hd] using this
  refine region_predW hlow ds P (fun _ w' => Mod noB w w') (fun w1 w2 => Mod noB w1 w2) hPm n1 n2 (fun x hx => by rw [hsz]; exact (n3 x hx).1) hin (fun i o ho hd => ?_) (fun x hx => (n3 x hx).2) (Mod.refl noB w).drew ?_ ?_
  · have := n4 i (List.getElem?_eq_some_iff.1 ho).1
    simpa [ho, hd] using this
  · intro D i o ρ w' hcl ho hD hdep hP hA hM
    have kn : ∀ j s, waitsB o j = true → (j, s) ∈ ds → P j (ρ.eval (.tmp s)) w' := fun j s hw hm => by
      obtain ⟨e, he, hb, hj⟩ : ∃ e ∈ o.after, Region.binds .any e = true ∧ e.on = j := by
        obtain ⟨k, hk, hh⟩ := Array.any_eq_true.1 hw
        simp only [Bool.and_eq_true, beq_iff_eq] at hh
        exact ⟨_, Array.getElem_mem hk, hh.1, hh.2⟩
      exact hP j s hm (hj ▸ hdep e he hb)
    refine wpList_mono1W ?_ (hs i o ρ w' (List.getElem?_eq_some_iff.1 ho).1 ho hM kn (fun s hns => hA s fun x hx e => absurd (e ▸ List.mem_map.2 ⟨x, hx, rfl⟩ : s ∈ ds.map Prod.snd) hns))
    rintro a' w2 ⟨⟨v, rfl, hv⟩, hm⟩
    exact ⟨⟨v, rfl, fun _ => hv⟩, hm, hM.trans hm⟩
  · intro vs D w' _ hP hM
    exact hend vs w' hM hP
@[reducible] def jb0 : Oper := { dst := some 261, op := Op.load 24 (Operand.tmp 7), type := 24, pos := "outright.go:348", after := #[], guard := none }
@[reducible] def jb1 : Oper := { dst := some 262, op := Op.move (Operand.tmp 22), type := 66, pos := "outright.go:348", after := #[], guard := none }
@[reducible] def jb2 : Oper := { dst := some 263, op := Op.move (Operand.tmp 24), type := 3, pos := "outright.go:348", after := #[], guard := none }
@[reducible] def jb3 : Oper := { dst := some 264, op := Op.call { callee := Callee.value (Operand.tmp 262), args := #[Operand.tmp 263], argTypes := #[3] }, type := 3, pos := "outright.go:348", after := #[{ on := 1, ground := Ground.data }, { on := 2, ground := Ground.data }], guard := none }
@[reducible] def jb4 : Oper := { dst := some 265, op := Op.call { callee := Callee.value (Operand.func 16), args := #[Operand.tmp 261, Operand.tmp 264], argTypes := #[24, 3] }, type := 31, pos := "outright.go:348", after := #[{ on := 0, ground := Ground.data }, { on := 3, ground := Ground.data }, { on := 3, ground := Ground.chain }], guard := none }
@[reducible] def jb5 : Oper := { dst := some 260, op := Op.move (Operand.tmp 265), type := 31, pos := "outright.go:348", after := #[{ on := 4, ground := Ground.data }], guard := none }
@[reducible] def jb6 : Oper := { dst := some 266, op := Op.extract (Operand.tmp 260) 0, type := 30, pos := "outright.go:348", after := #[{ on := 5, ground := Ground.data }], guard := none }
@[reducible] def jb7 : Oper := { dst := some 267, op := Op.extract (Operand.tmp 260) 1, type := 27, pos := "outright.go:348", after := #[{ on := 5, ground := Ground.data }, { on := 8, ground := Ground.gcOnly Go.Departure.lateStores }], guard := none }
@[reducible] def jb8 : Oper := { dst := some 28, op := Op.assign (Operand.tmp 266), type := 30, pos := "outright.go:348", after := #[{ on := 6, ground := Ground.data }, { on := 4, ground := Ground.chain }, { on := 0, ground := Ground.phase }, { on := 1, ground := Ground.phase }, { on := 2, ground := Ground.phase }, { on := 3, ground := Ground.phase }, { on := 4, ground := Ground.phase }, { on := 5, ground := Ground.phase }, { on := 6, ground := Ground.phase }, { on := 7, ground := Ground.textOnly Go.Departure.lateStores }], guard := none }
@[reducible] def jb9 : Oper := { dst := some 29, op := Op.assign (Operand.tmp 267), type := 27, pos := "outright.go:348", after := #[{ on := 7, ground := Ground.data }, { on := 8, ground := Ground.chain }, { on := 0, ground := Ground.phase }, { on := 1, ground := Ground.phase }, { on := 2, ground := Ground.phase }, { on := 3, ground := Ground.phase }, { on := 4, ground := Ground.phase }, { on := 5, ground := Ground.phase }, { on := 6, ground := Ground.phase }, { on := 7, ground := Ground.phase }, { on := 8, ground := Ground.phase }], guard := none }
@[reducible] def jbOps : List Oper := [jb0, jb1, jb2, jb3, jb4, jb5, jb6, jb7, jb8, jb9]
@[reducible] def jbDs : List (Nat × Nat) := [(0, 261), (1, 262), (2, 263), (3, 264), (4, 265), (5, 260), (6, 266), (7, 267), (8, 28), (9, 29)]
theorem jbB : lowB jbOps = true := by kernel_rfl
theorem jbOk : slotsB jbOps jbDs 308 = true := by decide +kernel
def jbP (cv fv pv kv : Value) (eb m : Nat) (P : Nat → Int) (M : Nat → Nat) (j : Nat) (v : Value) (w : World) : Prop :=
  match j with
  | 0 => v = cv
  | 1 => v = fv
  | 2 => v = pv
  | 3 => v = kv
  | 4 => ∃ so scap, v = .tuple #[.slice so m scap, .int .i64 0] ∧ SideRow eb m so P M w
  | 5 => ∃ so scap, v = .tuple #[.slice so m scap, .int .i64 0] ∧ SideRow eb m so P M w
  | 6 => ∃ so scap, v = .slice so m scap ∧ SideRow eb m so P M w
  | 7 => v = .int .i64 0
  | 8 => ∃ so scap, v = .slice so m scap ∧ SideRow eb m so P M w
  | 9 => v = .int .i64 0
  | _ => False
set_option maxRecDepth 100000 in
set_option maxHeartbeats 4000000 in
theorem region_jb {rid : Nat} {Q : Exit → Act → World → Prop} {a0 : Act} {w : World} {xb hb lb lw gt p eb m : Nat} {cv : Array Value} {P : Nat → Int} {M : Nat → Nat} (hsz : a0.tmps.size = 308)
    (x7 : a0.eval (.tmp 7) = .pointer (some ⟨xb, 0, none⟩)) (x22 : a0.eval (.tmp 22) = Value.func (.func 38) #[] #[.pointer (some ⟨hb, 0, none⟩), .pointer (some ⟨lb, 0, none⟩)]) (x24 : a0.eval (.tmp 24) = .int .i64 (p : Int)) (hp : p ≤ 100)
    (FX : ∀ W', Mod noB w W' → W'.heap[xb]? = some (.cells cv 24)) (hcv : cv.size = 3) (HN : NowAt hb lb lw gt w)
    (HS : ∀ W', Mod noB w W' → Calls Try.prog 16 #[.agg cv, .int .i64 (jf lw gt p)] W' fun e w' => ∃ so scap, e = .returned (.tuple #[.slice so m scap, .int .i64 0]) ∧ SideRow eb m so P M w' ∧ Mod noB W' w')
    (hend : ∀ (vs : Nat → Value) w', Mod noB w w' → (∃ so scap, vs 8 = .slice so m scap ∧ SideRow eb m so P M w') → vs 9 = .int .i64 0 → Q .normal (jbDs.foldl (fun a x => a.put (some x.2) (vs x.1)) a0) w') : (Code.region rid jbOps.toArray true).wp Try.prog Q a0 w := by
  refine region_knownP jbB jbDs hsz jbOk (jbP (.agg cv) (Value.func (.func 38) #[] #[.pointer (some ⟨hb, 0, none⟩), .pointer (some ⟨lb, 0, none⟩)]) (.int .i64 (p : Int)) (.int .i64 (jf lw gt p)) eb m P M) ?_ ?_ ?_
  · intro j v w1 w2 h hm
    unfold jbP at h ⊢
    split at h
    all_goals first
      | exact h
      | (obtain ⟨so, scap, h1, h2⟩ := h; exact ⟨so, scap, h1, h2.mod hm⟩)
  · intro i o ρ w' hi ho hM kn far
    have hlt : i < 10 := hi
    rcases (by omega : i = 0 ∨ i = 1 ∨ i = 2 ∨ i = 3 ∨ i = 4 ∨ i = 5 ∨ i = 6 ∨ i = 7 ∨ i = 8 ∨ i = 9) with rfl | rfl | rfl | rfl | rfl | rfl | rfl | rfl | rfl | rfl
    all_goals (obtain rfl := Option.some.inj ho)
    · have e7 : ρ.eval (.tmp 7) = .pointer (some ⟨xb, 0, none⟩) := (far 7 (by decide +kernel)).trans x7
      exact step_loadRow rfl 24 rfl xb e7 _ 24 _ (FX _ hM) rfl Try.underlying24 (by rw [hcv]; exact info24J) ⟨⟨_, rfl, rfl⟩, Mod.refl _ _⟩
    · have e22 : ρ.eval (.tmp 22) = Value.func (.func 38) #[] #[.pointer (some ⟨hb, 0, none⟩), .pointer (some ⟨lb, 0, none⟩)] := (far 22 (by decide +kernel)).trans x22
      exact step_run rfl _ _ (run_move rfl e22) ⟨⟨_, rfl, rfl⟩, Mod.refl _ _⟩
    · have e24 : ρ.eval (.tmp 24) = .int .i64 (p : Int) := (far 24 (by decide +kernel)).trans x24
      exact step_run rfl _ _ (run_move rfl e24) ⟨⟨_, rfl, rfl⟩, Mod.refl _ _⟩
    · have e262 : ρ.eval (.tmp 262) = Value.func (.func 38) #[] #[.pointer (some ⟨hb, 0, none⟩), .pointer (some ⟨lb, 0, none⟩)] := kn 1 262 (by decide +kernel) (by decide +kernel)
      have e263 : ρ.eval (.tmp 263) = .int .i64 (p : Int) := kn 2 263 (by decide +kernel) (by decide +kernel)
      refine step_callV rfl 38 _ _ _ _ rfl e262 enter38 ?_
      simp only [List.map_toArray, List.map_cons, List.map_nil, e263]
      refine (now_any (p : Int) (by omega) w' (HN.mod hM)).mono ?_
      rintro e w2 ⟨h1, rfl⟩
      exact ⟨_, h1, ⟨_, rfl, rfl⟩, Mod.refl _ _⟩
    · have e261 : ρ.eval (.tmp 261) = .agg cv := kn 0 261 (by decide +kernel) (by decide +kernel)
      have e264 : ρ.eval (.tmp 264) = .int .i64 (jf lw gt p) := kn 3 264 (by decide +kernel) (by decide +kernel)
      refine step_call rfl 16 _ _ rfl enter16J ?_
      simp only [List.map_toArray, List.map_cons, List.map_nil, e261, e264]
      refine (HS w' hM).mono ?_
      rintro e w2 ⟨so, scap, h1, h2, h3⟩
      exact ⟨_, h1, ⟨_, rfl, so, scap, rfl, h2⟩, h3⟩
    · obtain ⟨so, scap, e265, hr⟩ : ∃ so scap, ρ.eval (.tmp 265) = .tuple #[.slice so m scap, .int .i64 0] ∧ SideRow eb m so P M w' := kn 4 265 (by decide +kernel) (by decide +kernel)
      exact step_run rfl _ _ (run_move rfl e265) ⟨⟨_, rfl, so, scap, rfl, hr⟩, Mod.refl _ _⟩
    · obtain ⟨so, scap, e260, hr⟩ : ∃ so scap, ρ.eval (.tmp 260) = .tuple #[.slice so m scap, .int .i64 0] ∧ SideRow eb m so P M w' := kn 5 260 (by decide +kernel) (by decide +kernel)
      refine step_run rfl (.slice so m scap) _ ?_ ⟨⟨_, rfl, so, scap, rfl, hr⟩, Mod.refl _ _⟩
      simp only [execOp, e260]
      go_simp
    · obtain ⟨so, scap, e260, hr⟩ : ∃ so scap, ρ.eval (.tmp 260) = .tuple #[.slice so m scap, .int .i64 0] ∧ SideRow eb m so P M w' := kn 5 260 (by decide +kernel) (by decide +kernel)
      refine step_run rfl (.int .i64 0) _ ?_ ⟨⟨_, rfl, rfl⟩, Mod.refl _ _⟩
      simp only [execOp, e260]
      go_simp
    · obtain ⟨so, scap, e266, hr⟩ : ∃ so scap, ρ.eval (.tmp 266) = .slice so m scap ∧ SideRow eb m so P M w' := kn 6 266 (by decide +kernel) (by decide +kernel)
      exact step_run rfl _ _ (run_assign rfl e266) ⟨⟨_, rfl, so, scap, rfl, hr⟩, Mod.refl _ _⟩
    · have e267 : ρ.eval (.tmp 267) = .int .i64 0 := kn 7 267 (by decide +kernel) (by decide +kernel)
      exact step_run rfl _ _ (run_assign rfl e267) ⟨⟨_, rfl, rfl⟩, Mod.refl _ _⟩
  · intro vs w' hM hP
    exact hend vs w' hM (hP (8, 28) (by decide +kernel)) (hP (9, 29) (by decide +kernel))
theorem run_lssFJ {o : Oper} {a : Act} {w : World} {x y : Operand} (hop : o.op = .binOp .lss 3 x y 3) {A B : Int} (hx : a.eval x = .int .i64 A) (hy : a.eval y = .int .i64 B) (h : ¬ A < B) : (execOp a.eval o).run Try.prog w = .ok (.value (.bool false)) w := by
  simp only [execOp, hop, hx, hy]
  go_simp
  done
theorem run_geqFJ {o : Oper} {a : Act} {w : World} {x y : Operand} (hop : o.op = .binOp .geq 3 x y 3) {A B : Int} (hx : a.eval x = .int .i64 A) (hy : a.eval y = .int .i64 B) (h : ¬ B ≤ A) : (execOp a.eval o).run Try.prog w = .ok (.value (.bool false)) w := by
  simp only [execOp, hop, hx, hy]
  go_simp
  done
@[reducible] def jc0 : Oper := { dst := some 276, op := Op.fieldAddr 54 (Operand.tmp 31) 0, type := 0, pos := "outright.go:353", after := #[], guard := none }
@[reducible] def jc1 : Oper := { dst := some 277, op := Op.load 3 (Operand.tmp 276), type := 3, pos := "outright.go:353", after := #[{ on := 0, ground := Ground.data }], guard := none }
@[reducible] def jc2 : Oper := { dst := some 278, op := Op.binOp BinOp.lss 3 (Operand.tmp 277) (Operand.const (Value.int IntKind.i64 (-1))) 3, type := 4, pos := "outright.go:353", after := #[{ on := 1, ground := Ground.data }], guard := none }
@[reducible] def jc3 : Oper := { dst := some 279, op := Op.move (Operand.tmp 278), type := 4, pos := "outright.go:353", after := #[{ on := 2, ground := Ground.data }], guard := none }
@[reducible] def jc4 : Oper := { dst := some 280, op := Op.fieldAddr 54 (Operand.tmp 31) 0, type := 0, pos := "outright.go:353", after := #[{ on := 3, ground := Ground.guard }], guard := some (3, false) }
@[reducible] def jc5 : Oper := { dst := some 281, op := Op.load 3 (Operand.tmp 280), type := 3, pos := "outright.go:353", after := #[{ on := 4, ground := Ground.data }, { on := 3, ground := Ground.guard }], guard := some (3, false) }
@[reducible] def jc6 : Oper := { dst := some 282, op := Op.move (Operand.tmp 11), type := 3, pos := "outright.go:353", after := #[{ on := 3, ground := Ground.guard }], guard := some (3, false) }
@[reducible] def jc7 : Oper := { dst := some 283, op := Op.binOp BinOp.geq 3 (Operand.tmp 281) (Operand.tmp 282) 3, type := 4, pos := "outright.go:353", after := #[{ on := 5, ground := Ground.data }, { on := 6, ground := Ground.data }, { on := 3, ground := Ground.guard }], guard := some (3, false) }
@[reducible] def jc8 : Oper := { dst := some 284, op := Op.pick (Operand.tmp 279) (Operand.const (Value.bool true)) (Operand.tmp 283), type := 4, pos := "outright.go:353", after := #[{ on := 3, ground := Ground.data }, { on := 7, ground := Ground.data }], guard := none }
@[reducible] def jc9 : Oper := { dst := some 285, op := Op.move (Operand.tmp 284), type := 4, pos := "outright.go:353", after := #[{ on := 8, ground := Ground.data }, { on := 3, ground := Ground.chain }], guard := none }
@[reducible] def jc10 : Oper := { dst := some 286, op := Op.fieldAddr 54 (Operand.tmp 31) 0, type := 0, pos := "outright.go:353", after := #[{ on := 9, ground := Ground.guard }], guard := some (9, false) }
@[reducible] def jc11 : Oper := { dst := some 287, op := Op.load 3 (Operand.tmp 286), type := 3, pos := "outright.go:353", after := #[{ on := 10, ground := Ground.data }, { on := 9, ground := Ground.guard }], guard := some (9, false) }
@[reducible] def jc12 : Oper := { dst := some 288, op := Op.binOp BinOp.add 3 (Operand.tmp 287) (Operand.const (Value.int IntKind.i64 1)) 3, type := 3, pos := "outright.go:353", after := #[{ on := 11, ground := Ground.data }, { on := 9, ground := Ground.guard }], guard := some (9, false) }
@[reducible] def jc13 : Oper := { dst := some 289, op := Op.indexAddr 67 (Operand.tmp 25) (Operand.tmp 288), type := 0, pos := "outright.go:353", after := #[{ on := 12, ground := Ground.data }, { on := 9, ground := Ground.guard }], guard := some (9, false) }
@[reducible] def jc14 : Oper := { dst := some 290, op := Op.load 3 (Operand.tmp 289), type := 3, pos := "outright.go:353", after := #[{ on := 13, ground := Ground.data }, { on := 9, ground := Ground.guard }], guard := some (9, false) }
@[reducible] def jc15 : Oper := { dst := some 291, op := Op.fieldAddr 54 (Operand.tmp 31) 1, type := 0, pos := "outright.go:353", after := #[{ on := 9, ground := Ground.guard }], guard := some (9, false) }
@[reducible] def jc16 : Oper := { dst := some 292, op := Op.load 3 (Operand.tmp 291), type := 3, pos := "outright.go:353", after := #[{ on := 15, ground := Ground.data }, { on := 9, ground := Ground.guard }], guard := some (9, false) }
@[reducible] def jc17 : Oper := { dst := some 293, op := Op.binOp BinOp.neq 3 (Operand.tmp 290) (Operand.tmp 292) 3, type := 4, pos := "outright.go:353", after := #[{ on := 14, ground := Ground.data }, { on := 16, ground := Ground.data }, { on := 9, ground := Ground.guard }], guard := some (9, false) }
@[reducible] def jc18 : Oper := { dst := some 294, op := Op.pick (Operand.tmp 285) (Operand.const (Value.bool true)) (Operand.tmp 293), type := 4, pos := "outright.go:353", after := #[{ on := 9, ground := Ground.data }, { on := 17, ground := Ground.data }], guard := none }
@[reducible] def jcOps : List Oper := [jc0, jc1, jc2, jc3, jc4, jc5, jc6, jc7, jc8, jc9, jc10, jc11, jc12, jc13, jc14, jc15, jc16, jc17, jc18]
@[reducible] def jcDs : List (Nat × Nat) := [(0, 276), (1, 277), (2, 278), (3, 279), (4, 280), (5, 281), (6, 282), (7, 283), (8, 284), (9, 285), (10, 286), (11, 287), (12, 288), (13, 289), (14, 290), (15, 291), (16, 292), (17, 293), (18, 294)]
theorem jcB : lowB jcOps = true := by kernel_rfl
theorem jcOk : slotsB jcOps jcDs 308 = true := by decide +kernel
@[reducible] def jcC (sb eb N q m : Nat) (pj : Int) : Nat → Value := fun idx => ([Value.pointer (some ⟨sb, 0, none⟩), Value.int .i64 (pj), Value.bool false, Value.bool false, Value.pointer (some ⟨sb, 0, none⟩), Value.int .i64 (pj), Value.int .i64 (N), Value.bool false, Value.bool false, Value.bool false, Value.pointer (some ⟨sb, 0, none⟩), Value.int .i64 (pj), Value.int .i64 (q), Value.pointer (some ⟨eb, q, none⟩), Value.int .i64 (m), Value.pointer (some ⟨sb, 1, none⟩), Value.int .i64 (m), Value.bool false, Value.bool false] : List Value).getD idx undef
theorem jcG (sb eb N q m : Nat) (pj : Int) : guardsC jcOps (jcC sb eb N q m pj) = true := by kernel_rfl
set_option maxRecDepth 100000 in
set_option maxHeartbeats 4000000 in
theorem region_jc {rid : Nat} {Q : Exit → Act → World → Prop} {a0 : Act} {w : World} {sb eb N q m : Nat} {pj : Int} (hsz : a0.tmps.size = 308) (x11 : a0.eval (.tmp 11) = Value.int .i64 (N)) (x25 : a0.eval (.tmp 25) = Value.pointer (some ⟨eb, 0, none⟩)) (x31 : a0.eval (.tmp 31) = Value.pointer (some ⟨sb, 0, none⟩))
    (F0 : ∀ W', Mod noB w W' → W'.cell? ⟨sb, 0, none⟩ = some (.int .i64 pj)) (F1 : ∀ W', Mod noB w W' → W'.cell? ⟨sb, 1, none⟩ = some (.int .i64 m)) (FE : ∀ W', Mod noB w W' → W'.cell? ⟨eb, q, none⟩ = some (.int .i64 m)) (t1 : ¬ pj < -1) (t2 : ¬ (N : Int) ≤ pj) (hq : pj + 1 = (q : Int)) (hq4 : q < 41)
    (hend : ∀ w', Mod noB w w' → Q .normal (jcDs.foldl (fun a x => a.put (some x.2) (jcC sb eb N q m pj x.1)) a0) w') : (Code.region rid jcOps.toArray true).wp Try.prog Q a0 w := by
  refine region_known jcB jcDs hsz jcOk (jcC sb eb N q m pj) (jcG sb eb N q m pj) ?_ hend
  intro i o ρ w' hi ho hM kn far
  have hlt : i < 19 := hi
  rcases (by omega : i = 0 ∨ i = 1 ∨ i = 2 ∨ i = 3 ∨ i = 4 ∨ i = 5 ∨ i = 6 ∨ i = 7 ∨ i = 8 ∨ i = 9 ∨ i = 10 ∨ i = 11 ∨ i = 12 ∨ i = 13 ∨ i = 14 ∨ i = 15 ∨ i = 16 ∨ i = 17 ∨ i = 18) with rfl | rfl | rfl | rfl | rfl | rfl | rfl | rfl | rfl | rfl | rfl | rfl | rfl | rfl | rfl | rfl | rfl | rfl | rfl
  all_goals (obtain rfl := Option.some.inj ho)
  · have e31 : ρ.eval (.tmp 31) = Value.pointer (some ⟨sb, 0, none⟩) := (far 31 (by decide +kernel)).trans x31
    refine step_run rfl (Value.pointer (some ⟨sb, 0, none⟩)) _ ?_ ⟨rfl, Mod.refl _ _⟩
    simp only [execOp, e31]
    go_simp
  · have e276 : ρ.eval (.tmp 276) = Value.pointer (some ⟨sb, 0, none⟩) := kn 0 276 (by decide +kernel) (by decide +kernel)
    have c := F0 _ hM
    refine step_run rfl (Value.int .i64 (pj)) _ ?_ ⟨rfl, Mod.refl _ _⟩
    simp only [execOp, e276]
    go_simp
  · have e277 : ρ.eval (.tmp 277) = Value.int .i64 (pj) := kn 1 277 (by decide +kernel) (by decide +kernel)
    exact step_run rfl _ _ (run_lssFJ rfl e277 rfl t1) ⟨rfl, Mod.refl _ _⟩
  · have e278 : ρ.eval (.tmp 278) = Value.bool false := kn 2 278 (by decide +kernel) (by decide +kernel)
    exact step_run rfl _ _ (run_move rfl e278) ⟨rfl, Mod.refl _ _⟩
  · have e31 : ρ.eval (.tmp 31) = Value.pointer (some ⟨sb, 0, none⟩) := (far 31 (by decide +kernel)).trans x31
    refine step_run rfl (Value.pointer (some ⟨sb, 0, none⟩)) _ ?_ ⟨rfl, Mod.refl _ _⟩
    simp only [execOp, e31]
    go_simp
  · have e280 : ρ.eval (.tmp 280) = Value.pointer (some ⟨sb, 0, none⟩) := kn 4 280 (by decide +kernel) (by decide +kernel)
    have c := F0 _ hM
    refine step_run rfl (Value.int .i64 (pj)) _ ?_ ⟨rfl, Mod.refl _ _⟩
    simp only [execOp, e280]
    go_simp
  · have e11 : ρ.eval (.tmp 11) = Value.int .i64 (N) := (far 11 (by decide +kernel)).trans x11
    exact step_run rfl _ _ (run_move rfl e11) ⟨rfl, Mod.refl _ _⟩
  · have e281 : ρ.eval (.tmp 281) = Value.int .i64 (pj) := kn 5 281 (by decide +kernel) (by decide +kernel)
    have e282 : ρ.eval (.tmp 282) = Value.int .i64 (N) := kn 6 282 (by decide +kernel) (by decide +kernel)
    exact step_run rfl _ _ (run_geqFJ rfl e281 e282 t2) ⟨rfl, Mod.refl _ _⟩
  · have e279 : ρ.eval (.tmp 279) = Value.bool false := kn 3 279 (by decide +kernel) (by decide +kernel)
    have e283 : ρ.eval (.tmp 283) = Value.bool false := kn 7 283 (by decide +kernel) (by decide +kernel)
    exact step_run rfl _ _ (run_pickF rfl e279 e283) ⟨rfl, Mod.refl _ _⟩
  · have e284 : ρ.eval (.tmp 284) = Value.bool false := kn 8 284 (by decide +kernel) (by decide +kernel)
    exact step_run rfl _ _ (run_move rfl e284) ⟨rfl, Mod.refl _ _⟩
  · have e31 : ρ.eval (.tmp 31) = Value.pointer (some ⟨sb, 0, none⟩) := (far 31 (by decide +kernel)).trans x31
    refine step_run rfl (Value.pointer (some ⟨sb, 0, none⟩)) _ ?_ ⟨rfl, Mod.refl _ _⟩
    simp only [execOp, e31]
    go_simp
  · have e286 : ρ.eval (.tmp 286) = Value.pointer (some ⟨sb, 0, none⟩) := kn 10 286 (by decide +kernel) (by decide +kernel)
    have c := F0 _ hM
    refine step_run rfl (Value.int .i64 (pj)) _ ?_ ⟨rfl, Mod.refl _ _⟩
    simp only [execOp, e286]
    go_simp
  · have e287 : ρ.eval (.tmp 287) = Value.int .i64 (pj) := kn 11 287 (by decide +kernel) (by decide +kernel)
    exact step_run rfl _ _ (run_add rfl e287 rfl hq (by omega) (by omega)) ⟨rfl, Mod.refl _ _⟩
  · have e25 : ρ.eval (.tmp 25) = Value.pointer (some ⟨eb, 0, none⟩) := (far 25 (by decide +kernel)).trans x25
    have e288 : ρ.eval (.tmp 288) = Value.int .i64 (q) := kn 12 288 (by decide +kernel) (by decide +kernel)
    exact step_run rfl _ _ (run_arr67 rfl e25 e288 rfl hq4) ⟨rfl, Mod.refl _ _⟩
  · have e289 : ρ.eval (.tmp 289) = Value.pointer (some ⟨eb, q, none⟩) := kn 13 289 (by decide +kernel) (by decide +kernel)
    have c := FE _ hM
    refine step_run rfl (Value.int .i64 (m)) _ ?_ ⟨rfl, Mod.refl _ _⟩
    simp only [execOp, e289]
    go_simp
  · have e31 : ρ.eval (.tmp 31) = Value.pointer (some ⟨sb, 0, none⟩) := (far 31 (by decide +kernel)).trans x31
    refine step_run rfl (Value.pointer (some ⟨sb, 1, none⟩)) _ ?_ ⟨rfl, Mod.refl _ _⟩
    simp only [execOp, e31]
    go_simp
  · have e291 : ρ.eval (.tmp 291) = Value.pointer (some ⟨sb, 1, none⟩) := kn 15 291 (by decide +kernel) (by decide +kernel)
    have c := F1 _ hM
    refine step_run rfl (Value.int .i64 (m)) _ ?_ ⟨rfl, Mod.refl _ _⟩
    simp only [execOp, e291]
    go_simp
  · have e290 : ρ.eval (.tmp 290) = Value.int .i64 (m) := kn 14 290 (by decide +kernel) (by decide +kernel)
    have e292 : ρ.eval (.tmp 292) = Value.int .i64 (m) := kn 16 292 (by decide +kernel) (by decide +kernel)
    exact step_run rfl _ _ (run_neqSameJ rfl e290 e292) ⟨rfl, Mod.refl _ _⟩
  · have e285 : ρ.eval (.tmp 285) = Value.bool false := kn 9 285 (by decide +kernel) (by decide +kernel)
    have e293 : ρ.eval (.tmp 293) = Value.bool false := kn 17 293 (by decide +kernel) (by decide +kernel)
    exact step_run rfl _ _ (run_pickF rfl e285 e293) ⟨rfl, Mod.refl _ _⟩
@[reducible] def jd0 : Oper := { dst := some 295, op := Op.fieldAddr 54 (Operand.tmp 31) 0, type := 0, pos := "outright.go:356", after := #[], guard := none }
@[reducible] def jd1 : Oper := { dst := some 296, op := Op.load 3 (Operand.tmp 295), type := 3, pos := "outright.go:356", after := #[{ on := 0, ground := Ground.data }], guard := none }
@[reducible] def jd2 : Oper := { dst := some 297, op := Op.binOp BinOp.add 3 (Operand.tmp 296) (Operand.const (Value.int IntKind.i64 1)) 3, type := 3, pos := "outright.go:356", after := #[{ on := 1, ground := Ground.data }], guard := none }
@[reducible] def jd3 : Oper := { dst := some 298, op := Op.indexAddr 67 (Operand.tmp 25) (Operand.tmp 297), type := 0, pos := "outright.go:356", after := #[{ on := 2, ground := Ground.data }, { on := 0, ground := Ground.phase }, { on := 1, ground := Ground.phase }, { on := 2, ground := Ground.phase }], guard := none }
@[reducible] def jd4 : Oper := { dst := none, op := Op.store 3 (Operand.tmp 298) (Operand.const (Value.int IntKind.i64 0)), type := 0, pos := "outright.go:356", after := #[{ on := 3, ground := Ground.data }, { on := 0, ground := Ground.phase }, { on := 1, ground := Ground.phase }, { on := 2, ground := Ground.phase }], guard := none }
@[reducible] def jdOps : List Oper := [jd0, jd1, jd2, jd3, jd4]
@[reducible] def jdDs : List (Nat × Nat) := [(0, 295), (1, 296), (2, 297), (3, 298)]
theorem jdD : jdDs = dsOf 0 jdOps := by kernel_rfl
theorem jdOk : slotsB jdOps jdDs 308 = true := by decide +kernel
@[reducible] def jdC (sb eb q : Nat) (pj : Int) : Nat → Value := fun idx => ([Value.pointer (some ⟨sb, 0, none⟩), Value.int .i64 (pj), Value.int .i64 (q), Value.pointer (some ⟨eb, q, none⟩), undef] : List Value).getD idx undef
set_option maxRecDepth 100000 in
set_option maxHeartbeats 4000000 in
theorem region_jd {rid : Nat} {Q : Exit → Act → World → Prop} {a0 : Act} {w : World} {sb eb q : Nat} {pj : Int} (hsz : a0.tmps.size = 308) (x25 : a0.eval (.tmp 25) = Value.pointer (some ⟨eb, 0, none⟩)) (x31 : a0.eval (.tmp 31) = Value.pointer (some ⟨sb, 0, none⟩))
    (F0 : ∀ W', Mod noB w W' → W'.cell? ⟨sb, 0, none⟩ = some (.int .i64 pj)) (HB : ∀ W', Mod noB w W' → ∃ cs ty u0, W'.heap[eb]? = some (.cells cs ty) ∧ cs[q]? = some u0) (hq : pj + 1 = (q : Int)) (hq4 : q < 41)
    (hend : ∀ w', Mod noB w w' → Q .normal (jdDs.foldl (fun a x => a.put (some x.2) (jdC sb eb q pj x.1)) a0) (w'.setCell ⟨eb, q, none⟩ (Value.int .i64 (0)))) : (Code.region rid jdOps.toArray false).wp Try.prog Q a0 w := by
  refine list_knownS jdDs hsz jdOk jdD rfl (jdC sb eb q pj) 4 jd4 rfl rfl rfl ⟨eb, q, none⟩ (Value.int .i64 (0)) ?_ ?_ hend
  · intro j o ρ w' hi ho hM kn far
    rcases (by omega : j = 0 ∨ j = 1 ∨ j = 2 ∨ j = 3) with rfl | rfl | rfl | rfl
    all_goals (obtain rfl := Option.some.inj ho)
    · have e31 : ρ.eval (.tmp 31) = Value.pointer (some ⟨sb, 0, none⟩) := (far 31 (by decide +kernel)).trans x31
      refine step_run rfl (Value.pointer (some ⟨sb, 0, none⟩)) _ ?_ ⟨rfl, Mod.refl _ _⟩
      simp only [execOp, e31]
      go_simp
    · have e295 : ρ.eval (.tmp 295) = Value.pointer (some ⟨sb, 0, none⟩) := kn 0 295 (by decide +kernel) (by decide +kernel)
      have c := F0 _ hM
      refine step_run rfl (Value.int .i64 (pj)) _ ?_ ⟨rfl, Mod.refl _ _⟩
      simp only [execOp, e295]
      go_simp
    · have e296 : ρ.eval (.tmp 296) = Value.int .i64 (pj) := kn 1 296 (by decide +kernel) (by decide +kernel)
      exact step_run rfl _ _ (run_add rfl e296 rfl hq (by omega) (by omega)) ⟨rfl, Mod.refl _ _⟩
    · have e25 : ρ.eval (.tmp 25) = Value.pointer (some ⟨eb, 0, none⟩) := (far 25 (by decide +kernel)).trans x25
      have e297 : ρ.eval (.tmp 297) = Value.int .i64 (q) := kn 2 297 (by decide +kernel) (by decide +kernel)
      exact step_run rfl _ _ (run_arr67 rfl e25 e297 rfl hq4) ⟨rfl, Mod.refl _ _⟩
  · intro ρ w' hM kn far
    have e1 : ρ.eval (.tmp 298) = Value.pointer (some ⟨eb, q, none⟩) := kn 3 298 (by decide +kernel) (by decide +kernel)
    obtain ⟨cs, ty, u0, h1, h2⟩ := HB w' hM
    exact step_store3 rfl rfl e1 rfl h1 h2 ⟨rfl, rfl⟩
end Go.Proofs.Ytogalmkeipigeaa

/- CutJoined: its loops. (Their code and frames: written by wip/tools.) -/
namespace Go.Proofs.Ytogalmkeipigeaa
open Go Go.RowKit Go.Shelf

/-- A row of numbers, told by a function of the place. -/
def WnAt (eb : Nat) (E : Nat → Nat) (W : World) : Prop := W.heap[eb]? = some (.cells (fcells 41 fun i => .int .i64 (E i : Nat)) 67)
theorem WnAt.mod {eb : Nat} {E : Nat → Nat} {W W' : World} (h : WnAt eb E W) (hm : Mod noB W W') : WnAt eb E W' := hm.at h id
theorem WnAt.set {eb : Nat} {E : Nat → Nat} {W : World} (h : WnAt eb E W) (i m : Nat) {z : Int} (hz : z = (m : Nat)) : WnAt eb (fun j => if j = i then m else E j) (W.setCell ⟨eb, i, none⟩ (.int .i64 z)) := by
  subst hz
  have e : (fun j => if j = i then Value.int .i64 m else .int .i64 (E j)) = fun j => Value.int .i64 ((if j = i then m else E j : Nat) : Int) := by
    funext j
    by_cases e : j = i <;> simp [e]
  exact (fcells_store h i (.int .i64 m)).trans (congrArg (fun f => some (Obj.cells (fcells 41 f) 67)) e)
theorem WnAt.cell {eb : Nat} {E : Nat → Nat} {W : World} (h : WnAt eb E W) {i : Nat} (hi : i < 41) : W.cell? ⟨eb, i, none⟩ = some (.int .i64 (E i : Nat)) := fcells_cell h hi
theorem WnAt.frozen {eb : Nat} {E : Nat → Nat} {W : World} (h : WnAt eb E W) (i : Nat) : W.frozen? ⟨eb, i, none⟩ = false := cells_frozen h i
@[reducible] def jo_mapBody : Code := (Code.block 0 (((Code.region 21 #[{ dst := some 186, op := Op.move (Operand.tmp 23), type := 3, pos := "outright.go:326", after := #[], guard := none }, { dst := some 187, op := Op.fieldAddr 24 (Operand.tmp 3) 2, type := 0, pos := "outright.go:326", after := #[], guard := none }, { dst := some 188, op := Op.load 22 (Operand.tmp 187), type := 22, pos := "outright.go:326", after := #[{ on := 1, ground := Ground.data }], guard := none }, { dst := some 189, op := Op.call { callee := Callee.builtin Builtin.len, args := #[Operand.tmp 188], argTypes := #[22] }, type := 3, pos := "outright.go:326", after := #[{ on := 2, ground := Ground.data }], guard := none }, { dst := some 190, op := Op.binOp BinOp.lss 3 (Operand.tmp 186) (Operand.tmp 189) 3, type := 4, pos := "outright.go:326", after := #[{ on := 0, ground := Ground.data }, { on := 3, ground := Ground.data }], guard := none }] false).seq (Code.cond (Operand.tmp 190) Code.skip (Code.exit 0))).seq ((Code.block 1 ((Code.region 23 #[{ dst := some 193, op := Op.fieldAddr 24 (Operand.tmp 7) 2, type := 0, pos := "outright.go:327", after := #[], guard := none }, { dst := some 194, op := Op.load 22 (Operand.tmp 193), type := 22, pos := "outright.go:327", after := #[{ on := 0, ground := Ground.data }], guard := none }, { dst := some 195, op := Op.move (Operand.tmp 23), type := 3, pos := "outright.go:327", after := #[], guard := none }, { dst := some 196, op := Op.indexAddr 22 (Operand.tmp 194) (Operand.tmp 195), type := 0, pos := "outright.go:327", after := #[{ on := 1, ground := Ground.data }, { on := 2, ground := Ground.data }], guard := none }, { dst := some 197, op := Op.load 3 (Operand.tmp 196), type := 3, pos := "outright.go:327", after := #[{ on := 3, ground := Ground.data }], guard := none }, { dst := some 198, op := Op.move (Operand.tmp 22), type := 66, pos := "outright.go:327", after := #[], guard := none }, { dst := some 199, op := Op.fieldAddr 24 (Operand.tmp 3) 2, type := 0, pos := "outright.go:327", after := #[], guard := none }, { dst := some 200, op := Op.load 22 (Operand.tmp 199), type := 22, pos := "outright.go:327", after := #[{ on := 6, ground := Ground.data }], guard := none }, { dst := some 201, op := Op.move (Operand.tmp 23), type := 3, pos := "outright.go:327", after := #[], guard := none }, { dst := some 202, op := Op.indexAddr 22 (Operand.tmp 200) (Operand.tmp 201), type := 0, pos := "outright.go:327", after := #[{ on := 7, ground := Ground.data }, { on := 8, ground := Ground.data }], guard := none }, { dst := some 203, op := Op.load 3 (Operand.tmp 202), type := 3, pos := "outright.go:327", after := #[{ on := 9, ground := Ground.data }], guard := none }, { dst := some 204, op := Op.call { callee := Callee.value (Operand.tmp 198), args := #[Operand.tmp 203], argTypes := #[3] }, type := 3, pos := "outright.go:327", after := #[{ on := 5, ground := Ground.data }, { on := 10, ground := Ground.data }], guard := none }, { dst := some 205, op := Op.binOp BinOp.neq 3 (Operand.tmp 197) (Operand.tmp 204) 3, type := 4, pos := "outright.go:327", after := #[{ on := 4, ground := Ground.data }, { on := 11, ground := Ground.data }], guard := none }] true).seq (Code.cond (Operand.tmp 205) ((Code.region 24 #[{ dst := some 6, op := Op.assign (Operand.const (Value.bool false)), type := 4, pos := "outright.go:328", after := #[], guard := none }] false).seq Code.ret) Code.skip))).seq (Code.region 22 #[{ dst := some 191, op := Op.move (Operand.tmp 23), type := 3, pos := "outright.go:326", after := #[], guard := none }, { dst := some 192, op := Op.binOp BinOp.add 3 (Operand.tmp 191) (Operand.const (Value.int IntKind.i64 1)) 3, type := 3, pos := "outright.go:326", after := #[{ on := 0, ground := Ground.data }], guard := none }, { dst := some 23, op := Op.assign (Operand.tmp 192), type := 3, pos := "outright.go:326", after := #[{ on := 1, ground := Ground.data }, { on := 0, ground := Ground.phase }, { on := 1, ground := Ground.phase }], guard := none }] false))).loop)

set_option maxRecDepth 100000 in
set_option maxHeartbeats 16000000 in
theorem jo_map {x0 x1 x2 x4 x5 x6 x8 x9 x10 x11 x12 x13 x14 x15 x16 x17 x18 x19 x20 x21 x24 x25 x26 x27 x28 x29 x30 x31 x32 x33 x34 x35 x36 x37 x38 x39 x40 x41 x42 x43 x44 x45 x46 x47 x48 x49 x50 x51 x52 x53 x54 x55 x56 x57 x58 x59 x60 x61 x62 x63 x64 x65 x66 x67 x68 x69 x70 x71 x72 x73 x74 x75 x76 x77 x78 x79 x80 x81 x82 x83 x84 x85 x86 x87 x88 x89 x90 x91 x92 x93 x94 x95 x96 x97 x98 x99 x100 x101 x102 x103 x104 x105 x106 x107 x108 x109 x110 x111 x112 x113 x114 x115 x116 x117 x118 x119 x120 x121 x122 x123 x124 x125 x126 x127 x128 x129 x130 x131 x132 x133 x134 x135 x136 x137 x138 x139 x140 x141 x142 x143 x144 x145 x146 x147 x148 x149 x150 x151 x152 x153 x154 x155 x156 x157 x158 x159 x160 x161 x162 x163 x164 x165 x166 x167 x168 x169 x170 x171 x172 x173 x174 x175 x176 x177 x178 x179 x180 x181 x182 x183 x184 x185 x186 x187 x188 x189 x190 x191 x192 x193 x194 x195 x196 x197 x198 x199 x200 x201 x202 x203 x204 x205 x206 x207 x208 x209 x210 x211 x212 x213 x214 x215 x216 x217 x218 x219 x220 x221 x222 x223 x224 x225 x226 x227 x228 x229 x230 x231 x232 x233 x234 x235 x236 x237 x238 x239 x240 x241 x242 x243 x244 x245 x246 x247 x248 x249 x250 x251 x252 x253 x254 x255 x256 x257 x258 x259 x260 x261 x262 x263 x264 x265 x266 x267 x268 x269 x270 x271 x272 x273 x274 x275 x276 x277 x278 x279 x280 x281 x282 x283 x284 x285 x286 x287 x288 x289 x290 x291 x292 x293 x294 x295 x296 x297 x298 x299 x300 x301 x302 x303 x304 x305 x306 x307 : Value} (W H : Nat) (ao xo : Option Addr) (zs : List Int) (cap xcap cb xb hb lb lo hi : Nat) (w1 : World) (hz : ∀ z ∈ zs, 0 ≤ z ∧ z < 40) (hlen : zs.length ≤ 288) (HFB : Hold (∀ W', Mod noB w1 W' → W'.heap[cb]? = some (.cells #[.int .i64 W, .int .i64 H, .slice ao zs.length cap] 24) ∧ IntsAt W' ao zs ∧ W'.heap[xb]? = some (.cells #[.int .i64 W, .int .i64 H, .slice xo zs.length xcap] 24) ∧ IntsAt W' xo (zs.map (jf lo hi)) ∧ NowAt hb lb lo hi W')) :
    Code.wp Try.prog jo_mapBody (only fun a' w' => ∃ v : Nat → Value, a' = { tmps := List.toArray (x0 :: x1 :: x2 :: Value.pointer (some ⟨cb, 0, none⟩) :: x4 :: x5 :: v 6 :: Value.pointer (some ⟨xb, 0, none⟩) :: x8 :: x9 :: x10 :: x11 :: x12 :: x13 :: x14 :: x15 :: x16 :: x17 :: x18 :: x19 :: x20 :: x21 :: Value.func (.func 38) #[] #[.pointer (some ⟨hb, 0, none⟩), .pointer (some ⟨lb, 0, none⟩)] :: v 23 :: x24 :: x25 :: x26 :: x27 :: x28 :: x29 :: x30 :: x31 :: x32 :: x33 :: x34 :: x35 :: x36 :: x37 :: x38 :: x39 :: x40 :: x41 :: x42 :: x43 :: x44 :: x45 :: x46 :: x47 :: x48 :: x49 :: x50 :: x51 :: x52 :: x53 :: x54 :: x55 :: x56 :: x57 :: x58 :: x59 :: x60 :: x61 :: x62 :: x63 :: x64 :: x65 :: x66 :: x67 :: x68 :: x69 :: x70 :: x71 :: x72 :: x73 :: x74 :: x75 :: x76 :: x77 :: x78 :: x79 :: x80 :: x81 :: x82 :: x83 :: x84 :: x85 :: x86 :: x87 :: x88 :: x89 :: x90 :: x91 :: x92 :: x93 :: x94 :: x95 :: x96 :: x97 :: x98 :: x99 :: x100 :: x101 :: x102 :: x103 :: x104 :: x105 :: x106 :: x107 :: x108 :: x109 :: x110 :: x111 :: x112 :: x113 :: x114 :: x115 :: x116 :: x117 :: x118 :: x119 :: x120 :: x121 :: x122 :: x123 :: x124 :: x125 :: x126 :: x127 :: x128 :: x129 :: x130 :: x131 :: x132 :: x133 :: x134 :: x135 :: x136 :: x137 :: x138 :: x139 :: x140 :: x141 :: x142 :: x143 :: x144 :: x145 :: x146 :: x147 :: x148 :: x149 :: x150 :: x151 :: x152 :: x153 :: x154 :: x155 :: x156 :: x157 :: x158 :: x159 :: x160 :: x161 :: x162 :: x163 :: x164 :: x165 :: x166 :: x167 :: x168 :: x169 :: x170 :: x171 :: x172 :: x173 :: x174 :: x175 :: x176 :: x177 :: x178 :: x179 :: x180 :: x181 :: x182 :: x183 :: x184 :: x185 :: v 186 :: v 187 :: v 188 :: v 189 :: v 190 :: v 191 :: v 192 :: v 193 :: v 194 :: v 195 :: v 196 :: v 197 :: v 198 :: v 199 :: v 200 :: v 201 :: v 202 :: v 203 :: v 204 :: v 205 :: x206 :: x207 :: x208 :: x209 :: x210 :: x211 :: x212 :: x213 :: x214 :: x215 :: x216 :: x217 :: x218 :: x219 :: x220 :: x221 :: x222 :: x223 :: x224 :: x225 :: x226 :: x227 :: x228 :: x229 :: x230 :: x231 :: x232 :: x233 :: x234 :: x235 :: x236 :: x237 :: x238 :: x239 :: x240 :: x241 :: x242 :: x243 :: x244 :: x245 :: x246 :: x247 :: x248 :: x249 :: x250 :: x251 :: x252 :: x253 :: x254 :: x255 :: x256 :: x257 :: x258 :: x259 :: x260 :: x261 :: x262 :: x263 :: x264 :: x265 :: x266 :: x267 :: x268 :: x269 :: x270 :: x271 :: x272 :: x273 :: x274 :: x275 :: x276 :: x277 :: x278 :: x279 :: x280 :: x281 :: x282 :: x283 :: x284 :: x285 :: x286 :: x287 :: x288 :: x289 :: x290 :: x291 :: x292 :: x293 :: x294 :: x295 :: x296 :: x297 :: x298 :: x299 :: x300 :: x301 :: x302 :: x303 :: x304 :: x305 :: x306 :: x307 :: []), defers := [] } ∧ (Mod noB w1 w'))
      { tmps := List.toArray (x0 :: x1 :: x2 :: Value.pointer (some ⟨cb, 0, none⟩) :: x4 :: x5 :: x6 :: Value.pointer (some ⟨xb, 0, none⟩) :: x8 :: x9 :: x10 :: x11 :: x12 :: x13 :: x14 :: x15 :: x16 :: x17 :: x18 :: x19 :: x20 :: x21 :: Value.func (.func 38) #[] #[.pointer (some ⟨hb, 0, none⟩), .pointer (some ⟨lb, 0, none⟩)] :: Value.int .i64 (0) :: x24 :: x25 :: x26 :: x27 :: x28 :: x29 :: x30 :: x31 :: x32 :: x33 :: x34 :: x35 :: x36 :: x37 :: x38 :: x39 :: x40 :: x41 :: x42 :: x43 :: x44 :: x45 :: x46 :: x47 :: x48 :: x49 :: x50 :: x51 :: x52 :: x53 :: x54 :: x55 :: x56 :: x57 :: x58 :: x59 :: x60 :: x61 :: x62 :: x63 :: x64 :: x65 :: x66 :: x67 :: x68 :: x69 :: x70 :: x71 :: x72 :: x73 :: x74 :: x75 :: x76 :: x77 :: x78 :: x79 :: x80 :: x81 :: x82 :: x83 :: x84 :: x85 :: x86 :: x87 :: x88 :: x89 :: x90 :: x91 :: x92 :: x93 :: x94 :: x95 :: x96 :: x97 :: x98 :: x99 :: x100 :: x101 :: x102 :: x103 :: x104 :: x105 :: x106 :: x107 :: x108 :: x109 :: x110 :: x111 :: x112 :: x113 :: x114 :: x115 :: x116 :: x117 :: x118 :: x119 :: x120 :: x121 :: x122 :: x123 :: x124 :: x125 :: x126 :: x127 :: x128 :: x129 :: x130 :: x131 :: x132 :: x133 :: x134 :: x135 :: x136 :: x137 :: x138 :: x139 :: x140 :: x141 :: x142 :: x143 :: x144 :: x145 :: x146 :: x147 :: x148 :: x149 :: x150 :: x151 :: x152 :: x153 :: x154 :: x155 :: x156 :: x157 :: x158 :: x159 :: x160 :: x161 :: x162 :: x163 :: x164 :: x165 :: x166 :: x167 :: x168 :: x169 :: x170 :: x171 :: x172 :: x173 :: x174 :: x175 :: x176 :: x177 :: x178 :: x179 :: x180 :: x181 :: x182 :: x183 :: x184 :: x185 :: x186 :: x187 :: x188 :: x189 :: x190 :: x191 :: x192 :: x193 :: x194 :: x195 :: x196 :: x197 :: x198 :: x199 :: x200 :: x201 :: x202 :: x203 :: x204 :: x205 :: x206 :: x207 :: x208 :: x209 :: x210 :: x211 :: x212 :: x213 :: x214 :: x215 :: x216 :: x217 :: x218 :: x219 :: x220 :: x221 :: x222 :: x223 :: x224 :: x225 :: x226 :: x227 :: x228 :: x229 :: x230 :: x231 :: x232 :: x233 :: x234 :: x235 :: x236 :: x237 :: x238 :: x239 :: x240 :: x241 :: x242 :: x243 :: x244 :: x245 :: x246 :: x247 :: x248 :: x249 :: x250 :: x251 :: x252 :: x253 :: x254 :: x255 :: x256 :: x257 :: x258 :: x259 :: x260 :: x261 :: x262 :: x263 :: x264 :: x265 :: x266 :: x267 :: x268 :: x269 :: x270 :: x271 :: x272 :: x273 :: x274 :: x275 :: x276 :: x277 :: x278 :: x279 :: x280 :: x281 :: x282 :: x283 :: x284 :: x285 :: x286 :: x287 :: x288 :: x289 :: x290 :: x291 :: x292 :: x293 :: x294 :: x295 :: x296 :: x297 :: x298 :: x299 :: x300 :: x301 :: x302 :: x303 :: x304 :: x305 :: x306 :: x307 :: []), defers := [] } w1 := by
  unfold jo_mapBody
  apply wp_block
  have HZ := Hold.mk hz
  clear hz
  go_loopw [23] (fun i wr => ∃ j : Nat, j ≤ zs.length ∧ i = .int .i64 j ∧ Hold (Mod noB w1 wr)) (fun i _ => zs.length - (intOf i).toNat)
  case atStart => exact ⟨0, Nat.zero_le _, rfl, ⟨Mod.refl _ _⟩⟩
  case round =>
    obtain ⟨j, hj, rfl, HM⟩ := hrel
    obtain ⟨b1, i1, b2, i2, hn⟩ := HFB.out wr HM.out
    have c2 := cellsAt b1 2
    simp at c2
    by_cases hjn : j < zs.length
    · have hI : (j : Int) < (zs.length : Int) := by omega
      obtain ⟨co, cf, rfl, hco, hcc⟩ := i1.lies (fun e => by simp [e] at hjn)
      obtain ⟨xo', xf, rfl, hxo, hxc⟩ := i2.lies (fun e => by simp at e; simp [e] at hjn)
      obtain ⟨z, hz⟩ : ∃ z, zs[j]?.getD 0 = z := ⟨_, rfl⟩
      have hzz : 0 ≤ z ∧ z < 40 := HZ.out z (by rw [← hz, List.getElem?_eq_getElem hjn]; exact List.getElem_mem hjn)
      have f1 := hcc j hjn
      have f2 := hxc j (by rw [List.length_map]; exact hjn)
      rw [hz] at f1
      rw [List.getElem?_map, List.getElem?_eq_getElem hjn] at f2
      rw [List.getElem?_eq_getElem hjn] at hz
      simp only [Option.map_some, Option.getD_some] at f2 hz
      rw [hz] at f2
      have HX := Hold.mk (And.intro b1 (And.intro b2 (And.intro f1 (And.intro f2 (And.intro hn (And.intro hco hxo))))))
      clear b1 b2 i1 i2 hcc hxc f1 f2 hn hz hco hxo
      go_upto_region 23 with fail
      refine region_ja (xb := xb) (cb := cb) (hb := hb) (lb := lb) (lw := lo) (gt := hi) (xo := xo') (xf := xf) (xcap := xcap) (co := co) (cf := cf) (ccap := cap) (n := zs.length) (i := j) (z := z) rfl rfl rfl rfl rfl
        (fun W' h => by have := cellsAt (h.at HX.out.2.1 id) 2; simpa using this) (fun W' h => by have := cellsAt (h.at HX.out.1 id) 2; simpa using this) (fun W' h => (cell_same (h.block xo' HX.out.2.2.2.2.2.2 id) _).trans HX.out.2.2.2.1) (fun W' h => (cell_same (h.block co HX.out.2.2.2.2.2.1 id) _).trans HX.out.2.2.1) HX.out.2.2.2.2.1 hjn (by omega) ?_
      intro w3 hM
      simp only [jaDs, jaC, List.foldl_cons, List.foldl_nil, Act.put, List.setIfInBounds_toArray, List.set_cons_succ, List.set_cons_zero, List.getD_cons_zero, List.getD_cons_succ]
      have HM3 := Hold.mk (HM.out.trans hM)
      clear hM HX c2
      go_wp2
      go_roundw
      case rel => exact ⟨j + 1, by omega, by go_num, HM3⟩
      case measure => simp [intOf]; omega
    · obtain rfl : j = zs.length := by omega
      clear b1 b2 i1 i2 hn
      go_wp2
      first | exact ⟨rfl, end_frame _ _ _ rfl HM.out⟩ | exact ⟨rfl, end_frame2 _ _ rfl, HM.out⟩

@[reducible] def jo_zeroBody : Code := (Code.block 6 ((Code.region 44 #[{ dst := some 273, op := Op.binOp BinOp.lss 3 (Operand.tmp 272) (Operand.tmp 271) 3, type := 0, pos := "outright.go:352", after := #[], guard := none }] false).seq ((Code.cond (Operand.tmp 273) Code.skip (Code.exit 6)).seq ((Code.block 7 ((Code.region 45 #[{ dst := some 274, op := Op.indexAddr 30 (Operand.tmp 270) (Operand.tmp 272), type := 0, pos := "outright.go:352", after := #[], guard := none }, { dst := some 275, op := Op.load 54 (Operand.tmp 274), type := 54, pos := "outright.go:352", after := #[{ on := 0, ground := Ground.data }], guard := none }, { dst := some 31, op := Op.alloc 54, type := 0, pos := "outright.go:352", after := #[], guard := none }, { dst := none, op := Op.store 54 (Operand.tmp 31) (Operand.tmp 275), type := 0, pos := "outright.go:352", after := #[{ on := 2, ground := Ground.data }, { on := 1, ground := Ground.data }, { on := 0, ground := Ground.phase }, { on := 1, ground := Ground.phase }, { on := 2, ground := Ground.phase }], guard := none }] false).seq (((Code.region 46 #[{ dst := some 276, op := Op.fieldAddr 54 (Operand.tmp 31) 0, type := 0, pos := "outright.go:353", after := #[], guard := none }, { dst := some 277, op := Op.load 3 (Operand.tmp 276), type := 3, pos := "outright.go:353", after := #[{ on := 0, ground := Ground.data }], guard := none }, { dst := some 278, op := Op.binOp BinOp.lss 3 (Operand.tmp 277) (Operand.const (Value.int IntKind.i64 (-1))) 3, type := 4, pos := "outright.go:353", after := #[{ on := 1, ground := Ground.data }], guard := none }, { dst := some 279, op := Op.move (Operand.tmp 278), type := 4, pos := "outright.go:353", after := #[{ on := 2, ground := Ground.data }], guard := none }, { dst := some 280, op := Op.fieldAddr 54 (Operand.tmp 31) 0, type := 0, pos := "outright.go:353", after := #[{ on := 3, ground := Ground.guard }], guard := some (3, false) }, { dst := some 281, op := Op.load 3 (Operand.tmp 280), type := 3, pos := "outright.go:353", after := #[{ on := 4, ground := Ground.data }, { on := 3, ground := Ground.guard }], guard := some (3, false) }, { dst := some 282, op := Op.move (Operand.tmp 11), type := 3, pos := "outright.go:353", after := #[{ on := 3, ground := Ground.guard }], guard := some (3, false) }, { dst := some 283, op := Op.binOp BinOp.geq 3 (Operand.tmp 281) (Operand.tmp 282) 3, type := 4, pos := "outright.go:353", after := #[{ on := 5, ground := Ground.data }, { on := 6, ground := Ground.data }, { on := 3, ground := Ground.guard }], guard := some (3, false) }, { dst := some 284, op := Op.pick (Operand.tmp 279) (Operand.const (Value.bool true)) (Operand.tmp 283), type := 4, pos := "outright.go:353", after := #[{ on := 3, ground := Ground.data }, { on := 7, ground := Ground.data }], guard := none }, { dst := some 285, op := Op.move (Operand.tmp 284), type := 4, pos := "outright.go:353", after := #[{ on := 8, ground := Ground.data }, { on := 3, ground := Ground.chain }], guard := none }, { dst := some 286, op := Op.fieldAddr 54 (Operand.tmp 31) 0, type := 0, pos := "outright.go:353", after := #[{ on := 9, ground := Ground.guard }], guard := some (9, false) }, { dst := some 287, op := Op.load 3 (Operand.tmp 286), type := 3, pos := "outright.go:353", after := #[{ on := 10, ground := Ground.data }, { on := 9, ground := Ground.guard }], guard := some (9, false) }, { dst := some 288, op := Op.binOp BinOp.add 3 (Operand.tmp 287) (Operand.const (Value.int IntKind.i64 1)) 3, type := 3, pos := "outright.go:353", after := #[{ on := 11, ground := Ground.data }, { on := 9, ground := Ground.guard }], guard := some (9, false) }, { dst := some 289, op := Op.indexAddr 67 (Operand.tmp 25) (Operand.tmp 288), type := 0, pos := "outright.go:353", after := #[{ on := 12, ground := Ground.data }, { on := 9, ground := Ground.guard }], guard := some (9, false) }, { dst := some 290, op := Op.load 3 (Operand.tmp 289), type := 3, pos := "outright.go:353", after := #[{ on := 13, ground := Ground.data }, { on := 9, ground := Ground.guard }], guard := some (9, false) }, { dst := some 291, op := Op.fieldAddr 54 (Operand.tmp 31) 1, type := 0, pos := "outright.go:353", after := #[{ on := 9, ground := Ground.guard }], guard := some (9, false) }, { dst := some 292, op := Op.load 3 (Operand.tmp 291), type := 3, pos := "outright.go:353", after := #[{ on := 15, ground := Ground.data }, { on := 9, ground := Ground.guard }], guard := some (9, false) }, { dst := some 293, op := Op.binOp BinOp.neq 3 (Operand.tmp 290) (Operand.tmp 292) 3, type := 4, pos := "outright.go:353", after := #[{ on := 14, ground := Ground.data }, { on := 16, ground := Ground.data }, { on := 9, ground := Ground.guard }], guard := some (9, false) }, { dst := some 294, op := Op.pick (Operand.tmp 285) (Operand.const (Value.bool true)) (Operand.tmp 293), type := 4, pos := "outright.go:353", after := #[{ on := 9, ground := Ground.data }, { on := 17, ground := Ground.data }], guard := none }] true).seq (Code.cond (Operand.tmp 294) ((Code.region 47 #[{ dst := some 6, op := Op.assign (Operand.const (Value.bool false)), type := 4, pos := "outright.go:354", after := #[], guard := none }] false).seq Code.ret) Code.skip)).seq (Code.region 48 #[{ dst := some 295, op := Op.fieldAddr 54 (Operand.tmp 31) 0, type := 0, pos := "outright.go:356", after := #[], guard := none }, { dst := some 296, op := Op.load 3 (Operand.tmp 295), type := 3, pos := "outright.go:356", after := #[{ on := 0, ground := Ground.data }], guard := none }, { dst := some 297, op := Op.binOp BinOp.add 3 (Operand.tmp 296) (Operand.const (Value.int IntKind.i64 1)) 3, type := 3, pos := "outright.go:356", after := #[{ on := 1, ground := Ground.data }], guard := none }, { dst := some 298, op := Op.indexAddr 67 (Operand.tmp 25) (Operand.tmp 297), type := 0, pos := "outright.go:356", after := #[{ on := 2, ground := Ground.data }, { on := 0, ground := Ground.phase }, { on := 1, ground := Ground.phase }, { on := 2, ground := Ground.phase }], guard := none }, { dst := none, op := Op.store 3 (Operand.tmp 298) (Operand.const (Value.int IntKind.i64 0)), type := 0, pos := "outright.go:356", after := #[{ on := 3, ground := Ground.data }, { on := 0, ground := Ground.phase }, { on := 1, ground := Ground.phase }, { on := 2, ground := Ground.phase }], guard := none }] false)))).seq (Code.region 49 #[{ dst := some 299, op := Op.binOp BinOp.add 3 (Operand.tmp 272) (Operand.const (Value.int IntKind.i64 1)) 3, type := 3, pos := "outright.go:352", after := #[], guard := none }, { dst := some 272, op := Op.move (Operand.tmp 299), type := 3, pos := "outright.go:352", after := #[{ on := 0, ground := Ground.data }], guard := none }] false)))).loop)

set_option maxRecDepth 100000 in
set_option maxHeartbeats 16000000 in
theorem jo_zero {x0 x1 x2 x3 x4 x5 x6 x7 x8 x9 x10 x12 x13 x14 x15 x16 x17 x18 x19 x20 x21 x22 x23 x24 x26 x27 x28 x29 x30 x31 x32 x33 x34 x35 x36 x37 x38 x39 x40 x41 x42 x43 x44 x45 x46 x47 x48 x49 x50 x51 x52 x53 x54 x55 x56 x57 x58 x59 x60 x61 x62 x63 x64 x65 x66 x67 x68 x69 x70 x71 x72 x73 x74 x75 x76 x77 x78 x79 x80 x81 x82 x83 x84 x85 x86 x87 x88 x89 x90 x91 x92 x93 x94 x95 x96 x97 x98 x99 x100 x101 x102 x103 x104 x105 x106 x107 x108 x109 x110 x111 x112 x113 x114 x115 x116 x117 x118 x119 x120 x121 x122 x123 x124 x125 x126 x127 x128 x129 x130 x131 x132 x133 x134 x135 x136 x137 x138 x139 x140 x141 x142 x143 x144 x145 x146 x147 x148 x149 x150 x151 x152 x153 x154 x155 x156 x157 x158 x159 x160 x161 x162 x163 x164 x165 x166 x167 x168 x169 x170 x171 x172 x173 x174 x175 x176 x177 x178 x179 x180 x181 x182 x183 x184 x185 x186 x187 x188 x189 x190 x191 x192 x193 x194 x195 x196 x197 x198 x199 x200 x201 x202 x203 x204 x205 x206 x207 x208 x209 x210 x211 x212 x213 x214 x215 x216 x217 x218 x219 x220 x221 x222 x223 x224 x225 x226 x227 x228 x229 x230 x231 x232 x233 x234 x235 x236 x237 x238 x239 x240 x241 x242 x243 x244 x245 x246 x247 x248 x249 x250 x251 x252 x253 x254 x255 x256 x257 x258 x259 x260 x261 x262 x263 x264 x265 x266 x267 x268 x269 x273 x274 x275 x276 x277 x278 x279 x280 x281 x282 x283 x284 x285 x286 x287 x288 x289 x290 x291 x292 x293 x294 x295 x296 x297 x298 x299 x300 x301 x302 x303 x304 x305 x306 x307 : Value} (so : Option Addr) (N n scap eb : Nat) (P : Nat → Int) (M : Nat → Nat) (ZT : Nat → Nat → Nat) (w1 : World) (hN : N ≤ 40) (hn : n ≤ 1000) (HS : Hold (ZeroOk N n P M ZT)) (HP : Hold (∀ j, j < n → P j < N)) (HR : Hold (SideRow eb n so P M w1)) (HE : Hold (WnAt eb (ZT 0) w1)) :
    Code.wp Try.prog jo_zeroBody (only fun a' w' => ∃ v : Nat → Value, a' = { tmps := List.toArray (x0 :: x1 :: x2 :: x3 :: x4 :: x5 :: v 6 :: x7 :: x8 :: x9 :: x10 :: Value.int .i64 ((N : Nat)) :: x12 :: x13 :: x14 :: x15 :: x16 :: x17 :: x18 :: x19 :: x20 :: x21 :: x22 :: x23 :: x24 :: Value.pointer (some ⟨eb, 0, none⟩) :: x26 :: x27 :: x28 :: x29 :: x30 :: v 31 :: x32 :: x33 :: x34 :: x35 :: x36 :: x37 :: x38 :: x39 :: x40 :: x41 :: x42 :: x43 :: x44 :: x45 :: x46 :: x47 :: x48 :: x49 :: x50 :: x51 :: x52 :: x53 :: x54 :: x55 :: x56 :: x57 :: x58 :: x59 :: x60 :: x61 :: x62 :: x63 :: x64 :: x65 :: x66 :: x67 :: x68 :: x69 :: x70 :: x71 :: x72 :: x73 :: x74 :: x75 :: x76 :: x77 :: x78 :: x79 :: x80 :: x81 :: x82 :: x83 :: x84 :: x85 :: x86 :: x87 :: x88 :: x89 :: x90 :: x91 :: x92 :: x93 :: x94 :: x95 :: x96 :: x97 :: x98 :: x99 :: x100 :: x101 :: x102 :: x103 :: x104 :: x105 :: x106 :: x107 :: x108 :: x109 :: x110 :: x111 :: x112 :: x113 :: x114 :: x115 :: x116 :: x117 :: x118 :: x119 :: x120 :: x121 :: x122 :: x123 :: x124 :: x125 :: x126 :: x127 :: x128 :: x129 :: x130 :: x131 :: x132 :: x133 :: x134 :: x135 :: x136 :: x137 :: x138 :: x139 :: x140 :: x141 :: x142 :: x143 :: x144 :: x145 :: x146 :: x147 :: x148 :: x149 :: x150 :: x151 :: x152 :: x153 :: x154 :: x155 :: x156 :: x157 :: x158 :: x159 :: x160 :: x161 :: x162 :: x163 :: x164 :: x165 :: x166 :: x167 :: x168 :: x169 :: x170 :: x171 :: x172 :: x173 :: x174 :: x175 :: x176 :: x177 :: x178 :: x179 :: x180 :: x181 :: x182 :: x183 :: x184 :: x185 :: x186 :: x187 :: x188 :: x189 :: x190 :: x191 :: x192 :: x193 :: x194 :: x195 :: x196 :: x197 :: x198 :: x199 :: x200 :: x201 :: x202 :: x203 :: x204 :: x205 :: x206 :: x207 :: x208 :: x209 :: x210 :: x211 :: x212 :: x213 :: x214 :: x215 :: x216 :: x217 :: x218 :: x219 :: x220 :: x221 :: x222 :: x223 :: x224 :: x225 :: x226 :: x227 :: x228 :: x229 :: x230 :: x231 :: x232 :: x233 :: x234 :: x235 :: x236 :: x237 :: x238 :: x239 :: x240 :: x241 :: x242 :: x243 :: x244 :: x245 :: x246 :: x247 :: x248 :: x249 :: x250 :: x251 :: x252 :: x253 :: x254 :: x255 :: x256 :: x257 :: x258 :: x259 :: x260 :: x261 :: x262 :: x263 :: x264 :: x265 :: x266 :: x267 :: x268 :: x269 :: Value.slice so n scap :: Value.int .i64 ((n : Nat)) :: v 272 :: v 273 :: v 274 :: v 275 :: v 276 :: v 277 :: v 278 :: v 279 :: v 280 :: v 281 :: v 282 :: v 283 :: v 284 :: v 285 :: v 286 :: v 287 :: v 288 :: v 289 :: v 290 :: v 291 :: v 292 :: v 293 :: v 294 :: v 295 :: v 296 :: v 297 :: v 298 :: v 299 :: x300 :: x301 :: x302 :: x303 :: x304 :: x305 :: x306 :: x307 :: []), defers := [] } ∧ (WnAt eb (ZT n) w' ∧ Mod (fun k => k = eb) w1 w'))
      { tmps := List.toArray (x0 :: x1 :: x2 :: x3 :: x4 :: x5 :: x6 :: x7 :: x8 :: x9 :: x10 :: Value.int .i64 ((N : Nat)) :: x12 :: x13 :: x14 :: x15 :: x16 :: x17 :: x18 :: x19 :: x20 :: x21 :: x22 :: x23 :: x24 :: Value.pointer (some ⟨eb, 0, none⟩) :: x26 :: x27 :: x28 :: x29 :: x30 :: x31 :: x32 :: x33 :: x34 :: x35 :: x36 :: x37 :: x38 :: x39 :: x40 :: x41 :: x42 :: x43 :: x44 :: x45 :: x46 :: x47 :: x48 :: x49 :: x50 :: x51 :: x52 :: x53 :: x54 :: x55 :: x56 :: x57 :: x58 :: x59 :: x60 :: x61 :: x62 :: x63 :: x64 :: x65 :: x66 :: x67 :: x68 :: x69 :: x70 :: x71 :: x72 :: x73 :: x74 :: x75 :: x76 :: x77 :: x78 :: x79 :: x80 :: x81 :: x82 :: x83 :: x84 :: x85 :: x86 :: x87 :: x88 :: x89 :: x90 :: x91 :: x92 :: x93 :: x94 :: x95 :: x96 :: x97 :: x98 :: x99 :: x100 :: x101 :: x102 :: x103 :: x104 :: x105 :: x106 :: x107 :: x108 :: x109 :: x110 :: x111 :: x112 :: x113 :: x114 :: x115 :: x116 :: x117 :: x118 :: x119 :: x120 :: x121 :: x122 :: x123 :: x124 :: x125 :: x126 :: x127 :: x128 :: x129 :: x130 :: x131 :: x132 :: x133 :: x134 :: x135 :: x136 :: x137 :: x138 :: x139 :: x140 :: x141 :: x142 :: x143 :: x144 :: x145 :: x146 :: x147 :: x148 :: x149 :: x150 :: x151 :: x152 :: x153 :: x154 :: x155 :: x156 :: x157 :: x158 :: x159 :: x160 :: x161 :: x162 :: x163 :: x164 :: x165 :: x166 :: x167 :: x168 :: x169 :: x170 :: x171 :: x172 :: x173 :: x174 :: x175 :: x176 :: x177 :: x178 :: x179 :: x180 :: x181 :: x182 :: x183 :: x184 :: x185 :: x186 :: x187 :: x188 :: x189 :: x190 :: x191 :: x192 :: x193 :: x194 :: x195 :: x196 :: x197 :: x198 :: x199 :: x200 :: x201 :: x202 :: x203 :: x204 :: x205 :: x206 :: x207 :: x208 :: x209 :: x210 :: x211 :: x212 :: x213 :: x214 :: x215 :: x216 :: x217 :: x218 :: x219 :: x220 :: x221 :: x222 :: x223 :: x224 :: x225 :: x226 :: x227 :: x228 :: x229 :: x230 :: x231 :: x232 :: x233 :: x234 :: x235 :: x236 :: x237 :: x238 :: x239 :: x240 :: x241 :: x242 :: x243 :: x244 :: x245 :: x246 :: x247 :: x248 :: x249 :: x250 :: x251 :: x252 :: x253 :: x254 :: x255 :: x256 :: x257 :: x258 :: x259 :: x260 :: x261 :: x262 :: x263 :: x264 :: x265 :: x266 :: x267 :: x268 :: x269 :: Value.slice so n scap :: Value.int .i64 ((n : Nat)) :: Value.int .i64 (0) :: x273 :: x274 :: x275 :: x276 :: x277 :: x278 :: x279 :: x280 :: x281 :: x282 :: x283 :: x284 :: x285 :: x286 :: x287 :: x288 :: x289 :: x290 :: x291 :: x292 :: x293 :: x294 :: x295 :: x296 :: x297 :: x298 :: x299 :: x300 :: x301 :: x302 :: x303 :: x304 :: x305 :: x306 :: x307 :: []), defers := [] } w1 := by
  unfold jo_zeroBody
  apply wp_block
  go_loopw [272] (fun i wr => ∃ j : Nat, j ≤ n ∧ i = .int .i64 j ∧ Hold (WnAt eb (ZT j) wr ∧ Mod (fun k => k = eb) w1 wr)) (fun i _ => n - (intOf i).toNat)
  case atStart => exact ⟨0, Nat.zero_le _, rfl, ⟨HE.out, Mod.refl _ _⟩⟩
  case round =>
    obtain ⟨j, hj, rfl, HQ⟩ := hrel
    by_cases hjn : j < n
    · have hI : (j : Int) < (n : Int) := by omega
      obtain ⟨q, q1, q2, q3, q4, q5⟩ := HS.out j hjn
      have q6 := HP.out j hjn
      obtain ⟨sb, rfl, hsb, hsz, hc⟩ := HR.out (by omega)
      have hsbe : sb ≠ eb := by omega
      have c0 := (cell_same (HQ.out.2.block sb hsz hsbe) _).trans (hc j hjn).1
      have c1 := (cell_same (HQ.out.2.block sb hsz hsbe) _).trans (hc j hjn).2
      clear hc hsb hsz hsbe
      have HX := Hold.mk (And.intro q5 q3)
      clear q5 q3
      generalize hP : P j = pj at *
      generalize hm : M j = m at *
      have t1 : ¬ (pj < -1) := by omega
      have t2 : ¬ ((N : Int) ≤ pj) := by omega
      have q40 : (q : Int) < 41 := by omega
      have t3 : -2 ≤ pj ∧ pj ≤ 1000 := by omega
      have HW : Hold (WnAt eb (ZT j) (wr.alloc (.cells #[.int .i64 pj, .int .i64 (m : Int)] 54)) ∧ Mod (fun k => k = eb) w1 (wr.alloc (.cells #[.int .i64 pj, .int .i64 (m : Int)] 54)) ∧ (wr.alloc (.cells #[.int .i64 pj, .int .i64 (m : Int)] 54)).heap[wr.heap.size]? = some (.cells #[.int .i64 pj, .int .i64 (m : Int)] 54) ∧ wr.heap.size ≠ eb) := ⟨HQ.out.1.mod ((Mod.refl noB wr).alloc _), HQ.out.2.thenB ((Mod.refl noB wr).alloc _), World.alloc_heap_new _ _, by have : eb < wr.heap.size := (Array.getElem?_eq_some_iff.1 HQ.out.1).1; omega⟩
      have HH := Hold.mk q1
      clear hP hm q1
      go_upto_region 46 with fail
      refine region_jc (sb := wr.heap.size) (eb := eb) (N := N) (q := q) (m := m) (pj := pj) rfl rfl rfl rfl (fun W' h => cellsAt (h.at HW.out.2.2.1 id) 0) (fun W' h => cellsAt (h.at HW.out.2.2.1 id) 1) (fun W' h => by rw [← HX.out.2]; exact (HW.out.1.mod h).cell (by omega)) t1 t2 HH.out (by omega) ?_
      intro w3 hM
      simp only [jcDs, jcC, List.foldl_cons, List.foldl_nil, Act.put, List.setIfInBounds_toArray, List.set_cons_succ, List.set_cons_zero, List.getD_cons_zero, List.getD_cons_succ]
      have HM3 := Hold.mk hM
      clear hM c0 c1
      go_upto_region 48 with fail
      refine region_jd (sb := wr.heap.size) (eb := eb) (q := q) (pj := pj) rfl rfl rfl (fun W' h => cellsAt ((HM3.out.trans h).at HW.out.2.2.1 id) 0) (fun W' h => ⟨_, _, _, HW.out.1.mod (HM3.out.trans h), fcells_at (by omega)⟩) HH.out (by omega) ?_
      intro w4 hM
      simp only [jdDs, jdC, List.foldl_cons, List.foldl_nil, Act.put, List.setIfInBounds_toArray, List.set_cons_succ, List.set_cons_zero, List.getD_cons_zero, List.getD_cons_succ]
      have HR5 : Hold (WnAt eb (ZT (j + 1)) (w4.setCell ⟨eb, q, none⟩ (.int .i64 0)) ∧ Mod (fun k => k = eb) w1 (w4.setCell ⟨eb, q, none⟩ (.int .i64 0))) := ⟨by rw [HX.out.1]; exact (HW.out.1.mod (HM3.out.trans hM)).set q 0 rfl, (HW.out.2.1.thenB (HM3.out.trans hM)).sq _⟩
      generalize w4.setCell ⟨eb, q, none⟩ (.int .i64 0) = w5 at *
      clear hM HW HM3
      go_wp2
      go_roundw
      case rel => exact ⟨j + 1, by omega, by go_num, HR5⟩
      case measure => simp [intOf]; omega
    · obtain rfl : j = n := by omega
      go_wp2
      first | exact ⟨rfl, end_frame _ _ _ rfl HQ.out⟩ | exact ⟨rfl, end_frame2 _ _ rfl, HQ.out⟩

end Go.Proofs.Ytogalmkeipigeaa

/- CutJoined: the loops over what is wanted. (Their code and frames: written by wip/tools.) -/
namespace Go.Proofs.Ytogalmkeipigeaa
open Go Go.RowKit Go.Shelf

set_option maxRecDepth 100000 in
theorem zero67 : Try.t67.zero = some (Value.agg (Array.replicate 41 (Value.int .i64 0))) := by kernel_rfl
theorem run_alloc67 {o : Oper} {ρ : Operand → Value} {w : World} (hop : o.op = .alloc 67) : (execOp ρ o).run Try.prog w = .ok (.value (.pointer (some ⟨w.heap.size, 0, none⟩))) (w.alloc (.cells (fcells 41 fun _ => .int .i64 0) 67)) := by
  have hz := zero67
  rw [← fcells_replicate]
  generalize Array.replicate 41 (Value.int .i64 0) = z at *
  simp only [execOp, hop, Instr.alloc, zeroValue, newVar, newRow]
  go_simp
  done
theorem region_alloc67 {rid d : Nat} {pos : String} {ty : TypeId} {Q : Exit → Act → World → Prop} {a0 : Act} {w : World}
    (h : Q .normal (a0.put (some d) (.pointer (some ⟨w.heap.size, 0, none⟩))) (w.alloc (.cells (fcells 41 fun _ => .int .i64 0) 67))) :
    (Code.region rid #[{ dst := some d, op := Op.alloc 67, type := ty, pos := pos, after := #[], guard := none }] false).wp Try.prog Q a0 w := by
  refine wp_region_lit ?_
  refine wpList_plain rfl fun K' hK => ?_
  unfold Oper.wp
  rw [run_alloc67 rfl]
  simp only [Oper.upon]
  exact hK _ _ (wpList_nil h)
theorem run_index67 {o : Oper} {a : Act} {w : World} {x y : Operand} (hop : o.op = .index 67 x y) {i : Nat} {v : Value} {cs : Array Value} (hx : a.eval x = .agg cs) (hy : a.eval y = .int .i64 (i : Int)) (hi : i < 41) (hc : cs[i]? = some v) : (execOp a.eval o).run Try.prog w = .ok (.value v) w := by
  have h1 : (i : Int) < 41 := by omega
  have h0 : (0 : Int) ≤ i ∧ (i : Int) < ((41 : Nat) : Int) := by omega
  have e : (Instr.index 67 (.agg cs) (.int .i64 (i : Int))).run Try.prog w = (part 3 cs i).run Try.prog w := by simp [Instr.index, run_underlying Try.underlying67, asIntOf, h1, go_sem]; intro h; omega
  simp only [execOp, hop, hx, hy, Sem.run_bind]
  rw [e]
  simp [part, hc, go_sem]
@[reducible] def je0 : Oper := { dst := some 303, op := Op.index 67 (Operand.tmp 300) (Operand.tmp 301), type := 3, pos := "outright.go:358", after := #[], guard := none }
@[reducible] def je1 : Oper := { dst := some 33, op := Op.assign (Operand.tmp 303), type := 3, pos := "outright.go:358", after := #[{ on := 0, ground := Ground.data }, { on := 0, ground := Ground.phase }], guard := none }
theorem region_je {rid : Nat} {Q : Exit → Act → World → Prop} {a0 : Act} {w : World} {i : Nat} (x300 : a0.eval (.tmp 300) = .agg (fcells 41 fun _ => .int .i64 0)) (x301 : a0.eval (.tmp 301) = .int .i64 (i : Int)) (hi : i < 41) (hsz : a0.tmps.size = 308)
    (h : Q .normal ((a0.put (some 303) (.int .i64 0)).put (some 33) (.int .i64 0)) w) : (Code.region rid #[je0, je1] false).wp Try.prog Q a0 w := by
  refine wp_region_lit ?_
  refine wpList_plain rfl fun K' hK => ?_
  unfold Oper.wp
  rw [run_index67 rfl x300 x301 hi (fcells_at hi)]
  simp only [Oper.upon]
  refine hK _ _ ?_
  refine wpList_plain rfl fun K' hK => ?_
  unfold Oper.wp
  rw [run_assign (o := je1) rfl (v := .int .i64 0) (eval_put_eq a0 (by rw [hsz]; decide) _)]
  simp only [Oper.upon]
  exact hK _ _ (wpList_nil h)
@[reducible] def jo_noneBody : Code := (Code.block 8 ((Code.region 51 #[{ dst := some 302, op := Op.binOp BinOp.lss 3 (Operand.tmp 301) (Operand.const (Value.int IntKind.i64 41)) 3, type := 0, pos := "outright.go:358", after := #[], guard := none }] false).seq ((Code.cond (Operand.tmp 302) Code.skip (Code.exit 8)).seq ((Code.block 9 ((Code.region 52 #[{ dst := some 303, op := Op.index 67 (Operand.tmp 300) (Operand.tmp 301), type := 3, pos := "outright.go:358", after := #[], guard := none }, { dst := some 33, op := Op.assign (Operand.tmp 303), type := 3, pos := "outright.go:358", after := #[{ on := 0, ground := Ground.data }, { on := 0, ground := Ground.phase }], guard := none }] false).seq ((Code.region 53 #[{ dst := some 304, op := Op.move (Operand.tmp 33), type := 3, pos := "outright.go:359", after := #[], guard := none }, { dst := some 305, op := Op.binOp BinOp.neq 3 (Operand.tmp 304) (Operand.const (Value.int IntKind.i64 0)) 3, type := 4, pos := "outright.go:359", after := #[{ on := 0, ground := Ground.data }], guard := none }] false).seq (Code.cond (Operand.tmp 305) ((Code.region 54 #[{ dst := some 6, op := Op.assign (Operand.const (Value.bool false)), type := 4, pos := "outright.go:360", after := #[], guard := none }] false).seq Code.ret) Code.skip)))).seq (Code.region 55 #[{ dst := some 306, op := Op.binOp BinOp.add 3 (Operand.tmp 301) (Operand.const (Value.int IntKind.i64 1)) 3, type := 3, pos := "outright.go:358", after := #[], guard := none }, { dst := some 301, op := Op.move (Operand.tmp 306), type := 3, pos := "outright.go:358", after := #[{ on := 0, ground := Ground.data }], guard := none }] false)))).loop)

set_option maxRecDepth 100000 in
set_option maxHeartbeats 16000000 in
theorem jo_none {x0 x1 x2 x3 x4 x5 x6 x7 x8 x9 x10 x11 x12 x13 x14 x15 x16 x17 x18 x19 x20 x21 x22 x23 x24 x25 x26 x27 x28 x29 x30 x31 x32 x33 x34 x35 x36 x37 x38 x39 x40 x41 x42 x43 x44 x45 x46 x47 x48 x49 x50 x51 x52 x53 x54 x55 x56 x57 x58 x59 x60 x61 x62 x63 x64 x65 x66 x67 x68 x69 x70 x71 x72 x73 x74 x75 x76 x77 x78 x79 x80 x81 x82 x83 x84 x85 x86 x87 x88 x89 x90 x91 x92 x93 x94 x95 x96 x97 x98 x99 x100 x101 x102 x103 x104 x105 x106 x107 x108 x109 x110 x111 x112 x113 x114 x115 x116 x117 x118 x119 x120 x121 x122 x123 x124 x125 x126 x127 x128 x129 x130 x131 x132 x133 x134 x135 x136 x137 x138 x139 x140 x141 x142 x143 x144 x145 x146 x147 x148 x149 x150 x151 x152 x153 x154 x155 x156 x157 x158 x159 x160 x161 x162 x163 x164 x165 x166 x167 x168 x169 x170 x171 x172 x173 x174 x175 x176 x177 x178 x179 x180 x181 x182 x183 x184 x185 x186 x187 x188 x189 x190 x191 x192 x193 x194 x195 x196 x197 x198 x199 x200 x201 x202 x203 x204 x205 x206 x207 x208 x209 x210 x211 x212 x213 x214 x215 x216 x217 x218 x219 x220 x221 x222 x223 x224 x225 x226 x227 x228 x229 x230 x231 x232 x233 x234 x235 x236 x237 x238 x239 x240 x241 x242 x243 x244 x245 x246 x247 x248 x249 x250 x251 x252 x253 x254 x255 x256 x257 x258 x259 x260 x261 x262 x263 x264 x265 x266 x267 x268 x269 x270 x271 x272 x273 x274 x275 x276 x277 x278 x279 x280 x281 x282 x283 x284 x285 x286 x287 x288 x289 x290 x291 x292 x293 x294 x295 x296 x297 x298 x299 x302 x303 x304 x305 x306 x307 : Value} (w1 : World)  :
    Code.wp Try.prog jo_noneBody (only fun a' w' => ∃ v : Nat → Value, a' = { tmps := List.toArray (x0 :: x1 :: x2 :: x3 :: x4 :: x5 :: v 6 :: x7 :: x8 :: x9 :: x10 :: x11 :: x12 :: x13 :: x14 :: x15 :: x16 :: x17 :: x18 :: x19 :: x20 :: x21 :: x22 :: x23 :: x24 :: x25 :: x26 :: x27 :: x28 :: x29 :: x30 :: x31 :: x32 :: v 33 :: x34 :: x35 :: x36 :: x37 :: x38 :: x39 :: x40 :: x41 :: x42 :: x43 :: x44 :: x45 :: x46 :: x47 :: x48 :: x49 :: x50 :: x51 :: x52 :: x53 :: x54 :: x55 :: x56 :: x57 :: x58 :: x59 :: x60 :: x61 :: x62 :: x63 :: x64 :: x65 :: x66 :: x67 :: x68 :: x69 :: x70 :: x71 :: x72 :: x73 :: x74 :: x75 :: x76 :: x77 :: x78 :: x79 :: x80 :: x81 :: x82 :: x83 :: x84 :: x85 :: x86 :: x87 :: x88 :: x89 :: x90 :: x91 :: x92 :: x93 :: x94 :: x95 :: x96 :: x97 :: x98 :: x99 :: x100 :: x101 :: x102 :: x103 :: x104 :: x105 :: x106 :: x107 :: x108 :: x109 :: x110 :: x111 :: x112 :: x113 :: x114 :: x115 :: x116 :: x117 :: x118 :: x119 :: x120 :: x121 :: x122 :: x123 :: x124 :: x125 :: x126 :: x127 :: x128 :: x129 :: x130 :: x131 :: x132 :: x133 :: x134 :: x135 :: x136 :: x137 :: x138 :: x139 :: x140 :: x141 :: x142 :: x143 :: x144 :: x145 :: x146 :: x147 :: x148 :: x149 :: x150 :: x151 :: x152 :: x153 :: x154 :: x155 :: x156 :: x157 :: x158 :: x159 :: x160 :: x161 :: x162 :: x163 :: x164 :: x165 :: x166 :: x167 :: x168 :: x169 :: x170 :: x171 :: x172 :: x173 :: x174 :: x175 :: x176 :: x177 :: x178 :: x179 :: x180 :: x181 :: x182 :: x183 :: x184 :: x185 :: x186 :: x187 :: x188 :: x189 :: x190 :: x191 :: x192 :: x193 :: x194 :: x195 :: x196 :: x197 :: x198 :: x199 :: x200 :: x201 :: x202 :: x203 :: x204 :: x205 :: x206 :: x207 :: x208 :: x209 :: x210 :: x211 :: x212 :: x213 :: x214 :: x215 :: x216 :: x217 :: x218 :: x219 :: x220 :: x221 :: x222 :: x223 :: x224 :: x225 :: x226 :: x227 :: x228 :: x229 :: x230 :: x231 :: x232 :: x233 :: x234 :: x235 :: x236 :: x237 :: x238 :: x239 :: x240 :: x241 :: x242 :: x243 :: x244 :: x245 :: x246 :: x247 :: x248 :: x249 :: x250 :: x251 :: x252 :: x253 :: x254 :: x255 :: x256 :: x257 :: x258 :: x259 :: x260 :: x261 :: x262 :: x263 :: x264 :: x265 :: x266 :: x267 :: x268 :: x269 :: x270 :: x271 :: x272 :: x273 :: x274 :: x275 :: x276 :: x277 :: x278 :: x279 :: x280 :: x281 :: x282 :: x283 :: x284 :: x285 :: x286 :: x287 :: x288 :: x289 :: x290 :: x291 :: x292 :: x293 :: x294 :: x295 :: x296 :: x297 :: x298 :: x299 :: Value.agg (fcells 41 fun _ => .int .i64 0) :: v 301 :: v 302 :: v 303 :: v 304 :: v 305 :: v 306 :: x307 :: []), defers := [] } ∧ (Mod noB w1 w'))
      { tmps := List.toArray (x0 :: x1 :: x2 :: x3 :: x4 :: x5 :: x6 :: x7 :: x8 :: x9 :: x10 :: x11 :: x12 :: x13 :: x14 :: x15 :: x16 :: x17 :: x18 :: x19 :: x20 :: x21 :: x22 :: x23 :: x24 :: x25 :: x26 :: x27 :: x28 :: x29 :: x30 :: x31 :: x32 :: x33 :: x34 :: x35 :: x36 :: x37 :: x38 :: x39 :: x40 :: x41 :: x42 :: x43 :: x44 :: x45 :: x46 :: x47 :: x48 :: x49 :: x50 :: x51 :: x52 :: x53 :: x54 :: x55 :: x56 :: x57 :: x58 :: x59 :: x60 :: x61 :: x62 :: x63 :: x64 :: x65 :: x66 :: x67 :: x68 :: x69 :: x70 :: x71 :: x72 :: x73 :: x74 :: x75 :: x76 :: x77 :: x78 :: x79 :: x80 :: x81 :: x82 :: x83 :: x84 :: x85 :: x86 :: x87 :: x88 :: x89 :: x90 :: x91 :: x92 :: x93 :: x94 :: x95 :: x96 :: x97 :: x98 :: x99 :: x100 :: x101 :: x102 :: x103 :: x104 :: x105 :: x106 :: x107 :: x108 :: x109 :: x110 :: x111 :: x112 :: x113 :: x114 :: x115 :: x116 :: x117 :: x118 :: x119 :: x120 :: x121 :: x122 :: x123 :: x124 :: x125 :: x126 :: x127 :: x128 :: x129 :: x130 :: x131 :: x132 :: x133 :: x134 :: x135 :: x136 :: x137 :: x138 :: x139 :: x140 :: x141 :: x142 :: x143 :: x144 :: x145 :: x146 :: x147 :: x148 :: x149 :: x150 :: x151 :: x152 :: x153 :: x154 :: x155 :: x156 :: x157 :: x158 :: x159 :: x160 :: x161 :: x162 :: x163 :: x164 :: x165 :: x166 :: x167 :: x168 :: x169 :: x170 :: x171 :: x172 :: x173 :: x174 :: x175 :: x176 :: x177 :: x178 :: x179 :: x180 :: x181 :: x182 :: x183 :: x184 :: x185 :: x186 :: x187 :: x188 :: x189 :: x190 :: x191 :: x192 :: x193 :: x194 :: x195 :: x196 :: x197 :: x198 :: x199 :: x200 :: x201 :: x202 :: x203 :: x204 :: x205 :: x206 :: x207 :: x208 :: x209 :: x210 :: x211 :: x212 :: x213 :: x214 :: x215 :: x216 :: x217 :: x218 :: x219 :: x220 :: x221 :: x222 :: x223 :: x224 :: x225 :: x226 :: x227 :: x228 :: x229 :: x230 :: x231 :: x232 :: x233 :: x234 :: x235 :: x236 :: x237 :: x238 :: x239 :: x240 :: x241 :: x242 :: x243 :: x244 :: x245 :: x246 :: x247 :: x248 :: x249 :: x250 :: x251 :: x252 :: x253 :: x254 :: x255 :: x256 :: x257 :: x258 :: x259 :: x260 :: x261 :: x262 :: x263 :: x264 :: x265 :: x266 :: x267 :: x268 :: x269 :: x270 :: x271 :: x272 :: x273 :: x274 :: x275 :: x276 :: x277 :: x278 :: x279 :: x280 :: x281 :: x282 :: x283 :: x284 :: x285 :: x286 :: x287 :: x288 :: x289 :: x290 :: x291 :: x292 :: x293 :: x294 :: x295 :: x296 :: x297 :: x298 :: x299 :: Value.agg (fcells 41 fun _ => .int .i64 0) :: Value.int .i64 (0) :: x302 :: x303 :: x304 :: x305 :: x306 :: x307 :: []), defers := [] } w1 := by
  unfold jo_noneBody
  apply wp_block
  go_loopw [301] (fun i wr => ∃ j : Nat, j ≤ 41 ∧ i = .int .i64 j ∧ Hold (Mod noB w1 wr)) (fun i _ => 41 - (intOf i).toNat)
  case atStart => exact ⟨0, Nat.zero_le _, rfl, ⟨Mod.refl _ _⟩⟩
  case round =>
    obtain ⟨j, hj, rfl, HM⟩ := hrel
    by_cases hjn : j < 41
    · have hI : (j : Int) < 41 := by omega
      go_upto_region 52 with fail
      refine region_je (i := j) rfl rfl hjn rfl ?_
      simp only [Act.put, List.setIfInBounds_toArray, List.set_cons_succ, List.set_cons_zero]
      go_wp2
      go_roundw
      case rel => exact ⟨j + 1, by omega, by go_num, HM⟩
      case measure => simp [intOf]; omega
    · obtain rfl : j = 41 := by omega
      go_wp2
      first | exact ⟨rfl, end_frame _ _ _ rfl HM.out⟩ | exact ⟨rfl, end_frame2 _ _ rfl, HM.out⟩

end Go.Proofs.Ytogalmkeipigeaa

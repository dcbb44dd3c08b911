/- pairings' iterator: it fills the rows, then places. -/
import Derived.Test.YtnjbamikfjdofaaPairItA
import Derived.Laws.EntriesVeiled
set_option linter.unusedSimpArgs false
set_option linter.unusedVariables false
namespace Go.Proofs.Ytnjbamikfjdofaa
open Go.RowKit Go.Shelf

/-- Between two rounds in which rows are filled. -/
structure FInv (p : Ply) (tabs holes : List Edg) (bt pb hb : Nat) (to ho : Option Addr) (capt caph : Nat) (l : Nat) (W : World) (gb bg : Nat) (i : Nat) (wr : World) : Prop where
  env : Env p tabs holes bt pb hb to ho capt caph wr
  y : wr.heap[W.heap.size]? = some (.cells #[.func (.yield l) #[] #[]] 76)
  g : wr.heap[bg]? = some (.cells #[.slice (some ⟨gb, 0, none⟩) tabs.length tabs.length] 82)
  v : ∃ V, GInv (bg + 1) tabs.length gb (goesL p tabs holes) i V wr
  m : Mod noB W wr
theorem FInv.mod {p : Ply} {tabs holes : List Edg} {bt pb hb : Nat} {to ho : Option Addr} {capt caph : Nat} {l : Nat} {W : World} {gb bg i : Nat} {wr w' : World} (h : FInv p tabs holes bt pb hb to ho capt caph l W gb bg i wr) (hm : Mod noB wr w') : FInv p tabs holes bt pb hb to ho capt caph l W gb bg i w' := by
  obtain ⟨V, hV⟩ := h.v
  exact ⟨h.env.mod hm, hm.at h.y id, hm.at h.g id, ⟨V, hV.mod hm⟩, h.m.trans hm⟩

theorem FInv.step {p : Ply} {tabs holes : List Edg} {bt pb hb : Nat} {to ho : Option Addr} {capt caph : Nat} {l : Nat} {W : World} {bg i : Nat} {w8 : World} (hE : Env p tabs holes bt pb hb to ho capt caph W) (hg : W.heap.size + 1 < bg) {V : Nat → Value} {v : Value} {z : Edg} {base : Nat}
    (h : FInv p tabs holes bt pb hb to ho capt caph l W (W.heap.size + 1) bg i w8 ∧ GInv (bg + 1) tabs.length (W.heap.size + 1) (goesL p tabs holes) i V w8) (hz : tabs[i]? = some z)
    (hO : w8.ownsRow base 3 1 v (indicesR maybe (foundL p z holes)).length ((indicesR maybe (foundL p z holes)).map (Value.int .i64))) (hbs : bg + 1 ≤ base) :
    FInv p tabs holes bt pb hb to ho capt caph l W (W.heap.size + 1) bg (i + 1) (w8.setCell ⟨W.heap.size + 1, i, none⟩ v) := by
  obtain ⟨hF, hV⟩ := h
  have hm : Mod (fun k => k = W.heap.size + 1) w8 (w8.setCell ⟨W.heap.size + 1, i, none⟩ v) := (Mod.refl (fun k => k = W.heap.size + 1) w8).setCell (p := ⟨W.heap.size + 1, i, none⟩) (fun _ => rfl) _
  have hM : Mod noB W (w8.setCell ⟨W.heap.size + 1, i, none⟩ v) := Mod.setNew hF.m (by omega) _
  refine ⟨hE.mod hM, hm.at hF.y (by omega), hm.at hF.g (by omega), ⟨_, hV.set ?_ (own_mono hO hbs) (by omega)⟩, hM⟩
  rw [goesL, List.getElem?_map, hz]; rfl

theorem full_row43 {w : World} {base n : Nat} {v : Value} {xs : List Value} {g : Nat} (h : w.ownsRow base 43 1 v n xs) (hv : v = .slice (some ⟨g, 0, none⟩) n n) : w.heap[g]? = some (.cells xs.toArray 43) := by
  obtain ⟨hl, ⟨rfl, _⟩ | ⟨g', cap, cur, rfl, hb, hg, h1, h4, h2, h3⟩⟩ := h
  · cases hv
  · cases hv
    have : cur.toList = xs := by
      rw [← h3, List.take_of_length_le]
      simp
      omega
    rw [hg, ← this]
theorem lit_two (w : World) : IntsAt (w.alloc (.cells #[.int .i64 2, .int .i64 1] 3)) (some ⟨w.heap.size, 0, none⟩) [2, 1] := ints_lit [2, 1] (World.alloc_heap_new w _) rfl (by simp)
theorem made_nil (n : Nat) : (madeCells (Value.slice none 0 0).cells (n * 1)).toList.toArray = fcells n (fun _ => .slice none 0 0) := by
  rw [show (Value.slice none 0 0).cells = #[Value.slice none 0 0] from rfl, toList_madeCells_one]
  rw [fcells, List.map_const', List.length_range, Nat.mul_one]

/-- The objects that are laid before placing begins. -/
@[reducible] def lastObjs (W wr : World) (bt bg : Nat) : List Obj := [.map #[] 0, .cells #[.map (some wr.heap.size)] 123, .cells #[.slice none 0 0] 43,
  .cells #[.func (.func 87) #[] #[.pointer (some ⟨wr.heap.size + 1 + 1, 0, none⟩), .pointer (some ⟨bt, 0, none⟩), .pointer (some ⟨W.heap.size, 0, none⟩), .pointer (some ⟨bg, 0, none⟩), .pointer (some ⟨wr.heap.size + 1, 0, none⟩), .pointer (some ⟨wr.heap.size + 1 + 1 + 1, 0, none⟩)]] 37]

def addrOf : Value → Option Addr
  | .slice a _ _ => a
  | _ => none
def capOf : Value → Nat
  | .slice _ _ c => c
  | _ => 0
theorem ownBlock_some {a : Option Addr} {n c r : Nat} (h : (Value.slice a n c).ownBlock = some r) : ∃ off s, a = some ⟨r, off, s⟩ := by
  cases a with
  | none => cases h
  | some a =>
    have : a.block = r := by simpa [Value.ownBlock] using h
    subst this
    exact ⟨a.off, a.spot, rfl⟩

@[reducible] def blks (W wr : World) (bt bg l : Nat) (to : Option Addr) (capt : Nat) (V : Nat → Value) : PBlocks :=
  { bl := wr.heap.size + 1 + 1, bt := bt, yb := W.heap.size, bg := bg, bm := wr.heap.size + 1, bp := wr.heap.size + 1 + 1 + 1, mb := wr.heap.size, gb := W.heap.size + 1, l := l, to := to, capt := capt, ao := fun k => addrOf (V k), cap := fun k => capOf (V k), B := wr.heap.size + 1 + 1 + 1 + 1 }
def KCof (W wr : World) (bt bg n : Nat) (V : Nat → Value) (k : Nat) : Prop := k = bt ∨ k = W.heap.size ∨ k = bg ∨ k = wr.heap.size + 1 ∨ k = wr.heap.size + 1 + 1 + 1 ∨ k = W.heap.size + 1 ∨ ∃ j, j < n ∧ (V j).ownBlock = some k

theorem call_two {e : Ending} {A B : Prop} (h : (e = .returned (.bool true) ∧ A) ∨ (e = .returned (.bool false) ∧ B)) : ∃ bb : Bool, e = .returned (.bool bb) ∧ Hold ((bb = true → A) ∧ (bb = false → B)) := by
  rcases h with ⟨rfl, a⟩ | ⟨rfl, a⟩
  · exact ⟨true, rfl, ⟨⟨fun _ => a, nofun⟩⟩⟩
  · exact ⟨false, rfl, ⟨⟨nofun, fun _ => a⟩⟩⟩
theorem goesL_len (p : Ply) (tabs holes : List Edg) : (goesL p tabs holes).length = tabs.length := by simp [goesL]
theorem indicesR_mem {f : Int → Bool} {L : List Int} {x : Int} (h : x ∈ indicesR f L) : 0 ≤ x ∧ x < L.length := by
  unfold indicesR indicesTo at h
  obtain ⟨i, hi, rfl⟩ := List.mem_map.1 h
  have := List.mem_range.1 (List.mem_filter.1 hi).1
  omega
theorem goesL_small {p : Ply} {tabs holes : List Edg} (hh : holes.length ≤ 100) {L : List Int} (hL : L ∈ goesL p tabs holes) : L.length ≤ 1000 ∧ ∀ x ∈ L, -1000000 ≤ x ∧ x ≤ 1000000 := by
  unfold goesL at hL
  obtain ⟨t, _, rfl⟩ := List.mem_map.1 hL
  have h1 := indicesTo_len maybe (foundL p t holes) (foundL p t holes).length
  rw [foundL_len] at h1
  refine ⟨by unfold indicesR; rw [foundL_len]; omega, fun x hx => ?_⟩
  have := indicesR_mem hx
  rw [foundL_len] at this
  omega

theorem cellsSame {W W' : World} {b o : Nat} (h : W'.heap[b]? = W.heap[b]?) : W'.cell? ⟨b, o, none⟩ = W.cell? ⟨b, o, none⟩ := cell_same h o

theorem blks_good {p : Ply} {tabs holes : List Edg} {bt pb hb : Nat} {to ho : Option Addr} {capt caph l : Nat} {W wr : World} {bg : Nat} {V : Nat → Value} (hE : Env p tabs holes bt pb hb to ho capt caph W) (hg : W.heap.size + 1 < bg)
    (hF : FInv p tabs holes bt pb hb to ho capt caph l W (W.heap.size + 1) bg tabs.length wr) (hV : GInv (bg + 1) tabs.length (W.heap.size + 1) (goesL p tabs holes) tabs.length V wr) (hn : tabs.length ≤ 100) (hnh : holes.length ≤ 100) :
    PGood (blks W wr bt bg l to capt V) tabs.length (goesL p tabs holes) (KCof W wr bt bg tabs.length V) := by
  have x1 : bt < W.heap.size := (Array.getElem?_eq_some_iff.1 hE.t).1
  have x2 : bg < wr.heap.size := (Array.getElem?_eq_some_iff.1 hF.g).1
  have hrow : ∀ j, j < tabs.length → ∃ L, (goesL p tabs holes)[j]? = some L := fun j hj => ⟨_, List.getElem?_eq_getElem (by rw [goesL_len]; exact hj)⟩
  have hvb : ∀ j r, j < tabs.length → (V j).ownBlock = some r → bg + 1 ≤ r ∧ r < wr.heap.size := fun j r hj hr => by
    obtain ⟨L, hL⟩ := hrow j hj
    exact ⟨own_ge (hV.r j L hj hL) hr, own_lt (hV.r j L hj hL) hr⟩
  refine ⟨by simp, by simp; omega, by simp; omega, ?_, ?_, ?_, ?_, goesL_len _ _ _, fun L hL => goesL_small hnh hL, hn⟩
  · rintro (h | h | h | h | h | h | ⟨j, hj, h⟩) <;> simp only at h
    all_goals first | omega | (have := hvb j _ hj h; omega)
  · rintro (h | h | h | h | h | h | ⟨j, hj, h⟩) <;> simp only at h
    all_goals first | omega | (have := hvb j _ hj h; omega)
  · rintro k (h | h | h | h | h | h | ⟨j, hj, h⟩)
    all_goals simp only
    all_goals first | omega | (have := hvb j _ hj h; omega)
  · intro A A' hP hK hs
    have keep : ∀ k, KCof W wr bt bg tabs.length V k → ∀ o, A'.cell? ⟨k, o, none⟩ = A.cell? ⟨k, o, none⟩ := fun k hk o => cellsSame (hK k hk)
    refine ⟨(keep bt (.inl rfl) 0).trans hP.t, (keep _ (.inr (.inl rfl)) 0).trans hP.y, (keep _ (.inr (.inr (.inl rfl))) 0).trans hP.g, fun k L hL => ?_, (keep _ (.inr (.inr (.inr (.inl rfl)))) 0).trans hP.m, (keep _ (.inr (.inr (.inr (.inr (.inl rfl))))) 0).trans hP.p⟩
    have hk : k < tabs.length := by have := (List.getElem?_eq_some_iff.1 hL).1; rw [goesL_len] at this; exact this
    obtain ⟨h1, h2⟩ := hP.r k L hL
    refine ⟨(keep _ (.inr (.inr (.inr (.inr (.inr (.inl rfl)))))) k).trans h1, ⟨fun hne => ?_, h2.small⟩⟩
    obtain ⟨b, off, hb, hlt, hc⟩ := h2.lies hne
    have hkc : KCof W wr bt bg tabs.length V b := by
      refine .inr (.inr (.inr (.inr (.inr (.inr ⟨k, hk, ?_⟩)))))
      obtain ⟨ao, cap, hv⟩ := row_form (hV.r k L hk hL)
      simp only [hv, addrOf] at hb
      rw [hv, hb]
      rfl
    exact ⟨b, off, hb, Nat.lt_of_lt_of_le hlt hs, fun j hj => (keep b hkc _).trans (hc j hj)⟩

theorem blks_begin {p : Ply} {tabs holes : List Edg} {bt pb hb : Nat} {to ho : Option Addr} {capt caph l : Nat} {W wr : World} {bg : Nat} {V : Nat → Value} (hE : Env p tabs holes bt pb hb to ho capt caph W) (hg : W.heap.size + 1 < bg)
    (hF : FInv p tabs holes bt pb hb to ho capt caph l W (W.heap.size + 1) bg tabs.length wr) (hV : GInv (bg + 1) tabs.length (W.heap.size + 1) (goesL p tabs holes) tabs.length V wr) (hnh : holes.length ≤ 100) :
    PS (blks W wr bt bg l to capt V) tabs.length (goesL p tabs holes) (KCof W wr bt bg tabs.length V) [] (.slice none 0 0) (allocL wr (lastObjs W wr bt bg)) := by
  have hM : Mod noB wr (allocL wr (lastObjs W wr bt bg)) := allocL_mod noB _ _
  have e0 := allocL_at (lastObjs W wr bt bg) wr 0 _ rfl
  have e1 := allocL_at (lastObjs W wr bt bg) wr 1 _ rfl
  have e2 := allocL_at (lastObjs W wr bt bg) wr 2 _ rfl
  have e3 := allocL_at (lastObjs W wr bt bg) wr 3 _ rfl
  have hF' := hF.mod hM
  refine ⟨e2, World.ownsRow_nil _ _ _ _, ⟨⟨_, _, e0, rfl⟩, by simp⟩, ⟨cellsAt hF'.env.t 0, cellsAt hF'.y 0, cellsAt hF'.g 0, fun k L hL => ?_, cellsAt e1 0, cellsAt e3 0⟩, by rw [allocL_size]; simp⟩
  have hk : k < tabs.length := by have := (List.getElem?_eq_some_iff.1 hL).1; rw [goesL_len] at this; exact this
  have hr := own_mod (hV.r k L hk hL) hM
  obtain ⟨ao, cap, hv, hI, _⟩ := ints_of_owns hr rfl (by have := (goesL_small hnh (List.mem_of_getElem? hL)).1; omega)
  have hc := fcells_cell ((hV.mod hM).b) hk
  rw [hv] at hc
  refine ⟨?_, ?_⟩
  · simp only [hv, addrOf, capOf]; exact hc
  · simp only [hv, addrOf]; exact hI

set_option maxRecDepth 100000 in
set_option maxHeartbeats 4000000 in
theorem pairIt_calls (p : Ply) (tabs holes : List Edg) (bt pb hb : Nat) (to ho : Option Addr) (capt caph : Nat) (l : Nat) (W : World) (hE : Env p tabs holes bt pb hb to ho capt caph W) (hp : playB p = true) (hts : ∀ e ∈ tabs, sideB e = true) (hhs : ∀ e ∈ holes, sideB e = true)
    (hn : tabs.length ≤ 100) (hnh : holes.length ≤ 100) (S : Nat → Prop) (hSt : S bt) (n0 : Nat) (J Jx : List Held → World → Prop) (hJ : StableV W.heap.size J) (hJx : StableV W.heap.size Jx)
    (hY : YieldH n0 l W.heap.size (fun k => k < W.heap.size ∧ ¬ S k) (pairsL (goesL p tabs holes) tabs.length []) J Jx) (h0 : J [] W) :
    Calls Try.prog 86 #[.func (.yield l) #[] #[], .pointer (some ⟨bt, 0, none⟩), .pointer (some ⟨pb, 0, none⟩), .pointer (some ⟨hb, 0, none⟩)] W fun e W' => (∃ v, e = .returned v) ∧ W.heap.size ≤ W'.heap.size ∧
      ((∃ pre, pre.map Prod.fst = pairsL (goesL p tabs holes) tabs.length [] ∧ J pre W') ∨ ∃ pre, pre.map Prod.fst <+: pairsL (goesL p tabs holes) tabs.length [] ∧ Jx pre W') := by
  have hmm := @run_makeMap Try.prog
  have HYY := Hold.mk (And.intro hSt (And.intro hY h0))
  clear hSt hY h0
  obtain ⟨i0, hi, hz0, hz1, hz2⟩ := info_parts info43
  have t0 := cellsAt hE.t 0
  have hlt : bt < W.heap.size := (Array.getElem?_eq_some_iff.1 hE.t).1
  have HE := Hold.mk hE
  clear hE
  go_enter Try.func86, Try.ntmps86
  go_wp2_with (refine wpList_make_full _ rfl (.tmp 12) (.tmp 12) 82 rfl W.heap.size 43 i0 (.slice none 0 0) 1 Try.underlying82 hi hz0 hz1 .i64 .i64 _ _ tabs.length rfl rfl rfl rfl (by rw [hz2]; omega) (by unfold maxLen; omega) (by simp) ?_; intro wm hm hgm
               have hM := Mod.of_grownBy (T := noB) hgm (fun r hr _ => by cases hr)
               have HM := Hold.mk (And.intro hm hM)
               have t1 := cellsAt ((((Mod.refl noB W).alloc _).trans hM).at HE.out.t id) 0
               have hltm : bt < wm.heap.size := (by have := hM.size; simp at this; omega)
               clear hm hgm hM)
  have HI0 : Hold (FInv p tabs holes bt pb hb to ho capt caph l W (W.heap.size + 1) wm.heap.size 0 (wm.alloc (.cells #[.slice (some ⟨W.heap.size + 1, 0, none⟩) tabs.length tabs.length] 82))) := ⟨by
    obtain ⟨hm, hM⟩ := HM.out
    have hM1 := ((Mod.refl noB W).alloc (.cells #[.func (.yield l) #[] #[]] 76)).trans hM
    have hM2 := hM1.alloc (.cells #[.slice (some ⟨W.heap.size + 1, 0, none⟩) tabs.length tabs.length] 82)
    have hgb := full_row43 hm (g := W.heap.size + 1) (by simp)
    rw [made_nil] at hgb
    refine ⟨HE.out.mod hM2, (hM.alloc _).at (World.alloc_heap_new W _) id, World.alloc_heap_new wm _, ⟨_, ((Mod.refl noB wm).alloc _).at hgb id, fun j L hj => by omega⟩, hM2⟩⟩
  have hgbm : W.heap.size + 1 < wm.heap.size := by have := (Array.getElem?_eq_some_iff.1 (full_row43 HM.out.1 (g := W.heap.size + 1) (by simp))).1; exact this
  clear t1 t0 hlt hltm HM
  obtain ⟨bg, hbg⟩ : ∃ bg, bg = wm.heap.size := ⟨_, rfl⟩
  rw [← hbg] at HI0 hgbm
  simp only [← hbg]
  have HTS := Hold.mk hts
  have HHS := Hold.mk hhs
  have HPL := Hold.mk hp
  clear hts hhs hp hbg
  go_loopw [16] (fun i wr => ∃ k : Nat, k ≤ tabs.length ∧ i = .int .i64 k ∧ Hold (FInv p tabs holes bt pb hb to ho capt caph l W (W.heap.size + 1) bg k wr)) (fun i _ => tabs.length - (intOf i).toNat)
  case atStart => exact ⟨0, Nat.zero_le _, rfl, HI0⟩
  case round =>
    obtain ⟨k, hk, rfl, HI⟩ := hrel
    by_cases hltk : k < tabs.length
    · obtain ⟨b, off, rfl, _, hc⟩ := HI.out.env.te.lies (fun e => by simp [e] at hltk)
      obtain ⟨z, hz⟩ : ∃ z, tabs[k]? = some z := ⟨_, List.getElem?_eq_getElem hltk⟩
      obtain ⟨q0, q1, q2, q3, q4, q5, q6⟩ := hc k z hz
      have HZ := Hold.mk hz
      clear hc hz
      go_wp2
      clear q0 q1 q2 q3 q4 q5 q6
      have hb2 := World.alloc_heap_new wr (.cells (edC z) 27)
      have HM2 := Hold.mk ((Mod.refl noB wr).alloc (.cells (edC z) 27))
      change Code.wp _ _ _ _ (wr.alloc (.cells (edC z) 27))
      generalize wr.alloc (.cells (edC z) 27) = W2 at *
      have FS : Hold (∀ W', Mod (fun b => b = W.heap.size + 1) W2 W' → ((fun w' => Hold (Mod (fun b => b = W.heap.size + 1) W2 w') ∧ w'.cell? ⟨bg, 0, none⟩ = some (.slice (some ⟨W.heap.size + 1, 0, none⟩) tabs.length tabs.length) ∧ w'.cell? ⟨hb, 0, none⟩ = some (.slice ho holes.length caph) ∧
      w'.cell? ⟨wr.heap.size, 0, none⟩ = some (.int .i64 z.k) ∧ w'.cell? ⟨wr.heap.size, 1, none⟩ = some (.int .i64 z.a.1) ∧ w'.cell? ⟨wr.heap.size, 2, none⟩ = some (.int .i64 z.a.2) ∧ w'.cell? ⟨wr.heap.size, 3, none⟩ = some (.int .i64 z.w.1) ∧ w'.cell? ⟨wr.heap.size, 4, none⟩ = some (.int .i64 z.w.2) ∧ w'.cell? ⟨wr.heap.size, 5, none⟩ = some (.int .i64 z.d.1) ∧ w'.cell? ⟨wr.heap.size, 6, none⟩ = some (.int .i64 z.d.2) ∧
      w'.cell? ⟨pb, 0, none⟩ = some (.int .i64 p.len) ∧ w'.cell? ⟨pb, 1, none⟩ = some (.int .i64 p.slack) ∧ w'.cell? ⟨pb, 2, none⟩ = some (.int .i64 p.loose) ∧ w'.cell? ⟨pb, 3, none⟩ = some (.int .i64 p.damp.1) ∧ w'.cell? ⟨pb, 4, none⟩ = some (.int .i64 p.damp.2))) W') := ⟨fun W' h => by
        have F := HI.out.mod HM2.out
        have x1 : pb < W.heap.size := (Array.getElem?_eq_some_iff.1 HE.out.p).1
        have x2 : hb < W.heap.size := (Array.getElem?_eq_some_iff.1 HE.out.h).1
        have x3 : W.heap.size + 1 < wr.heap.size := by have := (Array.getElem?_eq_some_iff.1 HI.out.g).1; omega
        obtain ⟨p0, p1, p2, p3, p4⟩ := PlayAt.of (h.at F.env.p (by omega))
        obtain ⟨s0, s1, s2, s3, s4, s5, s6⟩ := EdgeAt.of (h.at hb2 (by omega))
        exact ⟨⟨h⟩, cellsAt (h.at F.g (by omega)) 0, cellsAt (h.at F.env.h (by omega)) 0, s0, s1, s2, s3, s4, s5, s6, p0, p1, p2, p3, p4⟩⟩
      have HV : Hold (∀ W', Mod noB W2 W' → Calls Try.prog 48 #[plV p, edV z, .slice ho holes.length caph] W' fun e w' => ∃ b, W'.heap.size ≤ b ∧ e = .returned (.slice (some ⟨b, 0, none⟩) holes.length holes.length) ∧ IntsAt w' (some ⟨b, 0, none⟩) (foundL p z holes) ∧ Mod noB W' w') :=
        ⟨fun W' h => (verdicts_any p z holes ho caph W' HPL.out (HTS.out z (List.mem_of_getElem? HZ.out)) HHS.out ((HI.out.mod (HM2.out.trans h)).env.he) (by omega)).mono fun e w' ⟨b, h1, h2, h3, h4⟩ => ⟨b, h1, h2, found_ints h3 (by omega), h4⟩⟩
      have IX := Hold.mk (fun ao bo W h1 h2 => indices_maybe p z holes ao bo W h1 h2)
      clear hb2
      go_region_held3 (fun w' => Hold (Mod (fun b => b = W.heap.size + 1) W2 w') ∧ w'.cell? ⟨bg, 0, none⟩ = some (.slice (some ⟨W.heap.size + 1, 0, none⟩) tabs.length tabs.length) ∧ w'.cell? ⟨hb, 0, none⟩ = some (.slice ho holes.length caph) ∧
      w'.cell? ⟨wr.heap.size, 0, none⟩ = some (.int .i64 z.k) ∧ w'.cell? ⟨wr.heap.size, 1, none⟩ = some (.int .i64 z.a.1) ∧ w'.cell? ⟨wr.heap.size, 2, none⟩ = some (.int .i64 z.a.2) ∧ w'.cell? ⟨wr.heap.size, 3, none⟩ = some (.int .i64 z.w.1) ∧ w'.cell? ⟨wr.heap.size, 4, none⟩ = some (.int .i64 z.w.2) ∧ w'.cell? ⟨wr.heap.size, 5, none⟩ = some (.int .i64 z.d.1) ∧ w'.cell? ⟨wr.heap.size, 6, none⟩ = some (.int .i64 z.d.2) ∧
      w'.cell? ⟨pb, 0, none⟩ = some (.int .i64 p.len) ∧ w'.cell? ⟨pb, 1, none⟩ = some (.int .i64 p.slack) ∧ w'.cell? ⟨pb, 2, none⟩ = some (.int .i64 p.loose) ∧ w'.cell? ⟨pb, 3, none⟩ = some (.int .i64 p.damp.1) ∧ w'.cell? ⟨pb, 4, none⟩ = some (.int .i64 p.damp.2))
        (first | exact FS.out _ ((Mod.refl _ _).drew) | (refine FS.out _ ?_; first | exact Mod.setCell (T := fun b => b = W.heap.size + 1) (p := ⟨W.heap.size + 1, k, none⟩) (HQ2.out.wider (fun _ _ h => h.elim)) (fun _ => rfl) _ | exact HQ2.out.wider (fun _ _ h => h.elim) | exact HQ1.out.wider (fun _ _ h => h.elim) | exact (HQ1.out.alloc _).wider (fun _ _ h => h.elim) | exact ((Mod.refl _ _).drew.alloc _)))
        (first
          | (go_at_call 48; (with_reducible refine (HV.out _ ((Mod.refl _ _).drew)).mono ?_); rintro e w7 ⟨bv, hbv, rfl, hcv, hM7⟩; have HF := Hold.mk hcv; have HQ1 := Hold.mk (((Mod.refl noB W2).drew).trans hM7); clear hM7 hcv hbv)
          | (go_at_call 48; (with_reducible refine (HV.out _ (((Mod.refl _ _).alloc _).drew)).mono ?_); rintro e w7 ⟨bv, hbv, rfl, hcv, hM7⟩; have HF := Hold.mk hcv; have HQ1 := Hold.mk ((((Mod.refl noB W2).alloc _).drew).trans hM7); have HLIT : Hold (IntsAt w7 (some ⟨W2.heap.size, 0, none⟩) [2, 1]) := ⟨(lit_two W2).mod ((Mod.refl _ _).drew.trans hM7)⟩; clear hM7 hcv hbv)
          | (go_at_call 63; (with_reducible refine (IX.out _ _ _ (HF.out.mod ((Mod.refl _ _).alloc _)) (lit_two w7)).mono ?_); rintro e w8 ⟨v, rfl, hO, hM8⟩; obtain ⟨ao8, cap8, rfl⟩ := row_form hO; have HO := Hold.mk hO; have HQ2 := Hold.mk ((HQ1.out.alloc _).trans hM8); have HSZ := Hold.mk ((HQ1.out.alloc (.cells #[.int .i64 2, .int .i64 1] 3)).size); have F8 := HI.out.mod (HM2.out.trans HQ2.out); obtain ⟨V, hV⟩ := F8.v; have e0 := fcells_cell hV.b hltk; have e1 := cells_frozen hV.b k; have HF8 := Hold.mk (And.intro F8 hV); clear hM8 hO F8 hV)
          | (go_at_call 63; (with_reducible refine (IX.out _ _ _ HF.out HLIT.out).mono ?_); rintro e w8 ⟨v, rfl, hO, hM8⟩; obtain ⟨ao8, cap8, rfl⟩ := row_form hO; have HO := Hold.mk hO; have HQ2 := Hold.mk (HQ1.out.trans hM8); have HSZ := Hold.mk HQ1.out.size; have F8 := HI.out.mod (HM2.out.trans HQ2.out); obtain ⟨V, hV⟩ := F8.v; have e0 := fcells_cell hV.b hltk; have e1 := cells_frozen hV.b k; have HF8 := Hold.mk (And.intro F8 hV); clear hM8 hO F8 hV))
      all_goals
        have hbase := HSZ.out
        have hbw : bg < wr.heap.size := (Array.getElem?_eq_some_iff.1 HI.out.g).1
        have hw2 := HM2.out.size
        have HST := Hold.mk (FInv.step HE.out hgbm HF8.out HZ.out HO.out (by omega))
        clear hbase hbw hw2 e0 e1
        go_wp2
        go_roundw
        case rel => exact ⟨k + 1, by omega, by go_num, HST⟩
        case measure => simp [intOf]; omega
    · obtain rfl : k = tabs.length := by omega
      obtain ⟨V, hV⟩ := HI.out.v
      have HVV := Hold.mk hV
      clear hV
      have HPL9 : Hold (Calls Try.prog 87 #[.pointer (some ⟨wr.heap.size + 1 + 1, 0, none⟩), .pointer (some ⟨bt, 0, none⟩), .pointer (some ⟨W.heap.size, 0, none⟩), .pointer (some ⟨bg, 0, none⟩), .pointer (some ⟨wr.heap.size + 1, 0, none⟩), .pointer (some ⟨wr.heap.size + 1 + 1 + 1, 0, none⟩)]
          ((((wr.alloc (.map #[] 0)).alloc (.cells #[.map (some wr.heap.size)] 123)).alloc (.cells #[.slice none 0 0] 43)).alloc
            (.cells #[.func (.func 87) #[] #[.pointer (some ⟨wr.heap.size + 1 + 1, 0, none⟩), .pointer (some ⟨bt, 0, none⟩), .pointer (some ⟨W.heap.size, 0, none⟩), .pointer (some ⟨bg, 0, none⟩), .pointer (some ⟨wr.heap.size + 1, 0, none⟩), .pointer (some ⟨wr.heap.size + 1 + 1 + 1, 0, none⟩)]] 37))
          (PPost (blks W wr bt bg l to capt V) tabs.length (goesL p tabs holes) (KCof W wr bt bg tabs.length V) J Jx [] (pairsL (goesL p tabs holes) tabs.length []) [] (allocL wr (lastObjs W wr bt bg)))) := ⟨by
        have hVV := HVV.out
        have x1 : W.heap.size + 1 < bg := hgbm
        have x2 : bg < wr.heap.size := (Array.getElem?_eq_some_iff.1 HI.out.g).1
        have hM : Mod noB W (allocL wr (lastObjs W wr bt bg)) := HI.out.m.trans (allocL_mod noB _ _)
        refine callsIn_wide.1 (place_any (blks W wr bt bg l to capt V) tabs.length (goesL p tabs holes) (KCof W wr bt bg tabs.length V) (blks_good HE.out hgbm HI.out hVV hn hnh) J Jx W.heap.size ⟨by simp; omega, by simp; omega, by simp; omega⟩ hJ hJx
          (fun k => k < W.heap.size ∧ ¬ S k) (fun k hk => ⟨hk.1, ?_⟩) (pairsL (goesL p tabs holes) tabs.length []) n0 HYY.out.2.1 tabs.length [] (.slice none 0 0) [] _ 0 (by simp) (blks_begin HE.out hgbm HI.out hVV hnh) (by intro q hq; cases hq) (hJ _ _ _ HYY.out.2.2 (hM.wider (fun _ _ h => h.elim))) ⟨[], by simp⟩)
        rintro (h | h | h | h | h | h | ⟨j, hj, h⟩)
        · exact hk.2 (h ▸ HYY.out.1)
        · omega
        · omega
        · omega
        · omega
        · omega
        · have hL : ∃ L, (goesL p tabs holes)[j]? = some L := ⟨_, List.getElem?_eq_getElem (by rw [goesL_len]; exact hj)⟩
          obtain ⟨L, hL⟩ := hL
          have := own_ge (hVV.r j L hj hL) h
          omega⟩
      go_wp2_with (go_at_call 87; refine HPL9.out.mono ?_; rintro e w9 hP; obtain ⟨hz9, hc9⟩ := hP; obtain ⟨bb, rfl, HB⟩ := call_two hc9; have HZ9 := Hold.mk hz9; clear hz9 hc9)
      go_end0
      have x2 : bg < wr.heap.size := (Array.getElem?_eq_some_iff.1 HI.out.g).1
      have hsz : W.heap.size ≤ w9.heap.size := by have := HZ9.out; rw [allocL_size] at this; omega
      refine ⟨⟨_, rfl⟩, hsz, ?_⟩
      cases bb with
      | true =>
        obtain ⟨vs, v', h1, _, _, h4⟩ := HB.out.1 rfl
        exact .inl ⟨vs, h1, by simpa using h4⟩
      | false =>
        obtain ⟨vs, h1, h4⟩ := HB.out.2 rfl
        exact .inr ⟨vs, h1, by simpa using h4⟩

theorem pairIt_runs (p : Ply) (tabs holes : List Edg) (bt pb hb : Nat) (to ho : Option Addr) (capt caph : Nat) (w : World) (hE : Env p tabs holes bt pb hb to ho capt caph w) (hp : playB p = true) (hts : ∀ e ∈ tabs, sideB e = true) (hhs : ∀ e ∈ holes, sideB e = true)
    (hn : tabs.length ≤ 100) (hnh : holes.length ≤ 100) (S : Nat → Prop) (h1 : S bt) (h2 : S pb) (h3 : S hb) (h4 : tabs ≠ [] → ∀ b off, to = some ⟨b, off, none⟩ → S b) (h5 : holes ≠ [] → ∀ b off, ho = some ⟨b, off, none⟩ → S b) :
    RunsV Try.prog 86 #[.pointer (some ⟨bt, 0, none⟩), .pointer (some ⟨pb, 0, none⟩), .pointer (some ⟨hb, 0, none⟩)] S (pairsL (goesL p tabs holes) tabs.length []) w := by
  intro n0 l J Jx W hsz hW hJ hJx hY h0
  have keepE : ∀ {ao : Option Addr} {es : List Edg}, (es ≠ [] → ∀ b off, ao = some ⟨b, off, none⟩ → S b) → EdgesAt w ao es → EdgesAt W ao es := fun hS h =>
    ⟨fun hne => by obtain ⟨b, off, e1, e2, e3⟩ := h.lies hne; exact ⟨b, off, e1, Nat.lt_of_lt_of_le e2 hsz, fun k e he => (e3 k e he).same (hW b (hS hne b off e1))⟩, h.small⟩
  have hE' : Env p tabs holes bt pb hb to ho capt caph W := ⟨(hW bt h1).trans hE.t, (hW pb h2).trans hE.p, (hW hb h3).trans hE.h, keepE h4 hE.te, keepE h5 hE.he⟩
  refine callsIn_wide.2 ?_
  exact pairIt_calls p tabs holes bt pb hb to ho capt caph l W hE' hp hts hhs hn hnh S h1 n0 J Jx hJ hJx hY h0
end Go.Proofs.Ytnjbamikfjdofaa

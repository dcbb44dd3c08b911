/- outside: the pieces from which the border is reached without some piece; and what many allocations leave. -/
import Derived.Test.YtogalmkeipigeaaOut
set_option linter.unusedSimpArgs false
set_option linter.unusedVariables false
namespace Go.Proofs.Ytogalmkeipigeaa
open Go.RowKit Go.Shelf
attribute [local go_sem] Oper.semAt_some

/-- Objects laid one behind the other. -/
def allocL (w : World) : List Obj → World
  | [] => w
  | o :: os => allocL (w.alloc o) os
theorem allocL_size (os : List Obj) : ∀ w : World, (allocL w os).heap.size = w.heap.size + os.length := by
  induction os with
  | nil => exact fun w => rfl
  | cons o os ih => intro w; simp only [allocL, ih, World.size_alloc, List.length_cons]; omega
theorem allocL_mod (T : Nat → Prop) (os : List Obj) : ∀ w : World, Mod T w (allocL w os) := by
  induction os with
  | nil => exact fun w => Mod.refl _ _
  | cons o os ih => exact fun w => ((Mod.refl T w).alloc o).trans (ih _)
theorem allocL_at (os : List Obj) : ∀ (w : World) (i : Nat) (o : Obj), os[i]? = some o → (allocL w os).heap[w.heap.size + i]? = some o := by
  induction os with
  | nil => intro w i o h; cases h
  | cons x os ih =>
    intro w i o h
    cases i with
    | zero =>
      obtain rfl : x = o := by simpa using h
      exact (allocL_mod noB os (w.alloc x)).at (World.alloc_heap_new w x) id
    | succ i =>
      have := ih (w.alloc x) i o (by simpa using h)
      rw [World.size_alloc] at this
      rw [show w.heap.size + (i + 1) = w.heap.size + 1 + i from by omega]
      exact this
theorem allocL1 (w : World) (a : Obj) : w.alloc a = allocL w [a] := rfl
theorem allocL2 (w : World) (a b : Obj) : (w.alloc a).alloc b = allocL w [a, b] := rfl
theorem allocL3 (w : World) (a b c : Obj) : ((w.alloc a).alloc b).alloc c = allocL w [a, b, c] := rfl
theorem allocL4 (w : World) (a b c d : Obj) : (((w.alloc a).alloc b).alloc c).alloc d = allocL w [a, b, c, d] := rfl
theorem allocL5 (w : World) (a b c d e : Obj) : ((((w.alloc a).alloc b).alloc c).alloc d).alloc e = allocL w [a, b, c, d, e] := rfl
theorem allocL6 (w : World) (a b c d e f : Obj) : (((((w.alloc a).alloc b).alloc c).alloc d).alloc e).alloc f = allocL w [a, b, c, d, e, f] := rfl

/-- The mark that a loop leaves among the deferred calls. -/
@[reducible] def markD (D : Nat) : Deferred := { target := .collected D, args := #[] }

theorem leaves_marks {P : Program} {F : Fence} {n : Nat} {fn : Func} {tmps : Array Value} {R : Ending → World → Prop} : ∀ (Ds : List Nat) (W : World), Ds.Nodup → (∀ D ∈ Ds, W.heap[D]? = some (.deferred (some []))) →
    (∀ W', Mod (fun k => k ∈ Ds) W W' → LeavesInM F n P fn tmps R [] .returning W') → LeavesInM F n P fn tmps R (Ds.map markD) .returning W
  | [], W, _, _, h => h W (Mod.refl _ _)
  | D :: Ds, W, hn, hd, h => by
    refine ⟨by simp, .inl ⟨D, _, rfl, run_takeDeferred (hd D (by simp)), ?_⟩⟩
    have hnd := List.nodup_cons.1 hn
    refine leaves_marks Ds _ hnd.2 (fun E hE => (World.putObj_heap_other (fun e => by subst e; exact hnd.1 hE)).trans (hd E (List.mem_cons_of_mem _ hE))) fun W' hm => h W' ?_
    exact ((Mod.refl (fun k => k ∈ D :: Ds) W).putObj (fun _ => by simp) _).trans (hm.wider (fun i _ hi => List.mem_cons_of_mem _ hi))

/-- What holds in outside behind the pieces below k, and behind the edges pre of piece k. -/
structure OutInv (g : Int × Int → Option Int) (W H : Nat) (wo : Int) (N k : Nat) (pre : List Int) (R : Nat → Bool) : Prop where
  conn : ∀ j, j < 40 → R j = true → ∃ p : Nat, p < N ∧ (p : Int) ≠ wo ∧ -1 ∈ facedL g W H p ∧ ConnP g W H wo p j
  closed : ∀ j, j < 40 → R j = true → ∀ r ∈ facedL g W H j, ∀ m : Nat, r = m → r ≠ wo → R m = true
  done : ∀ p : Nat, p < k → (p : Int) ≠ wo → -1 ∈ facedL g W H p → R p = true
  now : -1 ∈ pre → (k : Int) ≠ wo → R k = true

section
variable {g : Int × Int → Option Int} {W H : Nat} {wo : Int} {N k : Nat} {pre : List Int} {R R' : Nat → Bool}
theorem OutInv.begin : OutInv g W H wo N 0 [] (fun _ => false) := ⟨fun _ _ h => (by cases h), fun _ _ h => (by cases h), fun _ h => (by omega), fun h => (by cases h)⟩
theorem OutInv.skip (h : OutInv g W H wo N k pre R) {x : Int} (hx : x ≠ -1) : OutInv g W H wo N k (pre ++ [x]) R :=
  ⟨h.conn, h.closed, h.done, fun hm => h.now (by
    rcases List.mem_append.1 hm with h1 | h1
    · exact h1
    · exact absurd (by simpa using h1 : -1 = x).symm hx)⟩
theorem OutInv.reach (h : OutInv g W H wo N k pre R) (hk : k < N) (hb : -1 ∈ facedL g W H k) (hf : FloodP g W H wo R k R') (x : Int) : OutInv g W H wo N k (pre ++ [x]) R' where
  conn j hj hr := by
    rcases hf.conn j hj hr with h1 | h1
    · exact h.conn j hj h1
    · exact ⟨k, hk, h1.start.2, hb, h1⟩
  closed j hj hr q hq m hm hw := by
    cases h0 : R j with
    | true => exact hf.more _ (h.closed j hj h0 q hq m hm hw)
    | false => exact hf.closed j hj hr h0 q hq m hm hw
  done p hp hw hq := hf.more _ (h.done p hp hw hq)
  now _ hw := hf.own k rfl hw
theorem OutInv.next (h : OutInv g W H wo N k (facedL g W H k) R) : OutInv g W H wo N (k + 1) [] R :=
  ⟨h.conn, h.closed, fun p hp hw hq => by
    by_cases e : p = k
    · subst e; exact h.now hq hw
    · exact h.done p (by omega) hw hq, fun hm => (by cases hm)⟩
theorem ConnP.lt40 (G : Grid g W H) {p q : Int} (h : ConnP g W H wo p q) (hp : p < 40) : 0 ≤ q ∧ q < 40 := by
  cases h with
  | refl h0 _ => exact ⟨h0, hp⟩
  | step _ hr h0 _ => exact ⟨h0, (faced_le G hr).2⟩
theorem OutInv.is (G : Grid g W H) (hN : N ≤ 40) (h : OutInv g W H wo N N [] R) (j : Nat) (hj : j < 40) : R j = true ↔ ∃ p : Nat, p < N ∧ (p : Int) ≠ wo ∧ -1 ∈ facedL g W H p ∧ ConnP g W H wo p j := by
  refine ⟨h.conn j hj, fun ⟨p, hp, hw, hq, hc⟩ => ?_⟩
  have key : ∀ r : Int, ConnP g W H wo p r → ∀ m : Nat, r = m → R m = true := by
    intro r hr
    induction hr with
    | refl _ _ =>
      intro m hm
      obtain rfl : p = m := by omega
      exact h.done p hp hw hq
    | step hc hr h0 hw' ih =>
      intro m hm
      have h40 := hc.lt40 G (by omega)
      obtain ⟨q', hq'⟩ := Int.eq_ofNat_of_zero_le h40.1
      rw [hq'] at hr
      exact h.closed q' (by omega) (ih q' hq') _ hr m hm hw'
  exact key j hc j rfl
end

theorem zero84 : (#[.bool false, .bool false, .bool false, .bool false, .bool false, .bool false, .bool false, .bool false, .bool false, .bool false,
  .bool false, .bool false, .bool false, .bool false, .bool false, .bool false, .bool false, .bool false, .bool false, .bool false,
  .bool false, .bool false, .bool false, .bool false, .bool false, .bool false, .bool false, .bool false, .bool false, .bool false,
  .bool false, .bool false, .bool false, .bool false, .bool false, .bool false, .bool false, .bool false, .bool false, .bool false] : Array Value) = boolCells 40 (fun _ => false) := by kernel_rfl
set_option maxRecDepth 100000 in
set_option maxHeartbeats 4000000 in
theorem outside_any (g : Int × Int → Option Int) (W H : Nat) (G : Grid g W H) (N : Nat) (hN : N ≤ 40) (wo : Int) (mb : Nat) (w : World) (hm : MapIs Try.prog 106 cellV w mb g) :
    Calls Try.prog 51 #[picV W H N mb, .int .i64 wo] w fun e w' => ∃ R : Nat → Bool, e = .returned (.agg (boolCells 40 R)) ∧ Mod noB w w' ∧ OutInv g W H wo N N [] R := by
  refine callsIn_wide (n := 3) |>.1 ?_
  refine callsIn_of_wp_marks Try.func51 rfl trivial ?_ rfl
  simp only [Try.ntmps51, List.size_toArray, List.length_cons, List.length_nil, Nat.reduceAdd, Nat.reduceSub, Array.replicate_succ, Array.replicate_zero, List.push_toArray, List.append_toArray, List.nil_append, List.cons_append]
  have HM := Hold.mk hm
  have HG := Hold.mk G
  clear hm G
  gi_wp2
  rw [zero84, allocL5]
  obtain ⟨W1, hW1⟩ : ∃ W1, allocL w [.cells #[.int .i64 W, .int .i64 H, .int .i64 N, .map (some mb)] 71, .cells #[.int .i64 wo] 3, .cells (boolCells 40 fun _ => false) 84, .cells (boolCells 40 fun _ => false) 84,
    .cells #[.func (.func 73) #[] #[.pointer (some ⟨w.heap.size + 1, 0, none⟩), .pointer (some ⟨w.heap.size + 1 + 1 + 1, 0, none⟩), .pointer (some ⟨w.heap.size, 0, none⟩), .pointer (some ⟨w.heap.size + 1 + 1 + 1 + 1, 0, none⟩)]] 115] = W1 := ⟨_, rfl⟩
  have hM1 : Mod noB w W1 := by rw [← hW1]; exact allocL_mod _ _ _
  have hz1 : W1.heap.size = w.heap.size + 5 := by rw [← hW1]; exact allocL_size _ _
  have bpic : W1.heap[w.heap.size + 0]? = some (.cells #[.int .i64 W, .int .i64 H, .int .i64 N, .map (some mb)] 71) := by rw [← hW1]; exact allocL_at _ _ _ _ rfl
  have bwo : W1.heap[w.heap.size + 1]? = some (.cells #[.int .i64 wo] 3) := by rw [← hW1]; exact allocL_at _ _ _ _ rfl
  have bres : W1.heap[w.heap.size + 2]? = some (.cells (boolCells 40 fun _ => false) 84) := by rw [← hW1]; exact allocL_at _ _ _ _ rfl
  have brch : W1.heap[w.heap.size + 3]? = some (.cells (boolCells 40 fun _ => false) 84) := by rw [← hW1]; exact allocL_at _ _ _ _ rfl
  have bfun : W1.heap[w.heap.size + 4]? = some (.cells #[.func (.func 73) #[] #[.pointer (some ⟨w.heap.size + 1, 0, none⟩), .pointer (some ⟨w.heap.size + 1 + 1 + 1, 0, none⟩), .pointer (some ⟨w.heap.size, 0, none⟩), .pointer (some ⟨w.heap.size + 1 + 1 + 1 + 1, 0, none⟩)]] 115) := by rw [← hW1]; exact allocL_at _ _ _ _ rfl
  rw [hW1]
  clear hW1
  have hm1 := HM.out.same (hM1.block mb HM.out.lt id)
  have hml := HM.out.lt
  have gw := HG.out.w2
  have gh := HG.out.h2
  refine wpIn_loop (fun a Wc => ∃ (k : Nat) (Ds : List Nat) (R : Nat → Bool) (u7 u8 u13 u14 u15 u16 u17 u18 u19 u20 u21 u22 u23 u24 : Value),
      a = { tmps := #[picV W H N mb, .int .i64 wo, .pointer (some ⟨w.heap.size, 0, none⟩), .pointer (some ⟨w.heap.size + 1, 0, none⟩), .pointer (some ⟨w.heap.size + 1 + 1, 0, none⟩), .pointer (some ⟨w.heap.size + 1 + 1 + 1, 0, none⟩), .pointer (some ⟨w.heap.size + 1 + 1 + 1 + 1, 0, none⟩), u7, u8,
        .func (.func 73) #[] #[.pointer (some ⟨w.heap.size + 1, 0, none⟩), .pointer (some ⟨w.heap.size + 1 + 1 + 1, 0, none⟩), .pointer (some ⟨w.heap.size, 0, none⟩), .pointer (some ⟨w.heap.size + 1 + 1 + 1 + 1, 0, none⟩)],
        .pointer (some ⟨w.heap.size, 2, none⟩), .int .i64 N, .int .i64 k, u13, u14, u15, u16, u17, u18, u19, u20, u21, u22, u23, u24, undef], defers := Ds.map markD } ∧
      k ≤ N ∧ Wc.heap[w.heap.size + 3]? = some (.cells (boolCells 40 R) 84) ∧ OutInv g W H wo N k [] R ∧ Mod (fun b => b = w.heap.size + 3) W1 Wc ∧ Ds.Nodup ∧ ∀ D ∈ Ds, w.heap.size + 5 ≤ D ∧ Wc.heap[D]? = some (.deferred (some [])))
    (fun a _ => N - (intOf (a.tmps.getD 12 undef)).toNat) ⟨0, [], _, undef, undef, undef, undef, undef, undef, undef, undef, undef, undef, undef, undef, undef, undef, rfl, Nat.zero_le _, brch, OutInv.begin, Mod.refl _ _, by simp, by simp⟩ ?_
  rintro a Wc ⟨k, Ds, R, u7, u8, u13, u14, u15, u16, u17, u18, u19, u20, u21, u22, u23, u24, rfl, hk, hR, hinv, hmc, hnd, hds⟩
  have hMc := Hold.mk hmc
  have HDS := Hold.mk (And.intro hnd hds)
  clear hnd hds hmc
  have hpic := hMc.out.at bpic (by omega)
  have hwoc := hMc.out.at bwo (by omega)
  have hfun := hMc.out.at bfun (by omega)
  have hmpc := hm1.same (hMc.out.block mb hm1.lt (by omega))
  have hszc := hMc.out.size
  have hresc := hMc.out.at bres (by omega)
  generalize hds : Ds.map markD = ds
  by_cases hkn : k < N
  · have c0 : Wc.cell? ⟨w.heap.size, 0, none⟩ = some (.int .i64 W) := by simp only [Nat.add_zero] at hpic; simp [World.cell?, hpic]
    have c1 : Wc.cell? ⟨w.heap.size, 1, none⟩ = some (.int .i64 H) := by simp only [Nat.add_zero] at hpic; simp [World.cell?, hpic]
    have c2 : Wc.cell? ⟨w.heap.size, 2, none⟩ = some (.int .i64 N) := by simp only [Nat.add_zero] at hpic; simp [World.cell?, hpic]
    have c3 : Wc.cell? ⟨w.heap.size, 3, none⟩ = some (.map (some mb)) := by simp only [Nat.add_zero] at hpic; simp [World.cell?, hpic]
    have HR := Hold.mk (And.intro hR (And.intro hinv (And.intro hpic (And.intro hwoc (And.intro hfun (And.intro hresc hmpc))))))
    have hN' : (N : Int) ≤ 40 := by omega
    have hlt : w.heap.size < Wc.heap.size := by omega
    clear hR hinv hpic hwoc hfun hmpc hresc bpic bwo bfun brch bres hm1
    gi_wp2_with (refine ⟨trivial, ?_⟩; gi_at_call 49; refine (callsIn_wide.2 (faced_any _ _ _ _ _ _)).mono ?_; rintro e w' ⟨rfl, rfl⟩)
    obtain ⟨hR, hinv, hpic, hwoc, hfun, hresc, hmpc⟩ := HR.out
    rw [allocL3]
    obtain ⟨W2, hW2⟩ : ∃ W2, allocL Wc [.cells #[.int .i64 k] 3, .cells #[.int .i64 W, .int .i64 H, .int .i64 N, .map (some mb)] 71, .cells #[.int .i64 k] 3] = W2 := ⟨_, rfl⟩
    have hM2 : Mod noB Wc W2 := by rw [← hW2]; exact allocL_mod _ _ _
    have hz2 : W2.heap.size = Wc.heap.size + 3 := by rw [← hW2]; exact allocL_size _ _
    have bk : W2.heap[Wc.heap.size + 0]? = some (.cells #[.int .i64 k] 3) := by rw [← hW2]; exact allocL_at _ _ _ _ rfl
    have bp : W2.heap[Wc.heap.size + 1]? = some (.cells #[.int .i64 W, .int .i64 H, .int .i64 N, .map (some mb)] 71) := by rw [← hW2]; exact allocL_at _ _ _ _ rfl
    have bn : W2.heap[Wc.heap.size + 2]? = some (.cells #[.int .i64 k] 3) := by rw [← hW2]; exact allocL_at _ _ _ _ rfl
    rw [hW2]
    clear hW2 c0 c1 c2 c3
    have hpic2 := hM2.at hpic id
    have hwoc2 := hM2.at hwoc id
    have hfun2 := hM2.at hfun id
    have hmp2 := hmpc.same (hM2.block mb hmpc.lt id)
    have hR2 := hM2.at hR id
    have HH := Hold.mk (And.intro hpic2 (And.intro hwoc2 (And.intro hfun2 (And.intro hmp2 (And.intro bk hinv)))))
    refine range_plain (gf := 69) (lb := #[.pointer (some ⟨Wc.heap.size + 1, 0, none⟩), .pointer (some ⟨Wc.heap.size + 1 + 1, 0, none⟩)]) rfl rfl enter69 (faced1_runs (Wc.heap.size + 1) (Wc.heap.size + 1 + 1) mb W H N k g W2 bp bn hmp2 gw gh)
      (by rintro b (rfl | rfl | rfl) <;> omega) (fun b => b = w.heap.size + 3) (by rintro b rfl; exact ⟨by omega, by omega⟩)
      (fun pre Wr => (∃ Rc, Wr.heap[w.heap.size + 3]? = some (.cells (boolCells 40 Rc) 84) ∧ OutInv g W H wo N k pre Rc) ∧ Mod (fun b => b = w.heap.size + 3) W2 Wr)
      (fun _ _ _ => False)
      (fun s A B h hg => by
        obtain ⟨⟨Rc, h1, h2⟩, h3⟩ := h
        exact ⟨⟨Rc, hg.at h1 (by omega), h2⟩, h3.then hg (fun i h1 h2 => by omega)⟩)
      (fun c s A B h hg => h)
      ⟨⟨_, hR2, hinv⟩, Mod.refl _ _⟩
      none
      (fun _ x => { tmps := #[picV W H N mb, .int .i64 wo, .pointer (some ⟨w.heap.size, 0, none⟩), .pointer (some ⟨w.heap.size + 1, 0, none⟩), .pointer (some ⟨w.heap.size + 1 + 1, 0, none⟩), .pointer (some ⟨w.heap.size + 1 + 1 + 1, 0, none⟩), .pointer (some ⟨w.heap.size + 1 + 1 + 1 + 1, 0, none⟩), .pointer (some ⟨Wc.heap.size, 0, none⟩), .int .i64 x,
          .func (.func 73) #[] #[.pointer (some ⟨w.heap.size + 1, 0, none⟩), .pointer (some ⟨w.heap.size + 1 + 1 + 1, 0, none⟩), .pointer (some ⟨w.heap.size, 0, none⟩), .pointer (some ⟨w.heap.size + 1 + 1 + 1 + 1, 0, none⟩)],
          .pointer (some ⟨w.heap.size, 2, none⟩), .int .i64 N, .int .i64 k, .bool true, .int .i64 k, .agg #[.int .i64 W, .int .i64 H, .int .i64 N, .map (some mb)], .int .i64 k,
          .func (.func 69) #[] #[.pointer (some ⟨Wc.heap.size + 1, 0, none⟩), .pointer (some ⟨Wc.heap.size + 1 + 1, 0, none⟩)], .int .i64 x, u19, u20, u21, u22, u23, u24, undef], defers := [] })
      ?assign ?body ?done ?stop
    case assign =>
      clear HH hpic2 hwoc2 hfun2 hmp2 bk hinv hR2 bp bn
      intro l x Wx K hK
      gi_wp2
      exact hK
    case body =>
      rintro l2 pre x rest a' Wr hL hl2 hr2 hzr ⟨⟨Rc, hrr, hinr⟩, hmr⟩ rfl
      clear hpic2 hwoc2 hfun2 hmp2 bk hinv hR2 bp bn hR hpic hwoc hfun hresc hmpc
      obtain ⟨hpic2, hwoc2, hfun2, hmp2, bk, _⟩ := HH.out
      have fr := hmr.at hfun2 (by omega)
      have kr := hmr.at bk (by omega)
      have c4 : Wr.cell? ⟨w.heap.size + 1 + 1 + 1 + 1, 0, none⟩ = some (.func (.func 73) #[] #[.pointer (some ⟨w.heap.size + 1, 0, none⟩), .pointer (some ⟨w.heap.size + 1 + 1 + 1, 0, none⟩), .pointer (some ⟨w.heap.size, 0, none⟩), .pointer (some ⟨w.heap.size + 1 + 1 + 1 + 1, 0, none⟩)]) := by simp [World.cell?, fr]
      have c5 : Wr.cell? ⟨Wc.heap.size, 0, none⟩ = some (.int .i64 k) := by simp only [Nat.add_zero] at kr; simp [World.cell?, kr]
      have hxm : x ∈ facedL g W H k := by rw [hL]; simp
      have HC := Hold.mk (out_any (wo := wo) HG.out N (w.heap.size + 1) (w.heap.size + 1 + 1 + 1) w.heap.size (w.heap.size + 1 + 1 + 1 + 1) mb ⟨by omega, by omega, by omega, by omega⟩ _ Rc k Wr (Nat.lt_succ_self _) (by omega) (by omega) hrr
        (hmr.at hwoc2 (by omega)) (hmr.at hpic2 (by omega)) fr (hmp2.same (hmr.block mb hmp2.lt (by omega))))
      have HF := Hold.mk (And.intro hinr (And.intro hmr (And.intro hxm hrr)))
      clear hL hrr hinr hmr hxm fr kr hpic2 hwoc2 hfun2 hmp2 bk HH
      by_cases hx : x = -1
      · have hb : (x == -1) = true := by simpa using hx
        have HX := Hold.mk hx
        clear hx
        gi_wp2_with (refine ⟨trivial, ?_⟩; gi_at_call 73; refine (CallsIn.inRound l2 (callsIn_wide.2 HC.out)).mono ?_; rintro e w' ⟨rfl, hMw, R2, hr2', hf2⟩)
        obtain ⟨hinr, hmr, hxm, _⟩ := HF.out
        exact ⟨hMw, ⟨R2, hr2', hinr.reach hkn (HX.out ▸ hxm) hf2 x⟩, hmr.trans hMw⟩
      · have hb : (x == -1) = false := by simpa using hx
        have HX := Hold.mk hx
        clear hx
        gi_wp2
        obtain ⟨hinr, hmr, hxm, hrr⟩ := HF.out
        exact ⟨Mod.refl _ _, ⟨Rc, hrr, hinr.skip HX.out⟩, hmr⟩
    case done =>
      rintro D W' hD hz ⟨⟨Rc, hr, hinr⟩, hm'⟩ hK
      clear HH hpic2 hwoc2 hfun2 hmp2 bk hinv hR2 bp bn hR hpic hwoc hfun hresc hmpc
      have HF := Hold.mk (And.intro hr (And.intro hinr (And.intro hm' hK)))
      clear hr hinr hm' hK
      gi_wp2
      obtain ⟨hr, hinr, hm', hK⟩ := HF.out
      obtain ⟨hnd, hd⟩ := HDS.out
      refine ⟨⟨k + 1, D :: Ds, Rc, _, _, _, _, _, _, _, _, _, _, _, _, _, _, by rw [← hds]; rfl, by omega, hr, hinr.next, (hMc.out.trans (hM2.wider (fun i _ h => h.elim))).trans hm', ?_, ?_⟩, ?_⟩
      · refine List.nodup_cons.2 ⟨fun hm => ?_, hnd⟩
        have h1 := (Array.getElem?_eq_some_iff.1 (hd D hm).2).1
        omega
      · intro E hE
        rcases List.mem_cons.1 hE with rfl | hE
        · exact ⟨by omega, hK⟩
        · exact ⟨(hd E hE).1, hm'.at (hM2.at (hd E hE).2 id) (by have := (hd E hE).1; omega)⟩
      · simp [intOf]; omega
    case stop =>
      rintro D c pre Wx hD hz hpre h hK
      exact h.elim
  · obtain rfl : k = N := by omega
    have e1 : (Try.prog.info? 84).map (·.size) = some (boolCells 40 R).size := by rw [boolCells, fcells_size]; kernel_rfl
    have e2 : (boolCells 40 R).all (·.oneCell') = true := by simp [boolCells, fcells, Value.oneCell']
    have e3 : (boolCells 40 fun _ => false).size = (boolCells 40 R).size := by simp [boolCells, fcells_size]
    have E := Hold.mk (And.intro e1 (And.intro e2 (And.intro e3 (And.intro hR (And.intro hresc hinv)))))
    clear hR hinv hpic hwoc hfun hmpc hresc bpic bwo bfun brch bres hm1 e1 e2 e3
    gi_wp2_with (first
      | (refine wpListIn_loadRow rfl 84 (.tmp 5) rfl (w.heap.size + 1 + 1 + 1) rfl 84 _ _ E.out.2.2.2.1 Try.underlying84 rfl E.out.1 ?_)
      | (refine wpListIn_storeRow rfl 84 (.tmp 4) (.tmp 25) rfl (w.heap.size + 1 + 1) rfl _ rfl 84 _ E.out.2.2.2.2.1 E.out.1 E.out.2.2.1 E.out.2.1 ?_))
    obtain ⟨e1, e2, e3, hR, hresc, hinv⟩ := E.out
    obtain ⟨hnd, hd⟩ := HDS.out
    show LeavesInM _ _ _ _ _ _ ds _ _
    rw [← hds]
    refine leaves_marks Ds _ hnd (fun D hD => (World.putObj_heap_other (by have := (hd D hD).1; omega)).trans (hd D hD).2) ?_
    intro W' hm
    have hlt := (Array.getElem?_eq_some_iff.1 hresc).1
    have hg := hm.at (World.putObj_heap_same (o := .cells (boolCells 40 R) 84) hlt) (fun hD => by have := (hd _ hD).1; omega)
    refine ⟨_, results_cell_row (fn := Try.f51) rfl _ _ (w.heap.size + 2) 84 _ (0, 0) _ rfl hg Try.underlying84 rfl e1, R, rfl, ?_, hinv⟩
    have hq : Mod noB w Wc := hM1.then hMc.out (fun i h1 h2 => by omega)
    exact (hq.putObj (fun h => by omega) _).then hm (fun i h1 h2 => by have := (hd i h2).1; omega)
end Go.Proofs.Ytogalmkeipigeaa

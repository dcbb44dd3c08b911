/- How often each value comes in a sequence: tally, for integers and for bools. -/
import Derived.Test.YtogalmkeipigeaaLoop
import Derived.Test.YtogalmkeipigeaaMap
import Derived.BigQuiet
set_option linter.unusedSimpArgs false
set_option linter.unusedVariables false
namespace Go.Proofs.Ytogalmkeipigeaa
open Go.RowKit Go.Shelf
attribute [local go_sem] Oper.semAt_some

/-- How often each value comes in a list. -/
def tal {α : Type} [DecidableEq α] (L : List α) (x : α) : Option Int := if x ∈ L then some ((L.count x : Nat) : Int) else none

theorem tal_nil {α : Type} [DecidableEq α] : (tal ([] : List α)) = fun _ => none := by funext x; simp [tal]
theorem tal_getD {α : Type} [DecidableEq α] (L : List α) (x : α) : (tal L x).getD 0 = ((L.count x : Nat) : Int) := by
  unfold tal
  split
  · rfl
  · rename_i h; rw [List.count_eq_zero_of_not_mem h]; rfl
theorem tal_nonneg {α : Type} [DecidableEq α] (L : List α) (x : α) : 0 ≤ (tal L x).getD 0 := by rw [tal_getD]; omega
theorem tal_le {α : Type} [DecidableEq α] (L : List α) (x : α) : (tal L x).getD 0 ≤ (L.length : Int) := by rw [tal_getD]; exact Int.ofNat_le.2 List.count_le_length
theorem tal_snoc {α : Type} [DecidableEq α] (pre : List α) (x : α) : tal (pre ++ [x]) = fun y => if y = x then some ((tal pre x).getD 0 + 1) else tal pre y := by
  funext y
  rw [tal_getD]
  unfold tal
  by_cases h : y = x
  · subst h
    simp
  · simp [h, Ne.symm h]

set_option maxRecDepth 100000 in
set_option maxHeartbeats 2000000 in
theorem tallyInt_any (gf : Nat) (lb : Array Value) (S : Nat → Prop) (L : List Int) (w : World) (hr : Runs Try.prog gf lb intV S L w) (hS : ∀ k, S k → k < w.heap.size)
    (eg : ∀ args w, (callFunc gf args).run Try.prog w = .ok (.enter gf args) w) (hwf : ∀ x ∈ L, ∃ l, keyOf Try.prog 3 (intV x) = some l) (hlen : L.length ≤ 1000000) :
    Calls Try.prog 48 #[.func (.func gf) #[] lb] w fun e w' => ∃ mb, e = .returned (.map (some mb)) ∧ Mod noB w w' ∧ w.heap.size ≤ mb ∧ MapIs Try.prog 3 intV w' mb (tal L) := by
  have hmm := @run_makeMap Try.prog
  refine callsIn_wide (n := 3) |>.1 ?_
  refine callsIn_of_wp_marks Try.func48 rfl trivial ?_ rfl
  simp only [Try.ntmps48, List.size_toArray, List.length_cons, List.length_nil, Nat.reduceAdd, Nat.reduceSub, Array.replicate_succ, Array.replicate_zero, List.push_toArray, List.append_toArray, List.nil_append, List.cons_append]
  gi_wp2
  clear hmm
  obtain ⟨W1, hW1⟩ : ∃ W1, (w.alloc (.map #[] 0)).alloc (.cells #[.map (some w.heap.size)] 78) = W1 := ⟨_, rfl⟩
  have hM1 : Mod noB w W1 := by rw [← hW1]; exact ((Mod.refl _ _).alloc _).alloc _
  have hz1 : W1.heap.size = w.heap.size + 2 := by rw [← hW1]; simp
  have hm1 : MapIs Try.prog 3 intV W1 w.heap.size (tal []) := by rw [← hW1, tal_nil]; exact (MapIs.made _ _ _ _).alloc _
  have hb1 : W1.heap[w.heap.size + 1]? = some (.cells #[.map (some w.heap.size)] 78) := by
    rw [← hW1]; have := World.alloc_heap_new (w.alloc (.map #[] 0)) (.cells #[.map (some w.heap.size)] 78); simpa using this
  rw [hW1]
  clear hW1
  refine range_plain (gf := gf) (lb := lb) rfl rfl eg (hr.later hM1.size (hM1.keepB (fun k hk => ⟨hS k hk, id⟩))) (fun k hk => by have := hS k hk; omega)
    (fun k => k = w.heap.size) (by rintro k rfl; exact ⟨by omega, fun h => absurd (hS _ h) (Nat.lt_irrefl _)⟩)
    (fun pre Wr => (pre.length ≤ L.length ∧ MapIs Try.prog 3 intV Wr w.heap.size (tal pre)) ∧ Mod (fun k => k = w.heap.size) W1 Wr)
    (fun _ _ _ => False)
    (fun s A B h hg => ⟨⟨h.1.1, h.1.2.same (hg.block _ h.1.2.lt (by omega))⟩, h.2.then hg (fun i h1 h2 => by omega)⟩)
    (fun c s A B h hg => h)
    ⟨⟨Nat.zero_le _, hm1⟩, Mod.refl _ _⟩
    none
    (fun _ x => { tmps := #[.func (.func gf) #[] lb, undef, .map none, .pointer (some ⟨w.heap.size + 1, 0, none⟩), .int .i64 x, .map (some w.heap.size), .func (.func gf) #[] lb, .int .i64 x, undef, undef, undef, undef, undef], defers := [] })
    ?assign ?body ?done ?stop
  case assign =>
    intro l x W K hK
    gi_wp2
    exact hK
  case body =>
    rintro l2 pre x rest a' Wr hL hl2 hr2 hzr ⟨⟨hpl, hmp⟩, hmr⟩ rfl
    have hbr := hmr.at hb1 (by omega)
    have k0 : Wr.cell? ⟨w.heap.size + 1, 0, none⟩ = some (.map (some w.heap.size)) := by simp [World.cell?, hbr]
    obtain ⟨kl, hk⟩ := hwf x (by rw [hL]; simp)
    have hc : (0 : Int) ≤ ((tal pre x).getD 0) ∧ ((tal pre x).getD 0) ≤ 1000000 := ⟨tal_nonneg _ _, Int.le_trans (tal_le _ _) (by rw [hL] at hpl hlen; simp at hpl hlen ⊢; omega)⟩
    have hlk := hmp.look1 law3 hk Try.underlying78 (zero3 _)
    obtain ⟨o, hst, hm2⟩ := hmp.store law3 intV_inj hk Try.underlying78 (((tal pre x).getD 0) + 1)
    have HS : Hold ((fun y => if y = x then some (((tal pre x).getD 0) + 1) else tal pre y) = tal (pre ++ [x])) := ⟨(tal_snoc pre x).symm⟩
    generalize (tal pre x).getD 0 = c at *
    dsimp only [intV] at hlk hst
    have HM := Hold.mk hm2
    have HL : Hold ((pre ++ [x]).length ≤ L.length) := ⟨by rw [hL]; simp⟩
    obtain ⟨h01, h02⟩ := hc
    clear hk hwf hm2 hmp hL hpl hr hlen hm1
    gi_wp2
    exact ⟨(Mod.refl (fun k => k = w.heap.size) Wr).putObj (fun _ => rfl) _, ⟨HL.out, by rw [← HS.out]; exact HM.out⟩, hmr.putObj (fun _ => rfl) _⟩
  case done =>
    rintro D W' hD hz ⟨⟨_, hmp⟩, hm⟩ hK
    have hbr := hm.at hb1 (by omega)
    have k0 : W'.cell? ⟨w.heap.size + 1, 0, none⟩ = some (.map (some w.heap.size)) := by simp [World.cell?, hbr]
    gi_wp2
    refine ⟨by simp, .inl ⟨_, _, rfl, run_takeDeferred hK, ?_⟩⟩
    exact ⟨_, results_tmp rfl _ _ _, w.heap.size, rfl, (hM1.then hm (fun i h1 h2 => by omega)).putObj (fun h => by omega) _, Nat.le_refl _, hmp.same (World.putObj_heap_other (by omega))⟩
  case stop =>
    rintro D c pre W hD hz hpre h hK
    exact h.elim

set_option maxRecDepth 100000 in
set_option maxHeartbeats 2000000 in
theorem tallyBool_any (gf : Nat) (lb : Array Value) (S : Nat → Prop) (L : List Bool) (w : World) (hr : Runs Try.prog gf lb boolV S L w) (hS : ∀ k, S k → k < w.heap.size)
    (eg : ∀ args w, (callFunc gf args).run Try.prog w = .ok (.enter gf args) w) (hwf : ∀ x ∈ L, ∃ l, keyOf Try.prog 4 (boolV x) = some l) (hlen : L.length ≤ 1000000) :
    Calls Try.prog 53 #[.func (.func gf) #[] lb] w fun e w' => ∃ mb, e = .returned (.map (some mb)) ∧ Mod noB w w' ∧ w.heap.size ≤ mb ∧ MapIs Try.prog 4 boolV w' mb (tal L) := by
  have hmm := @run_makeMap Try.prog
  refine callsIn_wide (n := 3) |>.1 ?_
  refine callsIn_of_wp_marks Try.func53 rfl trivial ?_ rfl
  simp only [Try.ntmps53, List.size_toArray, List.length_cons, List.length_nil, Nat.reduceAdd, Nat.reduceSub, Array.replicate_succ, Array.replicate_zero, List.push_toArray, List.append_toArray, List.nil_append, List.cons_append]
  gi_wp2
  clear hmm
  obtain ⟨W1, hW1⟩ : ∃ W1, (w.alloc (.map #[] 0)).alloc (.cells #[.map (some w.heap.size)] 87) = W1 := ⟨_, rfl⟩
  have hM1 : Mod noB w W1 := by rw [← hW1]; exact ((Mod.refl _ _).alloc _).alloc _
  have hz1 : W1.heap.size = w.heap.size + 2 := by rw [← hW1]; simp
  have hm1 : MapIs Try.prog 4 boolV W1 w.heap.size (tal []) := by rw [← hW1, tal_nil]; exact (MapIs.made _ _ _ _).alloc _
  have hb1 : W1.heap[w.heap.size + 1]? = some (.cells #[.map (some w.heap.size)] 87) := by
    rw [← hW1]; have := World.alloc_heap_new (w.alloc (.map #[] 0)) (.cells #[.map (some w.heap.size)] 87); simpa using this
  rw [hW1]
  clear hW1
  refine range_plain (gf := gf) (lb := lb) rfl rfl eg (hr.later hM1.size (hM1.keepB (fun k hk => ⟨hS k hk, id⟩))) (fun k hk => by have := hS k hk; omega)
    (fun k => k = w.heap.size) (by rintro k rfl; exact ⟨by omega, fun h => absurd (hS _ h) (Nat.lt_irrefl _)⟩)
    (fun pre Wr => (pre.length ≤ L.length ∧ MapIs Try.prog 4 boolV Wr w.heap.size (tal pre)) ∧ Mod (fun k => k = w.heap.size) W1 Wr)
    (fun _ _ _ => False)
    (fun s A B h hg => ⟨⟨h.1.1, h.1.2.same (hg.block _ h.1.2.lt (by omega))⟩, h.2.then hg (fun i h1 h2 => by omega)⟩)
    (fun c s A B h hg => h)
    ⟨⟨Nat.zero_le _, hm1⟩, Mod.refl _ _⟩
    none
    (fun _ x => { tmps := #[.func (.func gf) #[] lb, undef, .map none, .pointer (some ⟨w.heap.size + 1, 0, none⟩), .bool x, .map (some w.heap.size), .func (.func gf) #[] lb, .bool x, undef, undef, undef, undef, undef], defers := [] })
    ?assign ?body ?done ?stop
  case assign =>
    intro l x W K hK
    gi_wp2
    exact hK
  case body =>
    rintro l2 pre x rest a' Wr hL hl2 hr2 hzr ⟨⟨hpl, hmp⟩, hmr⟩ rfl
    have hbr := hmr.at hb1 (by omega)
    have k0 : Wr.cell? ⟨w.heap.size + 1, 0, none⟩ = some (.map (some w.heap.size)) := by simp [World.cell?, hbr]
    obtain ⟨kl, hk⟩ := hwf x (by rw [hL]; simp)
    have hc : (0 : Int) ≤ ((tal pre x).getD 0) ∧ ((tal pre x).getD 0) ≤ 1000000 := ⟨tal_nonneg _ _, Int.le_trans (tal_le _ _) (by rw [hL] at hpl hlen; simp at hpl hlen ⊢; omega)⟩
    have hlk := hmp.look1 law4 hk Try.underlying87 (zero3 _)
    obtain ⟨o, hst, hm2⟩ := hmp.store law4 boolV_inj hk Try.underlying87 (((tal pre x).getD 0) + 1)
    have HS : Hold ((fun y => if y = x then some (((tal pre x).getD 0) + 1) else tal pre y) = tal (pre ++ [x])) := ⟨(tal_snoc pre x).symm⟩
    generalize (tal pre x).getD 0 = c at *
    dsimp only [boolV] at hlk hst
    have HM := Hold.mk hm2
    have HL : Hold ((pre ++ [x]).length ≤ L.length) := ⟨by rw [hL]; simp⟩
    obtain ⟨h01, h02⟩ := hc
    clear hk hwf hm2 hmp hL hpl hr hlen hm1
    gi_wp2
    exact ⟨(Mod.refl (fun k => k = w.heap.size) Wr).putObj (fun _ => rfl) _, ⟨HL.out, by rw [← HS.out]; exact HM.out⟩, hmr.putObj (fun _ => rfl) _⟩
  case done =>
    rintro D W' hD hz ⟨⟨_, hmp⟩, hm⟩ hK
    have hbr := hm.at hb1 (by omega)
    have k0 : W'.cell? ⟨w.heap.size + 1, 0, none⟩ = some (.map (some w.heap.size)) := by simp [World.cell?, hbr]
    gi_wp2
    refine ⟨by simp, .inl ⟨_, _, rfl, run_takeDeferred hK, ?_⟩⟩
    exact ⟨_, results_tmp rfl _ _ _, w.heap.size, rfl, (hM1.then hm (fun i h1 h2 => by omega)).putObj (fun h => by omega) _, Nat.le_refl _, hmp.same (World.putObj_heap_other (by omega))⟩
  case stop =>
    rintro D c pre W hD hz hpre h hK
    exact h.elim

end Go.Proofs.Ytogalmkeipigeaa

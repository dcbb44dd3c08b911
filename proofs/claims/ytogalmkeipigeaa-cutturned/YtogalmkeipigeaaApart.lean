/- The makers of the iterators over edges, points, numbers and over what a piece faces; and whether two cells are apart. -/
import Derived.Test.YtogalmkeipigeaaFaced
import Derived.Test.YtogalmkeipigeaaFlood
set_option linter.unusedSimpArgs false
set_option linter.unusedVariables false
namespace Go.Proofs.Ytogalmkeipigeaa
open Go.RowKit Go.Shelf
attribute [local go_sem] Oper.semAt_some

set_option maxHeartbeats 400000 in
theorem faced_any (W H N n : Int) (mb : Nat) (w : World) :
    Calls Try.prog 49 #[picV W H N mb, .int .i64 n] w fun e w' => e = .returned (.func (.func 69) #[] #[.pointer (some ⟨w.heap.size, 0, none⟩), .pointer (some ⟨w.heap.size + 1, 0, none⟩)]) ∧
      w' = (w.alloc (.cells #[.int .i64 W, .int .i64 H, .int .i64 N, .map (some mb)] 71)).alloc (.cells #[.int .i64 n] 3) := by
  go_enter Try.func49, Try.ntmps49
  go_wp2
  go_ret
  exact ⟨by simp, rfl⟩
set_option maxHeartbeats 400000 in
theorem edges_any (W H N : Int) (mb : Nat) (w : World) :
    Calls Try.prog 54 #[picV W H N mb] w fun e w' => e = .returned (.func (.func 76) #[] #[.pointer (some ⟨w.heap.size, 0, none⟩)]) ∧ w' = w.alloc (.cells #[.int .i64 W, .int .i64 H, .int .i64 N, .map (some mb)] 71) := by
  go_enter Try.func54, Try.ntmps54
  go_wp2
  go_ret
  exact ⟨rfl, rfl⟩
set_option maxHeartbeats 400000 in
theorem points_any (W H N : Int) (mb : Nat) (w : World) :
    Calls Try.prog 52 #[picV W H N mb] w fun e w' => e = .returned (.func (.func 74) #[] #[.pointer (some ⟨w.heap.size, 0, none⟩)]) ∧ w' = w.alloc (.cells #[.int .i64 W, .int .i64 H, .int .i64 N, .map (some mb)] 71) := by
  go_enter Try.func52, Try.ntmps52
  go_wp2
  go_ret
  exact ⟨rfl, rfl⟩
set_option maxHeartbeats 400000 in
theorem numbers_any (W H N a b c d : Int) (mb : Nat) (w : World) :
    Calls Try.prog 84 #[picV W H N mb, .agg #[.int .i64 a, .int .i64 b, .int .i64 c, .int .i64 d]] w fun e w' => e = .returned (.func (.func 88) #[] #[.pointer (some ⟨w.heap.size + 1, 0, none⟩), .pointer (some ⟨w.heap.size, 0, none⟩)]) ∧
      w' = (w.alloc (.cells #[.int .i64 W, .int .i64 H, .int .i64 N, .map (some mb)] 71)).alloc (.cells #[.int .i64 a, .int .i64 b, .int .i64 c, .int .i64 d] 97) := by
  go_enter Try.func84, Try.ntmps84
  go_wp2
  go_ret
  exact ⟨by simp, rfl⟩

/-- Two cells that are in the picture, and of two pieces. -/
def apartB (g : Int × Int → Option Int) (p q : Int × Int) : Bool := (atG g p != atG g q && atG g p != -1) && atG g q != -1

set_option maxRecDepth 100000 in
set_option maxHeartbeats 2000000 in
theorem apart_any (W H N : Int) (mb : Nat) (a b c d : Int) (w : World) (g : Int × Int → Option Int) (hm : MapIs Try.prog 106 cellV w mb g) (wa : wf64 a) (wb : wf64 b) (wc : wf64 c) (wd : wf64 d) :
    Calls Try.prog 77 #[.agg #[.int .i64 W, .int .i64 H, .int .i64 N, .map (some mb)], .agg #[.int .i64 a, .int .i64 b], .agg #[.int .i64 c, .int .i64 d]] w fun e w' => e = .returned (.bool (apartB g (a, b) (c, d))) ∧ Mod noB w w' := by
  obtain ⟨W1, hW1⟩ : ∃ W1, ((w.alloc (.cells #[.int .i64 W, .int .i64 H, .int .i64 N, .map (some mb)] 71)).alloc (.cells #[.int .i64 a, .int .i64 b] 106)).alloc (.cells #[.int .i64 c, .int .i64 d] 106) = W1 := ⟨_, rfl⟩
  have hM1 : Mod noB w W1 := by rw [← hW1]; exact (((Mod.refl noB w).alloc _).alloc _).alloc _
  have b0 : W1.heap[w.heap.size]? = some (.cells #[.int .i64 W, .int .i64 H, .int .i64 N, .map (some mb)] 71) := by
    rw [← hW1, Below.heap_alloc _ _ _ (by simp; omega), Below.heap_alloc _ _ _ (by simp)]; exact World.alloc_heap_new w _
  have b1 : W1.heap[w.heap.size + 1]? = some (.cells #[.int .i64 a, .int .i64 b] 106) := by
    rw [← hW1, Below.heap_alloc _ _ _ (by simp)]; have := World.alloc_heap_new (w.alloc (.cells #[.int .i64 W, .int .i64 H, .int .i64 N, .map (some mb)] 71)) (.cells #[.int .i64 a, .int .i64 b] 106); simpa using this
  have b2 : W1.heap[w.heap.size + 1 + 1]? = some (.cells #[.int .i64 c, .int .i64 d] 106) := by
    rw [← hW1]; have := World.alloc_heap_new ((w.alloc (.cells #[.int .i64 W, .int .i64 H, .int .i64 N, .map (some mb)] 71)).alloc (.cells #[.int .i64 a, .int .i64 b] 106)) (.cells #[.int .i64 c, .int .i64 d] 106); simpa using this
  have hm1 := hm.same (hM1.block mb hm.lt id)
  have FIN : Hold (∀ W', Mod noB W1 W' → W'.cell? ⟨w.heap.size, 0, none⟩ = some (.int .i64 W) ∧ W'.cell? ⟨w.heap.size, 1, none⟩ = some (.int .i64 H) ∧ W'.cell? ⟨w.heap.size, 2, none⟩ = some (.int .i64 N) ∧ W'.cell? ⟨w.heap.size, 3, none⟩ = some (.map (some mb)) ∧
      W'.cell? ⟨w.heap.size + 1, 0, none⟩ = some (.int .i64 a) ∧ W'.cell? ⟨w.heap.size + 1, 1, none⟩ = some (.int .i64 b) ∧ W'.cell? ⟨w.heap.size + 1 + 1, 0, none⟩ = some (.int .i64 c) ∧ W'.cell? ⟨w.heap.size + 1 + 1, 1, none⟩ = some (.int .i64 d) ∧ MapIs Try.prog 106 cellV W' mb g) := ⟨fun W' h => by
    have e1 := h.at b0 id
    have e2 := h.at b1 id
    have e3 := h.at b2 id
    refine ⟨?_, ?_, ?_, ?_, ?_, ?_, ?_, ?_, hm1.same (h.block mb hm1.lt id)⟩ <;> simp [World.cell?, e1, e2, e3]⟩
  have HM1 := Hold.mk hM1
  have HW1 := Hold.mk hW1
  clear hm hm1 b0 b1 b2 hM1 hW1
  obtain ⟨v1, v2, v3, k1, k2, k3⟩ : ∃ v1 v2 v3 : Bool, (atG g (a, b) != atG g (c, d)) = v1 ∧ (atG g (a, b) != -1) = v2 ∧ (atG g (c, d) != -1) = v3 := ⟨_, _, _, rfl, rfl, rfl⟩
  have HR : Hold (apartB g (a, b) (c, d) = ((v1 && v2) && v3)) := ⟨by unfold apartB; rw [k1, k2, k3]⟩
  cases v1 <;> cases v2 <;> cases v3
  all_goals
    refine callsIn_wide (n := 3) |>.1 ?_
    refine callsIn_of_wp Try.func77 rfl trivial ?_ rfl
    simp only [Try.ntmps77, List.size_toArray, List.length_cons, List.length_nil, Nat.reduceAdd, Nat.reduceSub, Array.replicate_succ, Array.replicate_zero, List.push_toArray, List.append_toArray, List.nil_append, List.cons_append]
    gi_wp2
    rw [HW1.out]
    refine region_quietC (fun _ => trivial) rfl wide_call mixed (by kernel_rfl) (by kernel_rfl) (fun W' => Mod noB W1 W') ((Mod.refl _ _).drew) ?_
    repeat
      (first
        | go_big_quiet_skip
        | (go_big_quiet_want
           go_simp
           first
             | go_big_quiet_on
             | (apply Exists.intro
                refine ⟨fun W' hC => ?_, ?_⟩
                · obtain ⟨f0, f1, f2, f3, f4, f5, f6, f7, f8⟩ := FIN.out W' hC
                  first
                    | (go_at_call 71; refine (at_two _ _ _ _ _ _ _ g f8 (by assumption) (by assumption)).mono fun e w'' he => ⟨he.1, hC.trans he.2⟩)
                    | with_reducible rfl
                    | (clear f8; go_simp; first | rfl | exact ⟨rfl, rfl⟩)
                go_big_quiet_on)))
    refine wpQuiet_nil ?_
    intro Wq hq
    gi_wp2
    go_ret
    exact ⟨by rw [HR.out]; rfl, HM1.out.trans hq⟩
end Go.Proofs.Ytogalmkeipigeaa

/- Two laws of regions that draw their order, for walks that stand in no fence; and 'rounded'. -/
import Derived.Test.YtnjbamikfjdofaaTail
import Derived.Test.YtnjbamikfjdofaaDamped
set_option linter.unusedSimpArgs false
set_option linter.unusedVariables false
namespace Go.Proofs.Ytnjbamikfjdofaa
open Go.RowKit Go.Shelf

theorem region_quietP {id : Nat} {Q : Exit → Act → World → Prop} {a : Act} {w : World} {l : List Oper} (hB : Region.lexB .any l.toArray = true) (hnd : l.all (fun o => !Op.isDefer o.op) = true)
    (C : World → Prop) (hC : C w.drew) (h : wpQuiet Try.prog l.toArray C (fun a' => ∀ w', C w' → Q .normal a' w') l a) : (Code.region id l.toArray true).wp Try.prog Q a w :=
  (wpIn_wide (n := 3)).1 (region_quietC (fun _ => trivial) rfl wide_call mixed hB hnd C hC h)

theorem region_tailP {id : Nat} {Q : Exit → Act → World → Prop} {a : Act} {w : World} {l : List Oper} (k : Nat) (T : Tailed l k)
    (hB : Region.lexB .any (strikeL l k).toArray = true) (X : World → Prop) (hX : X w.drew)
    (h : wpQuiet Try.prog (strikeL l k).toArray X (fun a' => ∀ w', X w' → wpListIn Fence.wide 3 Try.prog l.toArray Q (l.drop k) a' w') (strikeL l k) a) : (Code.region id l.toArray true).wp Try.prog Q a w :=
  (wpIn_wide (n := 3)).1 (region_tail (fun _ => trivial) rfl wide_call mixed k T hB X hX h)

theorem cells_frozen {w : World} {b : Nat} {cs : Array Value} {t : TypeId} (h : w.heap[b]? = some (.cells cs t)) (o : Nat) : w.frozen? ⟨b, o, none⟩ = false := by
  simp [World.frozen?, h]

def roundedR (s : Int × Int) : Int × Int := (s.1 / 1000, -(-s.2 / 1000))

set_option maxHeartbeats 1000000 in
theorem rounded_any (s : Int × Int) (w : World) (hs : Small 1000000000000 s) :
    Calls Try.prog 53 #[spV s] w fun e w' => e = .returned (spV (roundedR s)) ∧ Mod noB w w' := by
  obtain ⟨a, b⟩ := s
  have HT : Hold (∀ (n : Int) (w : World), (-1000000000000 ≤ n ∧ n ≤ 1000000000000) → Calls Try.prog 77 #[.int .i64 n] w fun e w' => e = .returned (.int .i64 (n / 1000)) ∧ Mod noB w w') :=
    ⟨fun n w h => (thousands_any n w h).mono fun e w' h => ⟨h.1, h.2 ▸ Mod.refl _ _⟩⟩
  obtain ⟨⟨a1, a2⟩, b1, b2⟩ := hs
  simp only at a1 a2 b1 b2
  obtain ⟨W1, hW1⟩ : ∃ W1, (w.alloc (.cells #[.int .i64 a, .int .i64 b] 90)).alloc (.cells #[.int .i64 0, .int .i64 0] 90) = W1 := ⟨_, rfl⟩
  have HM0 : Hold (Mod noB w W1) := ⟨by rw [← hW1]; exact ((Mod.refl _ _).alloc _).alloc _⟩
  have hb0 : W1.heap[w.heap.size]? = some (.cells #[.int .i64 a, .int .i64 b] 90) := by rw [← hW1, Below.heap_alloc _ _ _ (by simp)]; exact World.alloc_heap_new _ _
  have hb1 : W1.heap[w.heap.size + 1]? = some (.cells #[.int .i64 0, .int .i64 0] 90) := by rw [← hW1]; have := World.alloc_heap_new (w.alloc (.cells #[.int .i64 a, .int .i64 b] 90)) (.cells #[.int .i64 0, .int .i64 0] 90); simpa using this
  have FIN : Hold (∀ W', Mod noB W1 W' → W'.cell? ⟨w.heap.size, 0, none⟩ = some (.int .i64 a) ∧ W'.cell? ⟨w.heap.size, 1, none⟩ = some (.int .i64 b) ∧ W'.cell? ⟨w.heap.size + 1, 0, none⟩ = some (.int .i64 0) ∧ W'.cell? ⟨w.heap.size + 1, 1, none⟩ = some (.int .i64 0) ∧ W'.frozen? ⟨w.heap.size + 1, 0, none⟩ = false ∧ W'.frozen? ⟨w.heap.size + 1, 1, none⟩ = false) := ⟨fun W' h => by
    have e0 := h.at hb0 id
    have e1 := h.at hb1 id
    refine ⟨?_, ?_, ?_, ?_, cells_frozen e1 0, cells_frozen e1 1⟩ <;> simp [World.cell?, e0, e1]⟩
  clear hb0 hb1
  have v1 : IntKind.i64.wrap (-b) = -b := IntWalk.i64_in _ (by omega)
  have v2 : IntKind.i64.wrap (-(-b / 1000)) = -(-b / 1000) := IntWalk.i64_in _ (by omega)
  go_enter Try.func53, Try.ntmps53
  go_wp2
  clear hW1
  refine region_tailP 9 ⟨by decide, by kernel_rfl, by kernel_rfl, by kernel_rfl, by kernel_rfl, by kernel_rfl⟩ (by kernel_rfl) (fun W' => Mod noB W1 W') ((Mod.refl _ _).drew) ?_
  simp only [strikeL, List.take_succ_cons, List.take_zero, List.drop_succ_cons, List.drop_zero, List.map_cons, List.map_nil, List.cons_append, List.nil_append, bareO]
  repeat
    (first
      | go_big_quiet_skip
      | (go_big_quiet_want
         go_simp
         first
           | go_big_quiet_on
           | (apply Exists.intro
              refine ⟨fun W' hC => ?_, ?_⟩
              · obtain ⟨q0, q1, q2, q3, _, _⟩ := FIN.out W' hC
                first
                  | (go_at_call 77; refine (HT.out _ _ ⟨by omega, by omega⟩).mono fun e w'' he => ⟨he.1, hC.trans he.2⟩)
                  | with_reducible rfl
                  | (go_simp; first | rfl | exact ⟨rfl, rfl⟩)
              go_big_quiet_on)
           | (refine ⟨⟨_, fun _ _ => rfl⟩, ?_⟩; go_big_quiet_on)))
  refine wpQuiet_nil ?_
  intro Wq hq
  obtain ⟨q0, q1, q2, q3, q4, q5⟩ := FIN.out Wq hq
  have HQ := Hold.mk hq
  clear hq
  gi_wp2
  go_wp2
  refine bodyPost_ret (v := spV (a / 1000, -(-b / 1000))) ?_ rfl ⟨rfl, ?_⟩
  · simp [results, Try.results53, go_sem, *]
  · exact Mod.setNew (Mod.setNew (HM0.out.trans HQ.out) (by omega) _) (by omega) _
end Go.Proofs.Ytnjbamikfjdofaa

/- Off, Lasts. -/
import Derived.Test.YtdncppempgpooaaDoorRuE
import Derived.Deep.QuietTactic
import Derived.BigQuiet
set_option linter.unusedSimpArgs false
set_option linter.unusedVariables false
namespace Go.Proofs.YtdncppempgpooaaDoor
open Go.RowKit Go.Shelf

theorem enter66 : ∀ args w, (callFunc 66 args).run Tryd.prog w = .ok (.enter 66 args) w := enters_of Tryd.func66 (by kernel_rfl) rfl

/-- Is it off by more than the bound after one thousand more? -/
def pastB (a c bound n : Int) : Bool := decide (bound < a + (n + 1) * c)

set_option maxHeartbeats 1000000 in
theorem past_any (p q x y : Nat) (a c bound n : Int) (w : World) (hp : w.heap[p]? = some (.cells #[.int .i64 a] 3)) (hq : w.heap[q]? = some (.cells #[.int .i64 c] 3))
    (hx : w.heap[x]? = some (.cells #[.func (.func 64) #[] #[.pointer (some ⟨p, 0, none⟩), .pointer (some ⟨q, 0, none⟩)]] 76)) (hy : w.heap[y]? = some (.cells #[.int .i64 bound] 3))
    (ha : 0 ≤ a ∧ a ≤ 10000) (hc : 0 ≤ c ∧ c ≤ 10000) (hn : 0 ≤ n ∧ n ≤ 10000) :
    Calls Tryd.prog 66 #[.int .i64 n, .pointer (some ⟨x, 0, none⟩), .pointer (some ⟨y, 0, none⟩)] w fun e w' => e = .returned (.bool (pastB a c bound n)) ∧ Mod noB w w' := by
  have HC : Hold (∀ W', Mod noB w W' → Calls Tryd.prog 64 #[.int .i64 (n + 1), .pointer (some ⟨p, 0, none⟩), .pointer (some ⟨q, 0, none⟩)] W' fun e w'' => e = .returned (.int .i64 (a + (n + 1) * c)) ∧ W' = w'') :=
    ⟨fun W' h => clo_any p q a c (n + 1) W' (h.at hp id) (h.at hq id) ha hc (by omega)⟩
  have c1 := cellsAt hx 0
  have c2 := cellsAt hy 0
  have FIN : Hold (∀ W', Mod noB w W' → W'.cell? ⟨x, 0, none⟩ = some (.func (.func 64) #[] #[.pointer (some ⟨p, 0, none⟩), .pointer (some ⟨q, 0, none⟩)]) ∧ W'.cell? ⟨y, 0, none⟩ = some (.int .i64 bound)) := ⟨fun W' h => ⟨(cellsAt (h.at hx id) 0), (cellsAt (h.at hy id) 0)⟩⟩
  have hb : Hold (pastB a c bound n = decide (bound < a + (n + 1) * c)) := ⟨rfl⟩
  generalize pastB a c bound n = pb at *
  generalize hv : a + (n + 1) * c = v at *
  have v1 : IntKind.i64.wrap (n + 1) = n + 1 := IntWalk.i64_in _ (by omega)
  obtain ⟨n1, n2⟩ := hn
  clear hp hq hx hy ha hc hv
  go_enter Tryd.func66, Tryd.ntmps66
  go_wp2
  refine region_quietP (by kernel_rfl) (by kernel_rfl) (fun W' => Mod noB w W') ((Mod.refl _ _).drew) ?_
  repeat
    (first
      | go_big_quiet_skip
      | (go_big_quiet_want
         go_simp
         first
           | go_big_quiet_on
           | (apply Exists.intro
              refine ⟨fun W' hC => ?_, ?_⟩
              · obtain ⟨q0, q1⟩ := FIN.out W' hC
                first
                  | (go_at_call 64; refine (HC.out _ hC).mono fun e w'' he => ⟨he.1, he.2 ▸ hC⟩)
                  | with_reducible rfl
                  | (go_simp; first | rfl | exact ⟨rfl, rfl⟩)
              go_big_quiet_on)
           | (refine ⟨⟨_, fun _ _ => rfl⟩, ?_⟩; go_big_quiet_on)))
  refine wpQuiet_nil ?_
  intro Wq hq
  have HQ := Hold.mk hq
  clear hq
  go_wp2
  go_ret
  exact ⟨by rw [hb.out]; rfl, HQ.out⟩

set_option maxHeartbeats 1000000 in
theorem lasts_any (p q : Nat) (a c bound : Int) (w : World) (hp : w.heap[p]? = some (.cells #[.int .i64 a] 3)) (hq : w.heap[q]? = some (.cells #[.int .i64 c] 3))
    (ha : 0 ≤ a ∧ a ≤ 10000) (hc : 0 ≤ c ∧ c ≤ 10000) (hab : a ≤ bound) :
    Calls Tryd.prog 45 #[.func (.func 64) #[] #[.pointer (some ⟨p, 0, none⟩), .pointer (some ⟨q, 0, none⟩)], .int .i64 bound] w fun e w' => e = .returned (.int .i64 (lastR a c bound)) ∧ Mod noB w w' := by
  obtain ⟨W1, hW1⟩ : ∃ W1, (w.alloc (.cells #[.func (.func 64) #[] #[.pointer (some ⟨p, 0, none⟩), .pointer (some ⟨q, 0, none⟩)]] 76)).alloc (.cells #[.int .i64 bound] 3) = W1 := ⟨_, rfl⟩
  have hm0 : Mod noB w W1 := by rw [← hW1]; exact ((Mod.refl _ _).alloc _).alloc _
  have hx : W1.heap[w.heap.size]? = some (.cells #[.func (.func 64) #[] #[.pointer (some ⟨p, 0, none⟩), .pointer (some ⟨q, 0, none⟩)]] 76) := by rw [← hW1]; exact allocL_at [_, _] w 0 _ rfl
  have hy : W1.heap[w.heap.size + 1]? = some (.cells #[.int .i64 bound] 3) := by rw [← hW1]; exact allocL_at [_, _] w 1 _ rfl
  have HS := Hold.mk (search_any 7000 66 #[.pointer (some ⟨w.heap.size, 0, none⟩), .pointer (some ⟨w.heap.size + 1, 0, none⟩)] (pastB a c bound) W1 (by omega) enter66
    (fun k w1 h0 h7 hm => past_any p q w.heap.size (w.heap.size + 1) a c bound k w1 ((hm0.trans hm).at hp id) ((hm0.trans hm).at hq id) (hm.at hx id) (hm.at hy id) ha hc (by omega)))
  have HM := Hold.mk hm0
  have HL : Hold (∀ i, 0 ≤ i → i ≤ 7000 → (i = 0 ∨ pastB a c bound (i - 1) = false) → (i = 7000 ∨ pastB a c bound i = true) → i = lastR a c bound) := ⟨fun i h0 h7 h1 h2 => by
    refine lastR_of hc.1 h0 h7 ?_ ?_
    · rcases h1 with rfl | h1
      · omega
      · simp only [pastB, decide_eq_false_iff_not, Int.not_lt, Int.sub_add_cancel] at h1
        exact h1
    · rcases h2 with h2 | h2
      · exact .inl h2
      · simp only [pastB, decide_eq_true_eq] at h2
        exact .inr h2⟩
  clear hp hq ha hc hab hm0 hx hy
  go_enter Tryd.func45, Tryd.ntmps45
  go_wp2_with (go_at_call 65; (try rw [hW1]); refine HS.out.mono ?_; rintro e w' ⟨i, rfl, h0, h7, h1, h2, hM⟩; have hi := HL.out i h0 h7 h1 h2; have HI := Hold.mk hi; have HM2 := Hold.mk hM; clear h0 h7 h1 h2 hM hi)
  go_ret
  exact ⟨ret_i64 HI.out, HM.out.trans HM2.out⟩
end Go.Proofs.YtdncppempgpooaaDoor

/- The document's Around: which edges of a point are in the lines. -/
import Derived.Test.YtogalmkeipigeaaRefS
import Derived.BigQuiet
set_option linter.unusedSimpArgs false
set_option linter.unusedVariables false
namespace Go.Proofs.Ytogalmkeipigeaa
open Go.RowKit

theorem results_four {fn : Func} {a b c d : Tmp} (h : fn.results = #[.tmp a, .tmp b, .tmp c, .tmp d]) (tmps : Array Value) (P : Program) (w : World) :
    (results fn tmps).run P w = .ok (.tuple #[tmps.getD a undef, tmps.getD b undef, tmps.getD c undef, tmps.getD d undef]) w := by simp [results, h]

set_option maxRecDepth 100000 in
set_option maxHeartbeats 4000000 in
theorem refAround_any {W H : Nat} {zs : List Int} (C : CutN W H zs) (ao : Option Addr) (cap : Nat) (x y : Int) (hx1 : -100 ≤ x) (hx2 : x ≤ 100) (hy1 : -100 ≤ y) (hy2 : y ≤ 100) (w : World) (hs : IntsAt w ao zs) :
    Calls Try.prog 55 #[cutV W H ao zs.length cap, .int .i64 x, .int .i64 y] w fun e w' =>
      e = .returned (.tuple #[.bool (atG (laidG W zs zs.length) (x - 1, y - 1) != atG (laidG W zs zs.length) (x, y - 1)), .bool (atG (laidG W zs zs.length) (x - 1, y) != atG (laidG W zs zs.length) (x, y)),
        .bool (atG (laidG W zs zs.length) (x - 1, y - 1) != atG (laidG W zs zs.length) (x - 1, y)), .bool (atG (laidG W zs zs.length) (x, y - 1) != atG (laidG W zs zs.length) (x, y))]) ∧ Mod noB w w' := by
  have HK := Hold.mk (box_facts (W := W) (H := H) (cap := cap) hs)
  have HM0 := Hold.mk ((Mod.refl noB w).alloc (.cells #[.int .i64 W, .int .i64 H, .slice ao zs.length cap] 24))
  obtain ⟨g, hg⟩ : ∃ g, laidG W zs zs.length = g := ⟨_, rfl⟩
  have HA : Hold (∀ (x y : Int) (w1 : World), -1000 ≤ x ∧ x ≤ 1000 → -1000 ≤ y ∧ y ≤ 1000 → IntsAt w1 ao zs → Calls Try.prog 34 #[.agg #[.int .i64 W, .int .i64 H, .slice ao zs.length cap], .int .i64 x, .int .i64 y] w1 fun e w' => e = .returned (.int .i64 (atG g (x, y))) ∧ Mod noB w1 w') :=
    ⟨fun x y w1 hx hy h => by rw [← hg]; exact refAt_any C ao cap x y hx hy w1 h⟩
  rw [hg]
  have v1 : IntKind.i64.wrap (x - 1) = x - 1 := IntWalk.i64_in _ (by omega)
  have v2 : IntKind.i64.wrap (y - 1) = y - 1 := IntWalk.i64_in _ (by omega)
  clear hs C hg
  refine callsIn_wide (n := 3) |>.1 ?_
  refine callsIn_of_wp Try.func55 rfl trivial ?_ rfl
  simp only [Try.ntmps55, List.size_toArray, List.length_cons, List.length_nil, Nat.reduceAdd, Nat.reduceSub, Array.replicate_succ, Array.replicate_zero, List.push_toArray, List.append_toArray, List.nil_append, List.cons_append]
  gi_wp2
  obtain ⟨W1, hW1⟩ : ∃ W1, w.alloc (.cells #[.int .i64 W, .int .i64 H, .slice ao zs.length cap] 24) = W1 := ⟨_, rfl⟩
  rw [hW1] at HK HM0 ⊢
  clear hW1
  refine region_quietC (fun _ => trivial) rfl wide_call mixed (by kernel_rfl) (by kernel_rfl) (fun W' => Mod noB W1 W') ((Mod.refl _ _).drew) ?_
  repeat
    (first
      | go_big_quiet_skip
      | (go_big_quiet_want
         go_simp
         first
           | go_big_quiet_on
           | (refine ⟨⟨_, fun _ _ => rfl⟩, ?_⟩; go_big_quiet_on)
           | (apply Exists.intro
              refine ⟨fun W' hC => ?_, ?_⟩
              · obtain ⟨f0, f1, f2, f3⟩ := HK.out W' hC
                first
                  | (go_at_call 34; refine (HA.out _ _ _ ⟨by omega, by omega⟩ ⟨by omega, by omega⟩ f3).mono fun e w'' he => ⟨he.1, hC.trans he.2⟩)
                  | with_reducible rfl
                  | (clear f3; go_simp; first | rfl | exact ⟨rfl, rfl⟩)
              go_big_quiet_on)))
  refine wpQuiet_nil ?_
  intro Wq hq
  gi_wp2
  exact bodyPost_ret (results_four rfl _ _ _) rfl ⟨rfl, HM0.out.trans hq⟩
end Go.Proofs.Ytogalmkeipigeaa

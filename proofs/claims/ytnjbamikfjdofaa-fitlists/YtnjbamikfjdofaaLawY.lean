/- FitLists: the walk, whatever the input. -/
import Derived.Test.YtnjbamikfjdofaaLawX
set_option linter.unusedSimpArgs false
set_option linter.unusedVariables false
namespace Go.Proofs.Ytnjbamikfjdofaa
open Go.RowKit Go.Shelf

theorem fit_zot (p : Ply) (a b : Edg) : fitR p a b = 0 ∨ fitR p a b = 1 ∨ fitR p a b = 2 := by
  unfold fitR least3
  split
  · split
    · exact .inl rfl
    · split
      · exact .inr (.inr rfl)
      · exact .inr (.inl rfl)
  · exact .inl rfl

theorem found_at {p : Ply} {s : Edg} {es : List Edg} {k : Nat} {x : Edg} (h : es[k]? = some x) : (foundL p s es)[k]?.getD 0 = fitR p s x := by
  unfold foundL
  rw [List.getElem?_map, h]; rfl
theorem indices_small (f : Int → Bool) (L : List Int) (h : L.length ≤ 1000) : (indicesR f L).length ≤ 1000000 := by
  have := indicesTo_len f L L.length
  unfold indicesR
  omega

set_option maxHeartbeats 2000000 in
theorem fitLists_any (p : Ply) (s : Edg) (ao : Option Addr) (es : List Edg) (cap t : Nat) (w : World) (hn : es.length ≤ 50) (ht : t ≤ 255) (hes : EdgesAt w ao es) :
    Calls Try.prog 13 #[plV p, edV s, .slice ao es.length cap, .int .u8 t] w fun e w' => e = .returned (.bool true) ∧ Mod noB w w' := by
  cases hv : (playB p && (sideB s && sidesB es)) with
  | false =>
    have hm : matchesE p s es = ([], [], 1) := by unfold matchesE; rw [hv]; rfl
    exact lists_err p s ao es cap t w 1 hn (.inl rfl) hes ⟨fun w hes => callMatches p s es ao es.length cap [] [] 1 rfl hm (by simp) (by simp) w hes⟩
  | true =>
    rcases Nat.lt_or_ge 40 es.length with h40 | h40
    · have hm : matchesE p s es = ([], [], 3) := by
        unfold matchesE
        rw [hv, if_pos rfl, if_neg (by omega)]
      exact lists_err p s ao es cap t w 3 hn (.inr rfl) hes ⟨fun w hes => callMatches p s es ao es.length cap [] [] 3 rfl hm (by simp) (by simp) w hes⟩
    · have hm : ∀ es' : List Edg, es'.length ≤ 40 → sidesB es' = sidesB es → matchesE p s es' = (indicesR surely (foundL p s es'), indicesR maybe (foundL p s es'), 0) := fun es' h1 h2 => by
        unfold matchesE
        rw [h2, hv, if_pos rfl, if_pos h1]
      simp only [Bool.and_eq_true] at hv
      obtain ⟨hp, hs, hall⟩ := hv
      have hT := hm (turnedTo es t es.length) (by rw [turnedTo_len]; exact h40) (turned_sides es t)
      have hlen : ∀ es' : List Edg, es'.length ≤ 40 → ∀ f, (indicesR f (foundL p s es')).length ≤ 1000000 := fun es' h f => indices_small f _ (by rw [foundL_len]; omega)
      refine lists_ok p s ao es cap t w _ _ _ _ (fun k => (indicesTo surely (foundL p s es) k).length) (fun k => (indicesTo maybe (foundL p s es) k).length) (fun k => (foundL p s es)[k]?.getD 0) h40 ht hes
        (turned_found surely p s es t) (turned_found maybe p s es t) ⟨?_⟩ ⟨?_⟩ ⟨?_⟩
        ⟨fun w hes => callMatches p s es ao es.length cap _ _ 0 rfl (hm es h40 rfl) (hlen es h40 _) (hlen es h40 _) w hes⟩
        ⟨fun bo cap2 w hb => callMatches p s _ bo es.length cap2 _ _ 0 (turnedTo_len es t es.length).symm hT (hlen _ (by rw [turnedTo_len]; exact h40) _) (hlen _ (by rw [turnedTo_len]; exact h40) _) w hb⟩
      · have := count_of surely (foundL p s es); rw [foundL_len] at this; exact this
      · have := count_of maybe (foundL p s es); rw [foundL_len] at this; exact this
      · intro k x hx
        have hz : (foundL p s es)[k]?.getD 0 = fitR p s x := found_at hx
        simp only [hz]
        have hsx : sideB x = true := by
          have h1 := List.all_eq_true.1 hall x (List.mem_of_getElem? hx)
          exact h1
        refine ⟨fit_zot p s x, fun w => (fit_any p s x w).mono fun e w' hh => ?_⟩
        have hf : fitE p s x = (fitR p s x, 0) := by unfold fitE; rw [hp, hs, hsx]; rfl
        rw [hf] at hh
        exact hh
end Go.Proofs.Ytnjbamikfjdofaa

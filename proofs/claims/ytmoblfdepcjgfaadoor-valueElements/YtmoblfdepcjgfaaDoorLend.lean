/- Copies of texts, and what is lent: contracts of CopyTexts and LendTexts. -/
import Derived.Test.YtmoblfdepcjgfaaDoorRow
import Derived.LoopTactic
import Derived.LoopN
namespace Go.Proofs.YtmoblfdepcjgfaaDoor.Lend
open Go.RowKit Go.Proofs.YtmoblfdepcjgfaaDoor.Base
set_option linter.unusedVariables false

theorem copyT_c (v : Value) (L : List ByteArray) (w : World) (h : Tx false All w v L) :
    Calls Tryd.prog 44 #[v] w fun e w' => ∃ u, e = .returned u ∧ u ≠ .slice none 0 0 ∧ OwnT w' w.heap.size u L ∧ Below w.heap.size w w' := by
  obtain ⟨i0, hi, hz0, hz1, hz2⟩ := info_parts info9
  obtain ⟨a, cap, rfl, hlc, hm, hlen, hsz, hnil, hN⟩ := h.out
  have ho : OwnT (w.alloc (.cells #[] 9)) w.heap.size (.slice (some ⟨w.heap.size, 0, none⟩) 0 0) [] := by
    refine ⟨rfl, .inr ⟨w.heap.size, 0, #[], rfl, Nat.le_refl _, heap_alloc_new w _, Nat.le_refl _, by simp [maxLen], rfl, rfl⟩⟩
  have hb : Below w.heap.size w (w.alloc (.cells #[] 9)) := (Below.refl _ w).alloc (Nat.le_refl _) _
  cases a with
  | none =>
    obtain rfl := hnil rfl
    obtain rfl : L = [] := List.eq_nil_of_length_eq_zero (by omega)
    go_enter Tryd.func44, Tryd.ntmps44
    go_wp2_with fail
    go_ret
    exact ⟨_, rfl, (fun h => by cases h), ho, hb⟩
  | some x =>
    obtain ⟨g, o, sp⟩ := x
    have hnews : ∀ j u, (L.map Value.string)[j]? = some u → (w.alloc (.cells #[] 9)).cell? ((⟨g, o, sp⟩ : Addr).add j) = some u := by
      intro j u hj
      have hl : j < L.length := by
        have := (List.getElem?_eq_some_iff.1 hj).1
        simpa using this
      obtain ⟨g', o', e, -, hc⟩ := name_at hN hl
      cases e
      rw [add_none]
      have hj' : u = .string L[j] := by simpa [hl] using hj.symm
      rw [hj']
      exact below_cell hc hb
    clear hN h
    go_enter Tryd.func44, Tryd.ntmps44
    go_wp2_with (first
      | (at_builtin; refine wpList_append_own _ rfl _ _ 22 rfl w.heap.size 9 i0 (.string ⟨#[]⟩) 1 16 Tryd.underlying22 hi hz0 hz1 hz2 rfl (by decide) _ _ _ rfl ho ⟨g, o, sp⟩ L.length cap (L.map Value.string) rfl (by simp) hnews (one_texts L) (by unfold maxLen; simp; omega) (by simp; omega) (by simp) ?_))
    intro v' w2 hown' hgrow hnn
    have hb3 := hb.grown hgrow (by simp) (fun k hk => by cases hk; exact Nat.le_refl _)
    have ho2 : OwnT w2 w.heap.size v' L := by
      unfold OwnT
      simpa using hown'
    have hn2 : v' ≠ .slice none 0 0 := hnn
    clear hown' hgrow ho hb hnews hnn
    go_wp2_with fail
    go_ret
    exact ⟨_, rfl, hn2, ho2, hb3⟩
theorem lendT_c (v : Value) (L : List ByteArray) (w : World) (h : Tx false All w v L) :
    Calls Tryd.prog 34 #[v] w fun e w' => ∃ u, e = .returned u ∧ Tx true (Rg w.heap.size w'.heap.size) w' u L ∧ Below w.heap.size w w' := by
  obtain ⟨i0, hi, hz0, hz1, hz2⟩ := info_parts info9
  have c44 := copyT_c v L w h
  obtain ⟨a, cap, rfl, hlc, hm, hlen, hsz, hnil, hN⟩ := h.out
  clear hN h
  go_enter Tryd.func34, Tryd.ntmps34
  go_wp2_with (first
    | (go_at_call 44; refine c44.mono ?_; rintro e w1 ⟨u, rfl, hne, ho, hb⟩)
    | (at_builtin; refine wpList_append_own _ rfl _ _ 22 rfl w.heap.size 9 i0 (.string ⟨#[]⟩) 1 16 Tryd.underlying22 hi hz0 hz1 hz2 rfl (by decide) _ _ _ rfl (World.ownsRow.alloc ho _) ⟨w1.heap.size, 0, none⟩ 2 2 ([room, behind].map Value.string) rfl rfl (new_cells w1 _ 9) (one_texts _) (by unfold maxLen; omega) (by omega) (by have := hb.size; simp; omega) ?_))
  intro v' w2 hown' hgrow hnn
  have hb3 := (hb.alloc hb.size (.cells #[.string room, .string behind] 9)).grown hgrow (by have := hb.size; simp; omega) (fun k hk => (World.ownsRow.lt ho k hk).1)
  have ho2 : OwnT w2 w.heap.size v' (L ++ [room, behind]) := by
    unfold OwnT
    rw [List.map_append, List.length_append]
    exact hown'
  rcases hown'.2 with ⟨h0, _⟩ | ⟨g, cap2, cur, rfl, _, _, hn2, hm2, _⟩
  · exact absurd h0 hnn
  clear hown' hgrow ho hb c44 hnn
  have hm3 : cap2 ≤ 9223372036854775807 := hm2
  clear hm2
  go_wp2_with fail
  go_ret
  refine ⟨_, rfl, ⟨_, cap2, rfl, by omega, hm3, hlen, hsz, (fun h => by cases h), .inr ⟨g, 0, rfl, ⟨(ownT_lt ho2).1, (ownT_lt ho2).2⟩, ?_, fun _ => ⟨hn2, ?_, ?_⟩⟩⟩, hb3⟩
  · intro j hj
    have := ownT_cell ho2 j (by simp; omega)
    rwa [List.getElem_append_left hj] at this
  · have := ownT_cell ho2 L.length (by simp)
    simpa using this
  · have := ownT_cell ho2 (L.length + 1) (by simp)
    simpa [Nat.add_assoc] using this
end Go.Proofs.YtmoblfdepcjgfaaDoor.Lend

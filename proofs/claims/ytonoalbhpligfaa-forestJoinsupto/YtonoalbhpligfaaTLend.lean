/- Copies of attributes, and what is lent: contracts of CopyAttrs and LendAttrs. -/
import Derived.Test.YtonoalbhpligfaaTRow
namespace Go.Proofs.Ytonoalbhpligfaa.TLend
open Go.RowKit Go.Proofs.Ytonoalbhpligfaa.TBase
set_option linter.unusedVariables false

theorem copyA_c (v : Value) (L : List (ByteArray × ByteArray)) (w : World) (h : Ax false All w v L) :
    Calls Try.prog 51 #[v] w fun e w' => ∃ u, e = .returned u ∧ u ≠ .slice none 0 0 ∧ OwnA w' w.heap.size u L ∧ Below w.heap.size w w' := by
  obtain ⟨i0, hi, hz0, hz1, hz2⟩ := info_parts infoA
  obtain ⟨a, cap, rfl, hlc, hm, hlen, hsz, hnil, hN⟩ := h
  have ho : OwnA (w.alloc (.cells #[] 39)) w.heap.size (.slice (some ⟨w.heap.size, 0, none⟩) 0 0) [] := by
    refine ⟨rfl, .inr ⟨w.heap.size, 0, #[], rfl, Nat.le_refl _, heap_alloc_new w _, Nat.le_refl _, by simp [maxLen], rfl, rfl⟩⟩
  have hb : Below w.heap.size w (w.alloc (.cells #[] 39)) := (Below.refl _ w).alloc (Nat.le_refl _) _
  cases a with
  | none =>
    obtain rfl := hnil rfl
    obtain rfl : L = [] := List.eq_nil_of_length_eq_zero (by omega)
    go_enter Try.func51, Try.ntmps51
    go_wp2_with fail
    go_ret
    exact ⟨_, rfl, (fun h => by cases h), ho, hb⟩
  | some x =>
    obtain ⟨g, o, sp⟩ := x
    have hnews : ∀ j u, (flatA L)[j]? = some u → (w.alloc (.cells #[] 39)).cell? ((⟨g, o, sp⟩ : Addr).add j) = some u := by
      intro j u hj
      have hl : j < L.length * 2 := by
        have := (List.getElem?_eq_some_iff.1 hj).1
        rwa [flatA_len] at this
      have hq : j / 2 < L.length := by omega
      obtain ⟨g', o', e, -, hc, hc2⟩ := attr_at hN hq
      cases e
      rw [add_none]
      have hget := flatA_get L (j / 2) hq
      rcases Nat.mod_two_eq_zero_or_one j with hj2 | hj2
      · have e : j / 2 * 2 = j := by omega
        rw [e] at hget hc
        rw [hget.1] at hj
        cases hj
        exact below_cell hc hb
      · have e : j / 2 * 2 + 1 = j := by omega
        rw [e] at hget
        rw [show o + j / 2 * 2 + 1 = o + j by omega] at hc2
        rw [hget.2] at hj
        cases hj
        exact below_cell hc2 hb
    have hfl := flatA_len L
    clear hN
    go_enter Try.func51, Try.ntmps51
    go_wp2_with (first
      | (at_builtin; refine wpList_append_own _ rfl _ _ 35 rfl w.heap.size 39 i0 (.agg #[.string ⟨#[]⟩, .string ⟨#[]⟩]) 2 32 Try.underlying35 hi hz0 hz1 hz2 rfl (by decide) _ _ _ rfl ho ⟨g, o, sp⟩ L.length cap (flatA L) rfl (by rw [hfl]) hnews (one_attrs L) (by unfold maxLen; simp; omega) (by simp; omega) (by simp) ?_))
    intro v' w2 hown' hgrow hnn
    have hb3 := hb.grown hgrow (by simp) (fun k hk => by cases hk; exact Nat.le_refl _)
    have ho2 : OwnA w2 w.heap.size v' L := by
      unfold OwnA
      simpa [flatA] using hown'
    have hn2 : v' ≠ .slice none 0 0 := hnn
    clear hown' hgrow ho hb hnews hnn
    go_wp2_with fail
    go_ret
    exact ⟨_, rfl, hn2, ho2, hb3⟩
theorem lendA_c (v : Value) (L : List (ByteArray × ByteArray)) (w : World) (h : Ax false All w v L) :
    Calls Try.prog 39 #[v] w fun e w' => ∃ u, e = .returned u ∧ Ax true (Rg w.heap.size w'.heap.size) w' u L ∧ Below w.heap.size w w' := by
  obtain ⟨i0, hi, hz0, hz1, hz2⟩ := info_parts infoA
  have c44 := copyA_c v L w h
  obtain ⟨a, cap, rfl, hlc, hm, hlen, hsz, hnil, hN⟩ := h
  clear hN
  go_enter Try.func39, Try.ntmps39
  go_wp2_with (first
    | (go_at_call 51; refine c44.mono ?_; rintro e w1 ⟨u, rfl, hne, ho, hb⟩)
    | (at_builtin; refine wpList_append_own _ rfl _ _ 35 rfl w.heap.size 39 i0 (.agg #[.string ⟨#[]⟩, .string ⟨#[]⟩]) 2 32 Try.underlying35 hi hz0 hz1 hz2 rfl (by decide) _ _ _ rfl (World.ownsRow.alloc ho _) ⟨w1.heap.size, 0, none⟩ 2 2 (flatA [room2, room2]) rfl rfl (new_cells w1 _ 39) (one_attrs _) (by unfold maxLen; omega) (by omega) (by have := hb.size; simp; omega) ?_))
  intro v' w2 hown' hgrow hnn
  have hb3 := (hb.alloc hb.size (.cells (flatA [room2, room2]).toArray 39)).grown hgrow (by have := hb.size; simp; omega) (fun k hk => (World.ownsRow.lt ho k hk).1)
  have ho2 : OwnA w2 w.heap.size v' (L ++ [room2, room2]) := by
    unfold OwnA
    rw [flatA_append, List.length_append]
    exact hown'
  rcases hown'.2 with ⟨h0, _⟩ | ⟨g, cap2, cur, rfl, _, _, hn2, hm2, _⟩
  · exact absurd h0 hnn
  clear hown' hgrow ho hb c44 hnn
  have hm3 : cap2 ≤ 9223372036854775807 := hm2
  clear hm2
  go_wp2_with fail
  go_ret
  refine ⟨_, rfl, ⟨_, cap2, rfl, by omega, hm3, hlen, hsz, (fun h => by cases h), .inr ⟨g, 0, rfl, ⟨(ownA_lt ho2).1, (ownA_lt ho2).2⟩, ?_, fun _ => ⟨hn2, ?_, ?_⟩⟩⟩, hb3⟩
  · intro j hj
    have := ownA_cell ho2 j (by simp; omega)
    rwa [List.getElem_append_left hj] at this
  · have := ownA_cell ho2 L.length (by simp)
    simpa using this
  · have := ownA_cell ho2 (L.length + 1) (by simp)
    rw [show 0 + (L.length + 1) * 2 = 0 + L.length * 2 + 2 by omega] at this
    simpa using this
theorem copyAx_c (v : Value) (L : List (ByteArray × ByteArray)) (w : World) (h : Ax false All w v L) :
    Calls Try.prog 51 #[v] w fun e w' => ∃ u, e = .returned u ∧ Ax false (Rg w.heap.size w'.heap.size) w' u L ∧ Below w.heap.size w w' := by
  refine (copyA_c v L w h).mono ?_
  rintro e w' ⟨u, rfl, hne, ho, hb⟩
  obtain ⟨a, cap, rfl, hlc, hm, hlen, hsz, hnil, hN⟩ := h
  rcases ho.2 with ⟨h0, _⟩ | ⟨g, cap2, cur, rfl, _, _, hn2, hm2, _⟩
  · exact absurd h0 hne
  · exact ⟨_, rfl, ⟨_, cap2, rfl, hn2, hm2, hlen, hsz, (fun h => by cases h), .inr ⟨g, 0, rfl, ⟨(ownA_lt ho).1, (ownA_lt ho).2⟩, ownA_cell ho, fun h => by cases h⟩⟩, hb⟩
end Go.Proofs.Ytonoalbhpligfaa.TLend

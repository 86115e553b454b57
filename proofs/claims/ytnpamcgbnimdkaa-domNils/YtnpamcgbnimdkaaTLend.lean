/- Copies of attributes, and what is lent: contracts of CopyAttrs and LendAttrs. -/
import Derived.Test.YtnpamcgbnimdkaaTRow
namespace Go.Proofs.Ytnpamcgbnimdkaa.TLend
open Go.RowKit Go.Proofs.Ytnpamcgbnimdkaa.TBase
set_option linter.unusedVariables false

theorem copyA_c (v : Value) (L : List (ByteArray × ByteArray)) (w : World) (h : Ax false All w v L) :
    Calls Try.prog 47 #[v] w fun e w' => ∃ u, e = .returned u ∧ u ≠ .slice none 0 0 ∧ OwnA w' w.heap.size u L ∧ Below w.heap.size w w' := by
  obtain ⟨i0, hi, hz0, hz1, hz2⟩ := info_parts infoA
  obtain ⟨a, cap, rfl, hlc, hm, hlen, hsz, hnil, hN⟩ := h
  have ho : OwnA (w.alloc (.cells #[] 95)) w.heap.size (.slice (some ⟨w.heap.size, 0, none⟩) 0 0) [] := by
    refine ⟨rfl, .inr ⟨w.heap.size, 0, #[], rfl, Nat.le_refl _, heap_alloc_new w _, Nat.le_refl _, by simp [maxLen], rfl, rfl⟩⟩
  have hb : Below w.heap.size w (w.alloc (.cells #[] 95)) := (Below.refl _ w).alloc (Nat.le_refl _) _
  cases a with
  | none =>
    obtain rfl := hnil rfl
    obtain rfl : L = [] := List.eq_nil_of_length_eq_zero (by omega)
    go_enter Try.func47, Try.ntmps47
    go_wp2_with fail
    go_ret
    exact ⟨_, rfl, (fun h => by cases h), ho, hb⟩
  | some x =>
    obtain ⟨g, o, sp⟩ := x
    have hnews : ∀ j u, (flatA L)[j]? = some u → (w.alloc (.cells #[] 95)).cell? ((⟨g, o, sp⟩ : Addr).add j) = some u := by
      intro j u hj
      have hl : j < L.length * 2 := by
        have := (List.getElem?_eq_some_iff.1 hj).1
        rwa [flatA_len] at this
      have hq : j / 2 < L.length := by omega
      obtain ⟨g', o', e, -, hc, hc2⟩ := attr_at hN hq
      cases e
      rw [add_none]
      have hget := flatA_get L (j / 2) hq
      rcases Nat.mod_two_eq_zero_or_one j with hj2 | hj2
      · have e : j / 2 * 2 = j := by omega
        rw [e] at hget hc
        rw [hget.1] at hj
        cases hj
        exact below_cell hc hb
      · have e : j / 2 * 2 + 1 = j := by omega
        rw [e] at hget
        rw [show o + j / 2 * 2 + 1 = o + j by omega] at hc2
        rw [hget.2] at hj
        cases hj
        exact below_cell hc2 hb
    have hfl := flatA_len L
    clear hN
    go_enter Try.func47, Try.ntmps47
    go_wp2_with (first
      | (at_builtin; refine wpList_append_own _ rfl _ _ 25 rfl w.heap.size 95 i0 (.agg #[.string ⟨#[]⟩, .string ⟨#[]⟩]) 2 32 Try.underlying25 hi hz0 hz1 hz2 rfl (by decide) _ _ _ rfl ho ⟨g, o, sp⟩ L.length cap (flatA L) rfl (by rw [hfl]) hnews (one_attrs L) (by unfold maxLen; simp; omega) (by simp; omega) (by simp) ?_))
    intro v' w2 hown' hgrow hnn
    have hb3 := hb.grown hgrow (by simp) (fun k hk => by cases hk; exact Nat.le_refl _)
    have ho2 : OwnA w2 w.heap.size v' L := by
      unfold OwnA
      simpa [flatA] using hown'
    have hn2 : v' ≠ .slice none 0 0 := hnn
    clear hown' hgrow ho hb hnews hnn
    go_wp2_with fail
    go_ret
    exact ⟨_, rfl, hn2, ho2, hb3⟩
theorem copyAx_c (v : Value) (L : List (ByteArray × ByteArray)) (w : World) (h : Ax false All w v L) :
    Calls Try.prog 47 #[v] w fun e w' => ∃ u, e = .returned u ∧ Ax false (Rg w.heap.size w'.heap.size) w' u L ∧ Below w.heap.size w w' := by
  refine (copyA_c v L w h).mono ?_
  rintro e w' ⟨u, rfl, hne, ho, hb⟩
  obtain ⟨a, cap, rfl, hlc, hm, hlen, hsz, hnil, hN⟩ := h
  rcases ho.2 with ⟨h0, _⟩ | ⟨g, cap2, cur, rfl, _, _, hn2, hm2, _⟩
  · exact absurd h0 hne
  · exact ⟨_, rfl, ⟨_, cap2, rfl, hn2, hm2, hlen, hsz, (fun h => by cases h), .inr ⟨g, 0, rfl, ⟨(ownA_lt ho).1, (ownA_lt ho).2⟩, ownA_cell ho, fun h => by cases h⟩⟩, hb⟩
end Go.Proofs.Ytnpamcgbnimdkaa.TLend

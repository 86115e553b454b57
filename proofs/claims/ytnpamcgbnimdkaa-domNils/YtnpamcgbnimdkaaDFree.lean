/- The free list handed out: contract of Free; rows of numbers compared: SameInts. -/
import Derived.Test.YtnpamcgbnimdkaaDNil
import Derived.Test.YtnpamcgbnimdkaaShelf
import Derived.Sort.OwnSortedInts
namespace Go.Proofs.Ytnpamcgbnimdkaa.DFree
open Go.RowKit Go.Proofs.Ytnpamcgbnimdkaa.TBase Go.Proofs.Ytnpamcgbnimdkaa.DBase Go.Proofs.Ytnpamcgbnimdkaa.DNeed Go.Proofs.Ytnpamcgbnimdkaa.DKids Go.Proofs.Ytnpamcgbnimdkaa.DArena
set_option linter.unusedVariables false

theorem hl_rev (L : List Nat) : hl L.reverse = (hl L).reverse := by simp [hl]
set_option maxRecDepth 20000 in
theorem Free_c {w : World} {B p gc n : Nat} {q : Nat → Int} {s : St} {fv : Value} {V : Nat → Value} (har : Ar w B p gc n q s fv V) (hlen : s.L.length ≤ 8192) :
    Calls Try.prog 13 #[.pointer (some ⟨p, 0, none⟩)] w fun e w' => ∃ v, e = .returned v ∧ Hs w' v (hl s.L) ∧ Below w.heap.size w w' := by
  have k1 := har.bx.at1
  have hN : (hl s.L.reverse).length = s.L.length := by simp [hl]
  have hfr := har.fr
  have hs0 := har.fr.hs
  clear har
  obtain ⟨zs, hz⟩ : ∃ zs, hl s.L.reverse = zs := ⟨_, rfl⟩
  have hzr : hl s.L = zs.reverse := by rw [← hz, hl_rev, List.reverse_reverse]
  rw [hz] at hfr hN hs0
  rw [hzr]
  rw [← hN] at hlen
  clear hN hz hzr
  rcases hfr.2 with ⟨rfl, h0⟩ | ⟨g, cap, cur, rfl, -, -, -, -, -, -⟩
  · have : zs = [] := List.eq_nil_of_length_eq_zero h0
    subst this
    have c42 := Try.slices_Clone_int_nil 0 0 w
    have c43 := Try.slices_Reverse_int_empty none 0 w
    clear hfr hs0 h0 hlen
    go_enter Try.func13, Try.ntmps13
    go_wp2_with (first | (refine c42.mono ?_; rintro e w1 ⟨rfl, rfl⟩) | (refine c43.mono ?_; rintro e w1 ⟨rfl, rfl⟩))
    go_ret
    exact ⟨_, rfl, ⟨none, 0, rfl, by simp, by simp, .inl rfl⟩, Below.refl _ _⟩
  · obtain ⟨a, cp, e, hl1, hl2, hc⟩ := hs0
    cases e
    have hcl : ∀ j, j < zs.length → w.cell? ⟨g, 0 + j, none⟩ = some (.int .i64 (zs.getD j 0)) := by
      intro j hj
      rcases hc with h | ⟨g', o', e, h⟩
      · subst h; simp at hj
      · cases e
        rw [h j hj, List.getD_eq_getElem?_getD, List.getElem?_eq_getElem hj]
        rfl
    have c42 := Try.slices_Clone_int g 0 zs.length cap zs w (Nat.le_refl _) (by omega) hcl
    have H2 : Hid (∀ w1 v', w1.ownsRow w.heap.size 3 1 v' zs.length ((zs.take zs.length).map (Value.int .i64)) → v' ≠ .slice none 0 0 → Below w.heap.size w w1 → ∃ g2 cap2, v' = .slice (some ⟨g2, 0, none⟩) zs.length cap2 ∧ Calls Try.prog 43 #[.slice (some ⟨g2, 0, none⟩) zs.length cap2] w1 fun e w' => e = .returned (.tuple #[]) ∧ Hs w' (.slice (some ⟨g2, 0, none⟩) zs.length cap2) zs.reverse ∧ Below w.heap.size w w') := by
      intro w1 v' ho hne hb
      rw [List.take_length] at ho
      have ho' : Oi w1 w.heap.size v' zs := ho
      rcases ho.2 with ⟨rfl, -⟩ | ⟨g2, cap2, cur2, rfl, q1, q2, q3, q4, -, -⟩
      · exact (hne rfl).elim
      refine ⟨g2, cap2, rfl, ?_⟩
      have hH : Sort.Holds (Value.int .i64) w1 g2 0 zs.toArray := by
        intro j hj
        have hj' : j < zs.length := by simpa using hj
        obtain ⟨a, cp, e, -, -, hc⟩ := ho'.hs
        cases e
        rcases hc with h | ⟨g', o', e, h⟩
        · subst h; simp at hj'
        · cases e
          refine ⟨?_, frozen_of_row w1 g2 _ cur2 _ q2⟩
          rw [h j hj']
          simp [hj']
      refine (Try.slices_Reverse_int g2 0 cap2 zs w1 hH (by omega)).mono ?_
      rintro e w' ⟨rfl, k, rfl⟩
      have hg := Go.grownBy_sortedI (w := w1) (g := g2) (n := k) (os := #[]) zs.reverse.toArray
      rw [Sort.grow_empty] at hg
      refine ⟨rfl, ⟨_, cap2, by rw [List.length_reverse], by rw [List.length_reverse]; exact q3, q4, .inr ⟨g2, 0, rfl, fun j hj => ?_⟩⟩, hb.grown hg hb.size (fun b hb' => by cases hb'; exact q1)⟩
      have hj' : j < zs.reverse.toArray.size := by simpa using hj
      have := Sort.cell?_putRow (Value.int .i64) (Sort.ahead w1 k) g2 0 zs.toArray zs.reverse.toArray hH (by simp) j hj'
      rw [this]
      congr 2
      rw [getElem!_pos _ j hj']
      rfl
    clear hfr hcl hc hl1 hl2
    generalize zs.length = N at *
    go_enter Try.func13, Try.ntmps13
    go_wp2_with (first | (go_at_call 42; refine c42.mono ?_; rintro e w1 ⟨v', rfl, ho, hne, hb⟩; obtain ⟨g2, cap2, rfl, c43⟩ := H2.out w1 v' ho hne hb; clear c42 ho hne) | (go_at_call 43; refine c43.mono ?_; rintro e w2 ⟨rfl, hs2, hb2⟩))
    go_ret
    exact ⟨_, rfl, hs2, hb2⟩
end Go.Proofs.Ytnpamcgbnimdkaa.DFree

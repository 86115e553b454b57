/- Rows of keys copied: contract of CopyKeys. -/
import Derived.Test.YtkjgbmoimobgaaaIAw
namespace Go.Proofs.Ytkjgbmoimobgaaa.IKeys
open Go.RowKit Go.Proofs.Ytkjgbmoimobgaaa.IPure Go.Proofs.Ytkjgbmoimobgaaa.IBase Go.Proofs.Ytkjgbmoimobgaaa.IKey Go.Proofs.Ytkjgbmoimobgaaa.IKrow Go.Proofs.Ytkjgbmoimobgaaa.IAw
set_option linter.unusedVariables false

theorem infoK : (Try.prog.info? 44).map (fun i => (i.zero, i.size, i.bytes)) = some (some (.agg #[.int .i64 0, .int .i64 0, .string ⟨#[]⟩]), 3, 32) := by kernel_rfl
/-- A row of keys of one's own. -/
def Ok3 (w : World) (B : Nat) (v : Value) (L : List Ky) : Prop := w.ownsRow B 44 3 v L.length (flatK L)
theorem Ok3.kx {w : World} {B : Nat} {v : Value} {L : List Ky} (h : Ok3 w B v L) : Kx w v L := by
  have h0 := h
  rcases h.2 with ⟨rfl, e⟩ | ⟨g, cap, cur, rfl, h1, h2, h3, h4, -⟩
  · have := List.eq_nil_of_length_eq_zero e
    subst this
    exact ⟨none, 0, rfl, by simp, by simp, fun _ => rfl, .inl rfl⟩
  · refine ⟨_, cap, rfl, h3, h4, (fun h => by cases h), .inr ⟨g, 0, rfl, fun j hj => ?_⟩⟩
    obtain ⟨k1, k2, k3⟩ := flatK_get L j hj
    have c1 := World.ownsRow.cells (g := g) h0 rfl _ _ k1
    have c2 := World.ownsRow.cells (g := g) h0 rfl _ _ k2
    have c3 := World.ownsRow.cells (g := g) h0 rfl _ _ k3
    rw [add_none] at c1 c2 c3
    exact ⟨c1, c2, c3⟩
theorem copyK_c {w : World} {v : Value} {L : List Ky} (hv : Kx w v L) (hn : L.length ≤ 4398046511104) :
    Calls Try.prog 21 #[v] w fun e w' => ∃ u, e = .returned u ∧ Ok3 w' w.heap.size u L ∧ Below w.heap.size w w' := by
  obtain ⟨i0, hi, hz0, hz1, hz2⟩ := info_parts infoK
  obtain ⟨a, cap, rfl, hl, hm, hnil, hL⟩ := hv
  have ho : Ok3 (w.alloc (.cells #[] 44)) w.heap.size (.slice (some ⟨w.heap.size, 0, none⟩) 0 0) [] := by
    refine ⟨rfl, .inr ⟨w.heap.size, 0, #[], rfl, Nat.le_refl _, heap_alloc_new w _, Nat.le_refl _, by simp [maxLen], rfl, rfl⟩⟩
  have hb : Below w.heap.size w (w.alloc (.cells #[] 44)) := (Below.refl _ w).alloc (Nat.le_refl _) _
  cases a with
  | none =>
    obtain rfl := hnil rfl
    obtain rfl : L = [] := List.eq_nil_of_length_eq_zero (by omega)
    go_enter Try.func21, Try.ntmps21
    go_wp2_with fail
    go_ret
    exact ⟨_, rfl, ho, hb⟩
  | some x =>
    obtain ⟨g, o, sp⟩ := x
    have hnews : ∀ j u, (flatK L)[j]? = some u → (w.alloc (.cells #[] 44)).cell? ((⟨g, o, sp⟩ : Addr).add j) = some u := by
      intro j u hj
      have hl2 : j < L.length * 3 := by
        have := (List.getElem?_eq_some_iff.1 hj).1
        rwa [flatK_len] at this
      rcases hL with rfl | ⟨g', o', e, hc⟩
      · simp at hl2
      · cases e
        rw [add_none]
        have hq : j / 3 < L.length := by omega
        obtain ⟨k1, k2, k3⟩ := flatK_get L (j / 3) hq
        obtain ⟨c1, c2, c3⟩ := (hc (j / 3) hq).below hb
        have h3 : j = j / 3 * 3 ∨ j = j / 3 * 3 + 1 ∨ j = j / 3 * 3 + 2 := by omega
        rcases h3 with e | e | e
        · rw [← e] at k1 c1
          rw [k1] at hj
          cases hj
          exact c1
        · rw [← e] at k2
          rw [show o + j / 3 * 3 + 1 = o + j by omega] at c2
          rw [k2] at hj
          cases hj
          exact c2
        · rw [← e] at k3
          rw [show o + j / 3 * 3 + 2 = o + j by omega] at c3
          rw [k3] at hj
          cases hj
          exact c3
    have hfl := flatK_len L
    clear hL hnil
    go_enter Try.func21, Try.ntmps21
    go_wp2_with (first
      | (at_builtin; refine wpList_append_own _ rfl _ _ 28 rfl w.heap.size 44 i0 (.agg #[.int .i64 0, .int .i64 0, .string ⟨#[]⟩]) 3 32 Try.underlying28 hi hz0 hz1 hz2 rfl (by decide) _ _ _ rfl ho ⟨g, o, sp⟩ L.length cap (flatK L) rfl (by rw [hfl]) hnews (one_keys L) (by simp [maxLen]; omega) (by simp; omega) (by simp) ?_))
    intro v' w2 hown' hgrow hnn
    have hb3 := hb.grown hgrow (by simp) (fun k hk => by cases hk; exact Nat.le_refl _)
    have ho2 : Ok3 w2 w.heap.size v' L := by
      unfold Ok3
      simpa [flatK] using hown'
    clear hown' hgrow ho hb hnews hnn
    go_wp2_with fail
    go_ret
    exact ⟨_, rfl, ho2, hb3⟩
end Go.Proofs.Ytkjgbmoimobgaaa.IKeys

/- The longest rise from each place on, and how the asked places are found from the left. -/
import Derived.Test.YtkjgbmoimobgaaaIPure
namespace Go.Proofs.Ytkjgbmoimobgaaa.IRefP
open Go.Proofs.Ytkjgbmoimobgaaa.IPure
set_option linter.unusedVariables false

structure St (L : List Int) (i n : Nat) : Prop where
  ex : ∃ ps, Ri L (i :: ps) ∧ ps.length + 1 = n
  le : ∀ ps, Ri L (i :: ps) → ps.length + 1 ≤ n
theorem ri_cons {L : List Int} {i j : Nat} {ps : List Nat} (h : Ri L (j :: ps)) (h1 : i < j) (h2 : va L i < va L j) : Ri L (i :: j :: ps) := by
  have hj := h.1 j (by simp)
  refine ⟨fun p hp => ?_, List.pairwise_cons.2 ⟨fun b hb => ?_, h.2⟩⟩
  · rcases List.mem_cons.1 hp with rfl | hp
    · omega
    · exact h.1 p hp
  · rcases List.mem_cons.1 hb with rfl | hb
    · exact ⟨h1, h2⟩
    · have := (List.pairwise_cons.1 h.2).1 b hb
      omega
theorem ri_tail {L : List Int} {i : Nat} {ps : List Nat} (h : Ri L (i :: ps)) : Ri L ps := ⟨fun p hp => h.1 p (by simp [hp]), (List.pairwise_cons.1 h.2).2⟩
/-- One place more, from those behind it. -/
theorem St.of {L : List Int} {i t : Nat} {m : Nat → Nat} (hi : i < L.length) (hm : ∀ j, i < j → j < L.length → St L j (m j)) (h1 : t = 1 ∨ ∃ j, i < j ∧ j < L.length ∧ va L i < va L j ∧ t = m j + 1) (h2 : 1 ≤ t) (h3 : ∀ j, i < j → j < L.length → va L i < va L j → m j + 1 ≤ t) : St L i t := by
  constructor
  · rcases h1 with rfl | ⟨j, a, b, c, rfl⟩
    · exact ⟨[], by simpa using Ri.one hi, rfl⟩
    · obtain ⟨ps, hps, hl⟩ := (hm j a b).ex
      exact ⟨j :: ps, ri_cons hps a c, by simp; omega⟩
  · intro ps hps
    cases ps with
    | nil => simpa using h2
    | cons j qs =>
      have a := (List.pairwise_cons.1 hps.2).1 j (by simp)
      have b := hps.1 j (by simp)
      have := (hm j a.1 b).le qs (ri_tail hps)
      have := h3 j a.1 b a.2
      simp
      omega
theorem St.le_K {L : List Int} {i n : Nat} (h : St L i n) : n ≤ K L := by
  obtain ⟨ps, hps, rfl⟩ := h.ex
  simpa using ri_le hps
theorem St.pos {L : List Int} {i n : Nat} (h : St L i n) : 1 ≤ n := by
  obtain ⟨ps, hps, rfl⟩ := h.ex
  omega
/-- What stands from place m of the asked ones on. -/
theorem bst_from (L : List Int) (m : Nat) (h : m < K L) : Ri L (fin L m :: ((List.range (K L - m - 1)).map fun j => fin L (m + 1 + j))) := by
  have : ∀ a b, a < b → b < K L → fin L a < fin L b ∧ va L (fin L a) < va L (fin L b) := fun a b => fin_lt b a
  refine ⟨fun p hp => ?_, List.pairwise_cons.2 ⟨fun b hb => ?_, ?_⟩⟩
  · rcases List.mem_cons.1 hp with rfl | hp
    · exact (pk h).lt
    · obtain ⟨j, hj, rfl⟩ := List.mem_map.1 hp
      exact (pk (by simp at hj; omega)).lt
  · obtain ⟨j, hj, rfl⟩ := List.mem_map.1 hb
    exact this _ _ (by omega) (by simp at hj; omega)
  · rw [List.pairwise_iff_getElem]
    intro i j hi hj hij
    simp only [List.getElem_map, List.getElem_range]
    simp at hj
    exact this _ _ (by omega) (by omega)
/-- The first m of them. -/
theorem bst_front (L : List Int) (m : Nat) (h : m ≤ K L) : Ri L ((List.range m).map (fin L)) := by
  have : ∀ a b, a < b → b < K L → fin L a < fin L b ∧ va L (fin L a) < va L (fin L b) := fun a b => fin_lt b a
  refine ⟨fun p hp => ?_, ?_⟩
  · obtain ⟨j, hj, rfl⟩ := List.mem_map.1 hp
    exact (pk (by simp at hj; omega)).lt
  · rw [List.pairwise_iff_getElem]
    intro i j hi hj hij
    simp only [List.getElem_map, List.getElem_range]
    simp at hj
    exact this _ _ (by omega) (by omega)
theorem fin_mono {L : List Int} {a b : Nat} (h : a ≤ b) (hb : b < K L) : fin L a ≤ fin L b ∧ va L (fin L a) ≤ va L (fin L b) := by
  by_cases e : a = b
  · subst e; exact ⟨Nat.le_refl _, Int.le_refl _⟩
  · have := fin_lt b a (by omega) hb
    omega
/-- A rise behind the first m. -/
theorem join_front {L : List Int} {m i : Nat} {rs : List Nat} (hm : m ≤ K L) (h : Ri L (i :: rs)) (h1 : m = 0 ∨ (fin L (m - 1) < i ∧ va L (fin L (m - 1)) < va L i)) : Ri L ((List.range m).map (fin L) ++ (i :: rs)) := by
  refine (bst_front L m hm).join h fun a ha b hb => ?_
  obtain ⟨k, hk, rfl⟩ := List.mem_map.1 ha
  simp at hk
  rcases h1 with rfl | h1
  · omega
  · have h2 := fin_mono (L := L) (a := k) (b := m - 1) (by omega) (by omega)
    rcases List.mem_cons.1 hb with rfl | hb
    · omega
    · have := (List.pairwise_cons.1 h.2).1 b hb
      omega
/-- At the asked place the test holds. -/
theorem asked_yes {L : List Int} {m t : Nat} (h : m < K L) (hs : St L (fin L m) t) : t = K L - m ∧ (m = 0 ∨ va L (fin L (m - 1)) < va L (fin L m)) := by
  have hlt : m = 0 ∨ (fin L (m - 1) < fin L m ∧ va L (fin L (m - 1)) < va L (fin L m)) := by
    by_cases e : m = 0
    · exact .inl e
    · exact .inr (fin_lt m (m - 1) (by omega) h)
  refine ⟨?_, hlt.imp id fun h => h.2⟩
  have h1 := hs.le _ (bst_from L m h)
  obtain ⟨ps, hps, rfl⟩ := hs.ex
  have h2 := ri_le (join_front (by omega) hps hlt)
  simp at h1 h2
  omega
/-- Ahead of it, it does not. -/
theorem asked_no {L : List Int} {m t i : Nat} (h : m < K L) (hs : St L i t) (hi : i < fin L m) (h1 : m = 0 ∨ fin L (m - 1) < i) (ht : t = K L - m) : m ≠ 0 ∧ va L i ≤ va L (fin L (m - 1)) := by
  have key : ¬ (m = 0 ∨ (fin L (m - 1) < i ∧ va L (fin L (m - 1)) < va L i)) := by
    intro hh
    obtain ⟨ps, hps, hl⟩ := hs.ex
    have hr := join_front (by omega) hps hh
    have hlen : ((List.range m).map (fin L) ++ (i :: ps)).length = K L := by simp; omega
    have := bst_least hr hlen m (by omega)
    rw [List.getElem_append_right (by simp)] at this
    simp at this
    omega
  refine ⟨fun e => key (.inl e), ?_⟩
  apply Int.le_of_not_gt
  intro hv
  rcases h1 with h1 | h1
  · exact key (.inl h1)
  · exact key (.inr ⟨h1, hv⟩)
/-- The greatest of them all. -/
theorem best_K {L : List Int} {m : Nat → Nat} {b : Nat} (hm : ∀ j, j < L.length → St L j (m j)) (h1 : ∀ j, j < L.length → m j ≤ b) (h2 : (b = 0 ∧ L.length = 0) ∨ ∃ j, j < L.length ∧ b = m j) : b = K L := by
  rcases h2 with ⟨rfl, h⟩ | ⟨j, hj, rfl⟩
  · have := K_le L
    omega
  · have h3 := (hm j hj).le_K
    by_cases e : K L = 0
    · omega
    · have P := pk (L := L) (k := 0) (by omega)
      have := asked_yes (by omega) (hm _ P.lt)
      have := h1 _ P.lt
      omega
end Go.Proofs.Ytkjgbmoimobgaaa.IRefP

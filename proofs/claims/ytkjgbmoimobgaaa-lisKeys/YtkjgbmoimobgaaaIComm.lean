/- Moves both ways: as many are kept, as many are moved. -/
import Derived.Test.YtkjgbmoimobgaaaIMoves
namespace Go.Proofs.Ytkjgbmoimobgaaa.IComm
open Go.Proofs.Ytkjgbmoimobgaaa.IPure Go.Proofs.Ytkjgbmoimobgaaa.IBase Go.Proofs.Ytkjgbmoimobgaaa.IKey Go.Proofs.Ytkjgbmoimobgaaa.IMoves
set_option linter.unusedVariables false

/-- The places of those in both lists. -/
def pf (olds news : List Ky) (i : Nat) : Option (Nat × Nat) := (news[i]?.bind (fd olds)).map fun j => (i, j)
def pq (olds news : List Ky) (q : Nat) : List (Nat × Nat) := (List.range q).filterMap (pf olds news)
theorem pq_succ (olds news : List Ky) (q : Nat) : pq olds news (q + 1) = pq olds news q ++ (pf olds news q).toList := by
  unfold pq
  rw [List.range_succ, List.filterMap_append]
  cases h2 : pf olds news q <;> simp [h2]
theorem row_pq (olds news : List Ky) : ∀ q, q ≤ news.length → rowOf olds (news.take q) = (pq olds news q).map fun p => (p.2 : Int) := by
  intro q
  induction q with
  | zero => intro _; simp [rowOf, pq]
  | succ q ih =>
    intro h
    rw [rowOf_succ (by omega), pq_succ, List.map_append, ih (by omega)]
    congr 1
    unfold pf wh
    rw [List.getElem?_eq_getElem (by omega)]
    simp only [Option.bind_some]
    cases fd olds news[q] <;> rfl
def pr (olds news : List Ky) : List (Nat × Nat) := pq olds news news.length
theorem row_pr (olds news : List Ky) : rowOf olds news = (pr olds news).map fun p => (p.2 : Int) := by
  have := row_pq olds news news.length (Nat.le_refl _)
  rwa [List.take_length] at this
theorem pr_sorted (olds news : List Ky) : (pr olds news).Pairwise fun a b => a.1 < b.1 := by
  unfold pr pq
  rw [List.pairwise_filterMap]
  refine List.pairwise_lt_range.imp fun {a b} h c hc d hd => ?_
  unfold pf at hc hd
  obtain ⟨j, -, rfl⟩ := Option.map_eq_some_iff.1 hc
  obtain ⟨k, -, rfl⟩ := Option.map_eq_some_iff.1 hd
  exact h
theorem nodup_at {ks : List Ky} (h : ks.Nodup) {i j : Nat} {x : Ky} (hi : ks[i]? = some x) (hj : ks[j]? = some x) : i = j := by
  obtain ⟨h1, e1⟩ := List.getElem?_eq_some_iff.1 hi
  obtain ⟨h2, e2⟩ := List.getElem?_eq_some_iff.1 hj
  rcases Nat.lt_trichotomy i j with hlt | h | hlt
  · exact absurd (e1.trans e2.symm) (List.pairwise_iff_getElem.1 h i j h1 h2 hlt)
  · exact h
  · exact absurd (e2.trans e1.symm) (List.pairwise_iff_getElem.1 h j i h2 h1 hlt)
theorem fd_at {ks : List Ky} (h : ks.Nodup) {j : Nat} {x : Ky} (hj : ks[j]? = some x) : fd ks x = some j := by
  cases e : fd ks x with
  | none => exact absurd (List.mem_of_getElem? hj) (fd_none.1 e)
  | some k => rw [nodup_at h hj (fd_some e).1]
theorem mem_pr {olds news : List Ky} (h : olds.Nodup) {i j : Nat} : (i, j) ∈ pr olds news ↔ ∃ x, news[i]? = some x ∧ olds[j]? = some x := by
  unfold pr pq
  rw [List.mem_filterMap]
  constructor
  · rintro ⟨a, ha, he⟩
    unfold pf at he
    obtain ⟨k, hk, e⟩ := Option.map_eq_some_iff.1 he
    cases e
    obtain ⟨x, hx, hf⟩ := Option.bind_eq_some_iff.1 hk
    exact ⟨x, hx, (fd_some hf).1⟩
  · rintro ⟨x, h1, h2⟩
    refine ⟨i, by simpa using (List.getElem?_eq_some_iff.1 h1).1, ?_⟩
    unfold pf
    rw [h1]
    simp only [Option.bind_some]
    rw [fd_at h h2]
    rfl
theorem mem_swap {olds news : List Ky} (h : olds.Nodup) (h2 : news.Nodup) {i j : Nat} : (i, j) ∈ pr olds news ↔ (j, i) ∈ pr news olds := by
  rw [mem_pr h, mem_pr h2]
  constructor
  · rintro ⟨x, a, b⟩; exact ⟨x, b, a⟩
  · rintro ⟨x, a, b⟩; exact ⟨x, b, a⟩
theorem nodup_le {α : Type} : ∀ (A B : List α), A.Nodup → (∀ a ∈ A, a ∈ B) → A.length ≤ B.length
  | [], B, _, _ => by simp
  | a :: A, B, hn, hs => by
    obtain ⟨h1, h2⟩ := List.nodup_cons.1 hn
    obtain ⟨s, t, rfl⟩ := List.append_of_mem (hs a (by simp))
    have := nodup_le A (s ++ t) h2 fun x hx => by
      have hm := hs x (by simp [hx])
      rw [List.mem_append, List.mem_cons] at hm
      rw [List.mem_append]
      rcases hm with hm | rfl | hm
      · exact .inl hm
      · exact absurd hx h1
      · exact .inr hm
    simp at this ⊢
    omega
theorem pr_le {olds news : List Ky} (h : olds.Nodup) (h2 : news.Nodup) : (pr olds news).length ≤ (pr news olds).length := by
  have := nodup_le ((pr olds news).map fun p => (p.2, p.1)) (pr news olds) ?_ ?_
  · simpa using this
  · have hs := pr_sorted olds news
    unfold List.Nodup
    rw [List.pairwise_map]
    exact hs.imp fun {a b} h e => by
      simp only [Prod.mk.injEq] at e
      omega
  · intro c hc
    obtain ⟨⟨i, j⟩, hp, rfl⟩ := List.mem_map.1 hc
    exact (mem_swap h h2).1 hp
theorem va_row (olds news : List Ky) {k : Nat} (hk : k < (pr olds news).length) : va (rowOf olds news) k = ((pr olds news)[k].2 : Int) := by
  have hl : (rowOf olds news).length = (pr olds news).length := by rw [row_pr]; simp
  rw [va_eq (by omega)]
  simp only [row_pr, List.getElem_map]
theorem sorted_idx {P : List (Nat × Nat)} (hs : P.Pairwise fun a b => a.1 < b.1) {a b : Nat} (ha : a < P.length) (hb : b < P.length) (h : P[a].1 < P[b].1) : a < b := by
  apply Nat.lt_of_not_le
  intro hle
  by_cases e : b = a
  · subst e; omega
  · have := List.pairwise_iff_getElem.1 hs b a hb ha (by omega)
    omega
theorem K_le_comm {olds news : List Ky} (h : olds.Nodup) (h2 : news.Nodup) : K (rowOf olds news) ≤ K (rowOf news olds) := by
  have hl : (rowOf olds news).length = (pr olds news).length := by rw [row_pr]; simp
  have hl2 : (rowOf news olds).length = (pr news olds).length := by rw [row_pr]; simp
  have hR := bst_ri (rowOf olds news)
  have hmem : ∀ k, k < (pr olds news).length → ∃ m, ∃ hm : m < (pr news olds).length, (pr news olds)[m].1 = (pr olds news)[k]!.2 ∧ (pr news olds)[m].2 = (pr olds news)[k]!.1 := by
    intro k hk
    have hm : (pr olds news)[k] ∈ pr olds news := List.getElem_mem _
    rw [getElem!_pos (pr olds news) k hk]
    obtain ⟨m, hm1, e⟩ := List.getElem_of_mem ((mem_swap h h2 (i := (pr olds news)[k].1) (j := (pr olds news)[k].2)).1 hm)
    exact ⟨m, hm1, by rw [e], by rw [e]⟩
  have hf : ∃ f : Nat → Nat, ∀ k, k < (pr olds news).length → ∃ hm : f k < (pr news olds).length, (pr news olds)[f k].1 = (pr olds news)[k]!.2 ∧ (pr news olds)[f k].2 = (pr olds news)[k]!.1 := by
    have : ∀ k, ∃ m, k < (pr olds news).length → ∃ hm : m < (pr news olds).length, (pr news olds)[m].1 = (pr olds news)[k]!.2 ∧ (pr news olds)[m].2 = (pr olds news)[k]!.1 := fun k => by
      by_cases hk : k < (pr olds news).length
      · obtain ⟨m, hm⟩ := hmem k hk
        exact ⟨m, fun _ => hm⟩
      · exact ⟨0, fun h => absurd h hk⟩
    exact Classical.axiomOfChoice this
  obtain ⟨f, hf⟩ := hf
  have hri : Ri (rowOf news olds) ((bst (rowOf olds news)).map f) := by
    refine ⟨fun p hp => ?_, ?_⟩
    · obtain ⟨k, hk, rfl⟩ := List.mem_map.1 hp
      have := hR.1 k hk
      obtain ⟨hm, -⟩ := hf k (by omega)
      omega
    · rw [List.pairwise_map]
      refine hR.2.imp_of_mem fun {a b} ha hb hab => ?_
      have ha' := hR.1 a ha
      have hb' := hR.1 b hb
      rw [hl] at ha' hb'
      obtain ⟨ma, ea1, ea2⟩ := hf a ha'
      obtain ⟨mb, eb1, eb2⟩ := hf b hb'
      rw [getElem!_pos (pr olds news) a ha'] at ea1 ea2
      rw [getElem!_pos (pr olds news) b hb'] at eb1 eb2
      rw [va_row _ _ ha', va_row _ _ hb'] at hab
      have hs := List.pairwise_iff_getElem.1 (pr_sorted olds news) a b ha' hb' hab.1
      refine ⟨sorted_idx (pr_sorted news olds) ma mb (by rw [ea1, eb1]; omega), ?_⟩
      rw [va_row _ _ ma, va_row _ _ mb, ea2, eb2]
      omega
  have := ri_le hri
  simpa [bst_len] using this
theorem mv_comm (olds news : List Ky) : mv olds news = mv news olds := by
  unfold mv
  by_cases h : olds.Nodup ∧ news.Nodup
  · rw [if_pos h, if_pos ⟨h.2, h.1⟩]
    have e1 : (rowOf olds news).length = (rowOf news olds).length := by
      rw [row_pr, row_pr]
      have := pr_le h.1 h.2
      have := pr_le h.2 h.1
      simp
      omega
    have e2 : K (rowOf olds news) = K (rowOf news olds) := Nat.le_antisymm (K_le_comm h.1 h.2) (K_le_comm h.2 h.1)
    rw [e1, e2]
  · rw [if_neg h, if_neg fun k => h ⟨k.2, k.1⟩]
theorem row_self {ks : List Ky} (h : ks.Nodup) : rowOf ks ks = ro ks.length fun j => (j : Int) := by
  have : ∀ q, q ≤ ks.length → rowOf ks (ks.take q) = ro q fun j => (j : Int) := by
    intro q
    induction q with
    | zero => intro _; simp [rowOf, ro]
    | succ q ih =>
      intro hq
      rw [rowOf_succ (by omega), ih (by omega)]
      unfold wh
      rw [fd_at h (List.getElem?_eq_getElem (by omega))]
      simp [ro, List.range_succ]
  have := this ks.length (Nat.le_refl _)
  rwa [List.take_length] at this
theorem K_up (n : Nat) : K (ro n fun j => (j : Int)) = n := by
  have h1 := K_le (ro n fun j => (j : Int))
  rw [ro_len] at h1
  have h2 : Ri (ro n fun j => (j : Int)) (List.range n) := by
    refine ⟨fun p hp => by rw [ro_len]; simpa using hp, ?_⟩
    rw [List.pairwise_iff_getElem]
    intro i j hi hj hij
    simp only [List.getElem_range]
    simp at hi hj
    rw [va_eq (by rw [ro_len]; exact hi), va_eq (by rw [ro_len]; exact hj), ro_get, ro_get]
    omega
  have h3 := ri_le h2
  simp at h3
  omega
theorem mv_self {ks : List Ky} (h : ks.Nodup) : mv ks ks = ((ks.length : Int), 0, 0) := by
  unfold mv
  rw [if_pos ⟨h, h⟩, row_self h, K_up, ro_len]
  simp
theorem K_pos {L : List Int} (h : 0 < L.length) : 1 ≤ K L := by
  have := ri_le (Ri.one (L := L) (i := 0) h)
  simpa using this
end Go.Proofs.Ytkjgbmoimobgaaa.IComm

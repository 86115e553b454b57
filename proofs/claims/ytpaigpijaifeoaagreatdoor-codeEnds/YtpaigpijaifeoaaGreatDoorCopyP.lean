/- New memory for a value: contract of copied. -/
import Derived.Test.YtpaigpijaifeoaaGreatDoorFresh
import Derived.Deep.RegionWith
namespace Go.Proofs.YtpaigpijaifeoaaGreatDoor.Copied
open Go.RowKit Go.Proofs.YtpaigpijaifeoaaGreatDoor.Base Go.Proofs.YtpaigpijaifeoaaGreatDoor.Clone Go.Proofs.YtpaigpijaifeoaaGreatDoor.Fresh
set_option linter.unusedVariables false

theorem Fr.weak {w : World} {m lo hi lo' hi' : Nat} {v : Value} {c : C} (h : Fr w m lo hi v c) (h1 : lo' ≤ lo) (h2 : hi ≤ hi') : Fr w m lo' hi' v c := by
  cases m with
  | zero => rw [Fr] at h; exact h.elim
  | succ m =>
    obtain ⟨k, b, i, s, n, l⟩ := c
    rw [Fr] at h ⊢
    obtain ⟨nv, lv, a1, a2, us, cut, g1, g2, rfl, hk, hi', hs, hn1, hn2, hl1, hT, hTb, hV, hVb, hus, hc0, hcl, hcm, hel⟩ := h
    refine ⟨nv, lv, a1, a2, us, cut, by omega, g2, rfl, hk, hi', hs, hn1, hn2, hl1, ⟨hT.1, ?_⟩, hTb, hV, hVb, hus, hc0, by omega, hcm, hel⟩
    rcases hT.2 with h0 | ⟨g, cap, cur, e, hg, r⟩
    · exact .inl h0
    · exact .inr ⟨g, cap, cur, e, by omega, r⟩
/-- Six cells of a row written over. -/
theorem flat_set {us : List Value} {q : Nat} {u : Value} (hs : Sixes us) (hu : ∃ v0 v1 v2 v3 v4 v5, u = .agg #[v0, v1, v2, v3, v4, v5] ∧ ∀ x ∈ [v0, v1, v2, v3, v4, v5], x.oneCell' = true) : Sixes (us.set q u) := by
  intro x hx
  rcases List.mem_or_eq_of_mem_set hx with h | rfl
  · exact hs x h
  · exact hu
theorem ownV_set {w w' : World} {B g n cap q : Nat} {us : List Value} {v0 v1 v2 v3 v4 v5 : Value} (h : OwnV w B (.slice (some ⟨g, 0, none⟩) n cap) us) (hq : q < us.length) (h1 : ∀ x ∈ [v0, v1, v2, v3, v4, v5], x.oneCell' = true)
    (hW : ((((((w.setCell ⟨g, q * 6, none⟩ v0).setCell ⟨g, q * 6 + 1, none⟩ v1).setCell ⟨g, q * 6 + 2, none⟩ v2).setCell ⟨g, q * 6 + 3, none⟩ v3).setCell ⟨g, q * 6 + 4, none⟩ v4).setCell ⟨g, q * 6 + 5, none⟩ v5) = w') :
    OwnV w' B (.slice (some ⟨g, 0, none⟩) n cap) (us.set q (.agg #[v0, v1, v2, v3, v4, v5])) ∧ (∀ b, b ≠ g → w'.heap[b]? = w.heap[b]?) ∧ w'.heap.size = w.heap.size ∧ ∀ x k, k ≤ g → Below k x w → Below k x w' := by
  subst hW
  refine ⟨?_, fun b hb => ?_, by simp [World.setCell], fun x k hk hb => ?_⟩
  · have hs' : Sixes (us.set q (.agg #[v0, v1, v2, v3, v4, v5])) := flat_set h.2 ⟨_, _, _, _, _, _, rfl, h1⟩
    refine ⟨?_, hs'⟩
    have hlen := h.1.1
    rcases h.1.2 with ⟨h0, _⟩ | ⟨g', cap', cur, e, hB, hg, hn, hm, hsz, htake⟩
    · cases h0
    · cases e
      refine ⟨by rw [flat_len hs', List.length_set], .inr ⟨g, cap, _, ?_, hB, block_set (block_set (block_set (block_set (block_set (block_set hg _) _) _) _) _) _, by rw [List.length_set]; exact hn, hm, by simp [hsz], ?_⟩⟩
      · rw [List.length_set]
      · apply List.ext_getElem?
        intro p
        rw [List.length_set, List.getElem?_take]
        by_cases hp : p < us.length * 6
        · rw [if_pos hp]
          have hp6 : p / 6 < us.length := by omega
          have e6 : p / 6 * 6 + p % 6 = p := by omega
          have hr : p % 6 < 6 := by omega
          have hF := flat_get hs' (p / 6) (by rw [List.length_set]; exact hp6) (p % 6) hr
          rw [e6] at hF
          rw [hF]
          have hold : cur.toList[p]? = us[p / 6].cells.toList[p % 6]? := by
            have := flat_get h.2 (p / 6) hp6 (p % 6) hr
            rw [e6, ← htake, List.getElem?_take, if_pos hp] at this
            exact this
          have hcs : p < cur.size := by rw [hsz]; omega
          have hpc : p < cap * 6 := by omega
          rw [List.getElem_set]
          by_cases hq6 : q = p / 6
          · rw [if_pos hq6]
            have hcase : p % 6 = 0 ∨ p % 6 = 1 ∨ p % 6 = 2 ∨ p % 6 = 3 ∨ p % 6 = 4 ∨ p % 6 = 5 := by omega
            simp only [Array.getElem?_toList, Value.cells]
            rcases hcase with h6 | h6 | h6 | h6 | h6 | h6 <;> rw [h6]
            · have ep : p = q * 6 := by omega
              subst ep
              simp [hsz, hpc]
            · have ep : p = q * 6 + 1 := by omega
              subst ep
              simp [hsz, hpc]
            · have ep : p = q * 6 + 2 := by omega
              subst ep
              simp [hsz, hpc]
            · have ep : p = q * 6 + 3 := by omega
              subst ep
              simp [hsz, hpc]
            · have ep : p = q * 6 + 4 := by omega
              subst ep
              simp [hsz, hpc]
            · have ep : p = q * 6 + 5 := by omega
              subst ep
              simp [hsz, hpc]
          · rw [if_neg hq6, ← hold, Array.getElem?_toList, Array.getElem?_toList]
            rw [Array.getElem?_setIfInBounds_ne (by omega), Array.getElem?_setIfInBounds_ne (by omega), Array.getElem?_setIfInBounds_ne (by omega), Array.getElem?_setIfInBounds_ne (by omega), Array.getElem?_setIfInBounds_ne (by omega), Array.getElem?_setIfInBounds_ne (by omega)]
        · rw [if_neg hp, List.getElem?_eq_none]
          rw [flat_len hs', List.length_set]
          omega
  · rw [Below.heap_setCell _ _ _ _ hb, Below.heap_setCell _ _ _ _ hb, Below.heap_setCell _ _ _ _ hb, Below.heap_setCell _ _ _ _ hb, Below.heap_setCell _ _ _ _ hb, Below.heap_setCell _ _ _ _ hb]
  · exact (((((hb.setCell (p := ⟨g, q * 6, none⟩) hk _).setCell (p := ⟨g, q * 6 + 1, none⟩) hk _).setCell (p := ⟨g, q * 6 + 2, none⟩) hk _).setCell (p := ⟨g, q * 6 + 3, none⟩) hk _).setCell (p := ⟨g, q * 6 + 4, none⟩) hk _).setCell (p := ⟨g, q * 6 + 5, none⟩) hk _
theorem frozen_own {w : World} {B : Nat} {e : TypeId} {s n n' g cap : Nat} {xs : List Value} (h : w.ownsRow B e s (.slice (some ⟨g, 0, none⟩) n' cap) n xs) (j : Nat) : w.frozen? ⟨g, j, none⟩ = false := by
  rcases h.2 with ⟨h0, _⟩ | ⟨g', cap', cur, e, _, hg, _⟩
  · cases h0
  · cases e
    exact frozen_box hg j
end Go.Proofs.YtpaigpijaifeoaaGreatDoor.Copied

/- Joined texts, plainly. -/
import Derived.Test.YtfglbgnjgapehaaUOwn
namespace Go.Proofs.Ytfglbgnjgapehaa.UJn
open Go.Proofs.Ytfglbgnjgapehaa.UBase
set_option linter.unusedVariables false

theorem bad_some {s : ByteArray} : ∀ (k i m : Nat), s.size - i ≤ k → bad s i = some m → i ≤ m ∧ m < s.size := by
  intro k
  induction k with
  | zero => intro i m hk h; rw [bad_end (by omega)] at h; cases h
  | succ k ih =>
    intro i m hk h
    by_cases hi : i < s.size
    · by_cases hl : len s i = 0
      · rw [bad_here hi hl] at h
        cases h
        exact ⟨Nat.le_refl _, hi⟩
      · rw [bad_step hi hl] at h
        have := ih _ _ (by omega) h
        omega
    · rw [bad_end hi] at h
      cases h
/-- The length of a character is told by its own bytes. -/
theorem len4_same {a b c d a' b' c' d' k : Nat} (h : len4 a b c d = k) (h0 : k ≠ 0) (ea : a' = a) (eb : 2 ≤ k → b' = b) (ec : 3 ≤ k → c' = c) (ed : 4 ≤ k → d' = d) : len4 a' b' c' d' = k := by
  subst ea
  unfold len4 at h
  split at h
  · unfold len4; rw [if_pos (by assumption)]; exact h
  · split at h
    · have e := eb (by omega); subst e; unfold len4; rw [if_neg (by assumption), if_pos (by assumption)]; exact h
    · split at h
      · split at h
        · omega
        · have e := eb (by omega); subst e; have e := ec (by omega); subst e
          unfold len4; rw [if_neg (by assumption), if_neg (by assumption), if_pos (by assumption), if_neg (by assumption)]; exact h
      · split at h
        · split at h
          · omega
          · have e := eb (by omega); subst e; have e := ec (by omega); subst e; have e := ed (by omega); subst e
            unfold len4; rw [if_neg (by assumption), if_neg (by assumption), if_neg (by assumption), if_pos (by assumption), if_neg (by assumption)]; exact h
        · omega
theorem len_same {s u : ByteArray} {m i : Nat} (ag : ∀ j, j < m → at' u j = at' s j) (h0 : len s i ≠ 0) (hm : i + len s i ≤ m) : len u i = len s i := by
  rw [len_eq u]
  exact len4_same (len_eq s i).symm h0 (ag _ (by omega)) (fun _ => ag _ (by omega)) (fun _ => ag _ (by omega)) (fun _ => ag _ (by omega))
/-- The front up to a fault is valid. -/
theorem bad_front {s u : ByteArray} {m : Nat} (hu : u.size = m) (ag : ∀ j, j < m → at' u j = at' s j) : ∀ (k i : Nat), m - i ≤ k → bad s i = some m → bad u i = none := by
  intro k
  induction k with
  | zero => intro i hk h; exact bad_end (by omega)
  | succ k ih =>
    intro i hk h
    have b := bad_some _ _ _ (Nat.le_refl _) h
    by_cases e : i = m
    · exact bad_end (by omega)
    · have hi : i < s.size := by omega
      have hl : len s i ≠ 0 := fun hl => by rw [bad_here hi hl] at h; cases h; exact e rfl
      rw [bad_step hi hl] at h
      have b2 := bad_some _ _ _ (Nat.le_refl _) h
      have el := len_same ag hl b2.1
      rw [bad_step (s := u) (by omega) (by omega), el]
      exact ih _ (by omega) h
theorem bad_shift (s t : ByteArray) : ∀ (k j : Nat), t.size - j ≤ k → bad (s ++ t) (s.size + j) = (bad t j).map (s.size + ·) := by
  intro k
  induction k with
  | zero => intro j hk; rw [bad_end (s := t) (by omega), bad_end (by simp; omega)]; rfl
  | succ k ih =>
    intro j hk
    have el : len (s ++ t) (s.size + j) = len t j := by
      rw [len_eq, len_eq, Nat.add_assoc, Nat.add_assoc, Nat.add_assoc, at_append_right, at_append_right, at_append_right, at_append_right]
    by_cases hj : j < t.size
    · by_cases hl : len t j = 0
      · rw [bad_here hj hl, bad_here (s := s ++ t) (by simp; omega) (by omega)]
        rfl
      · rw [bad_step hj hl, bad_step (s := s ++ t) (by simp; omega) (by omega), el, Nat.add_assoc]
        exact ih _ (by omega)
    · rw [bad_end hj, bad_end (by simp; omega)]
      rfl
/-- What is valid, joined to a text. -/
theorem bad_join {s t : ByteArray} : ∀ (k i : Nat), s.size - i ≤ k → i ≤ s.size → bad s i = none → bad (s ++ t) i = (bad t 0).map (s.size + ·) := by
  intro k
  induction k with
  | zero =>
    intro i hk hi h
    obtain rfl : i = s.size + 0 := by omega
    exact bad_shift s t _ _ (Nat.le_refl _)
  | succ k ih =>
    intro i hk hi h
    by_cases e : i = s.size
    · obtain rfl : i = s.size + 0 := by omega
      exact bad_shift s t _ _ (Nat.le_refl _)
    · have hi' : i < s.size := by omega
      have hl : len s i ≠ 0 := fun hl => by rw [bad_here hi' hl] at h; cases h
      rw [bad_step hi' hl] at h
      have b2 := len_in hi'
      have el := len_same (s := s) (u := s ++ t) (m := s.size) (fun j hj => at_append_left s t j hj) hl b2
      rw [bad_step (s := s ++ t) (by simp; omega) (by omega), el]
      exact ih _ (by omega) b2 h
theorem verr_join {s t : ByteArray} (h : bad s 0 = none) : verr (s ++ t) = verr t := by
  unfold verr
  rw [bad_join _ _ (Nat.le_refl _) (by omega) h]
  cases bad t 0 <;> simp
end Go.Proofs.Ytfglbgnjgapehaa.UJn

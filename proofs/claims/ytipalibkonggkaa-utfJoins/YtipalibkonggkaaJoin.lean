/- Joined texts, and lines and columns character by character, plainly. -/
import Derived.Test.YtipalibkonggkaaAwake
namespace Go.Proofs.Ytipalibkonggkaa.Join
open Go.Proofs.Ytipalibkonggkaa.Base Go.Proofs.Ytipalibkonggkaa.Small Go.Proofs.Ytipalibkonggkaa.Length Go.Proofs.Ytipalibkonggkaa.Valid Go.Proofs.Ytipalibkonggkaa.Own Go.Proofs.Ytipalibkonggkaa.Place
set_option linter.unusedVariables false

theorem bad_some {s : ByteArray} : ∀ (k i m : Nat), s.size - i ≤ k → bad s i = some m → i ≤ m ∧ m < s.size := by
  intro k
  induction k with
  | zero => intro i m hk h; rw [bad_end (by omega)] at h; cases h
  | succ k ih =>
    intro i m hk h
    by_cases hi : i < s.size
    · by_cases hl : len s i = 0
      · rw [bad_here hi hl] at h
        cases h
        exact ⟨Nat.le_refl _, hi⟩
      · rw [bad_step hi hl] at h
        have := ih _ _ (by omega) h
        omega
    · rw [bad_end hi] at h
      cases h
/-- The length of a character is told by its own bytes. -/
theorem len4_same {a b c d a' b' c' d' k : Nat} (h : len4 a b c d = k) (h0 : k ≠ 0) (ea : a' = a) (eb : 2 ≤ k → b' = b) (ec : 3 ≤ k → c' = c) (ed : 4 ≤ k → d' = d) : len4 a' b' c' d' = k := by
  subst ea
  unfold len4 at h
  split at h
  · unfold len4; rw [if_pos (by assumption)]; exact h
  · split at h
    · have e := eb (by omega); subst e; unfold len4; rw [if_neg (by assumption), if_pos (by assumption)]; exact h
    · split at h
      · split at h
        · omega
        · have e := eb (by omega); subst e; have e := ec (by omega); subst e
          unfold len4; rw [if_neg (by assumption), if_neg (by assumption), if_pos (by assumption), if_neg (by assumption)]; exact h
      · split at h
        · split at h
          · omega
          · have e := eb (by omega); subst e; have e := ec (by omega); subst e; have e := ed (by omega); subst e
            unfold len4; rw [if_neg (by assumption), if_neg (by assumption), if_neg (by assumption), if_pos (by assumption), if_neg (by assumption)]; exact h
        · omega
theorem len_same {s u : ByteArray} {m i : Nat} (ag : ∀ j, j < m → at' u j = at' s j) (h0 : len s i ≠ 0) (hm : i + len s i ≤ m) : len u i = len s i := by
  rw [len_eq u]
  exact len4_same (len_eq s i).symm h0 (ag _ (by omega)) (fun _ => ag _ (by omega)) (fun _ => ag _ (by omega)) (fun _ => ag _ (by omega))
/-- The front up to a fault is valid. -/
theorem bad_front {s u : ByteArray} {m : Nat} (hu : u.size = m) (ag : ∀ j, j < m → at' u j = at' s j) : ∀ (k i : Nat), m - i ≤ k → bad s i = some m → bad u i = none := by
  intro k
  induction k with
  | zero => intro i hk h; exact bad_end (by omega)
  | succ k ih =>
    intro i hk h
    have b := bad_some _ _ _ (Nat.le_refl _) h
    by_cases e : i = m
    · exact bad_end (by omega)
    · have hi : i < s.size := by omega
      have hl : len s i ≠ 0 := fun hl => by rw [bad_here hi hl] at h; cases h; exact e rfl
      rw [bad_step hi hl] at h
      have b2 := bad_some _ _ _ (Nat.le_refl _) h
      have el := len_same ag hl b2.1
      rw [bad_step (s := u) (by omega) (by omega), el]
      exact ih _ (by omega) h
theorem bad_cut {s : ByteArray} {m : Nat} (h : bad s 0 = some m) : m < s.size ∧ bad (s.extract 0 m) 0 = none := by
  have b := bad_some _ _ _ (Nat.le_refl _) h
  refine ⟨b.2, bad_front (m := m) (by simp; omega) (fun j hj => ?_) _ _ (Nat.le_refl _) h⟩
  rw [at_extract s 0 m j (by omega) (by omega), Nat.zero_add]
theorem bad_shift (s t : ByteArray) : ∀ (k j : Nat), t.size - j ≤ k → bad (s ++ t) (s.size + j) = (bad t j).map (s.size + ·) := by
  intro k
  induction k with
  | zero => intro j hk; rw [bad_end (s := t) (by omega), bad_end (by simp; omega)]; rfl
  | succ k ih =>
    intro j hk
    have el : len (s ++ t) (s.size + j) = len t j := by
      rw [len_eq, len_eq, Nat.add_assoc, Nat.add_assoc, Nat.add_assoc, at_append_right, at_append_right, at_append_right, at_append_right]
    by_cases hj : j < t.size
    · by_cases hl : len t j = 0
      · rw [bad_here hj hl, bad_here (s := s ++ t) (by simp; omega) (by omega)]
        rfl
      · rw [bad_step hj hl, bad_step (s := s ++ t) (by simp; omega) (by omega), el, Nat.add_assoc]
        exact ih _ (by omega)
    · rw [bad_end hj, bad_end (by simp; omega)]
      rfl
/-- What is valid, joined to a text. -/
theorem bad_join {s t : ByteArray} : ∀ (k i : Nat), s.size - i ≤ k → i ≤ s.size → bad s i = none → bad (s ++ t) i = (bad t 0).map (s.size + ·) := by
  intro k
  induction k with
  | zero =>
    intro i hk hi h
    obtain rfl : i = s.size + 0 := by omega
    exact bad_shift s t _ _ (Nat.le_refl _)
  | succ k ih =>
    intro i hk hi h
    by_cases e : i = s.size
    · obtain rfl : i = s.size + 0 := by omega
      exact bad_shift s t _ _ (Nat.le_refl _)
    · have hi' : i < s.size := by omega
      have hl : len s i ≠ 0 := fun hl => by rw [bad_here hi' hl] at h; cases h
      rw [bad_step hi' hl] at h
      have b2 := len_in hi'
      have el := len_same (s := s) (u := s ++ t) (m := s.size) (fun j hj => at_append_left s t j hj) hl b2
      rw [bad_step (s := s ++ t) (by simp; omega) (by omega), el]
      exact ih _ (by omega) b2 h
theorem verr_join {s t : ByteArray} (h : bad s 0 = none) : verr (s ++ t) = verr t := by
  unfold verr
  rw [bad_join _ _ (Nat.le_refl _) (by omega) h]
  cases bad t 0 <;> simp
/-- A character's step of lines and columns. -/
theorem step_lf {s : ByteArray} {i : Nat} (hl : len s i ≠ 0) (h : at' s i = 10) : ln s (i + len s i) = ln s i + 1 ∧ cl s (i + len s i) = 1 := by
  have e : len s i = 1 := by rw [len_eq]; unfold len4; rw [if_pos (by omega)]
  rw [e]
  exact ln_lf h
theorem step_ch {s : ByteArray} {i : Nat} (hl : len s i ≠ 0) (h : ¬ at' s i = 10) : ln s (i + len s i) = ln s i ∧ cl s (i + len s i) = cl s i + 1 := by
  rcases len_parts s i with e | ⟨e, a⟩ | ⟨e, a, h1⟩ | ⟨e, a, h1, h2⟩ | ⟨e, a, h1, h2, h3⟩
  · exact absurd e hl
  · have c := ln_ch h (by omega)
    rw [e]; exact c
  · have c := ln_ch h (by omega)
    have c1 : ln s (i + 2) = ln s (i + 1) ∧ cl s (i + 2) = cl s (i + 1) := ln_tl (tl_of h1)
    rw [e]; omega
  · have c := ln_ch h (by omega)
    have c1 : ln s (i + 2) = ln s (i + 1) ∧ cl s (i + 2) = cl s (i + 1) := ln_tl (tl_of h1)
    have c2 : ln s (i + 3) = ln s (i + 2) ∧ cl s (i + 3) = cl s (i + 2) := ln_tl (tl_of h2)
    rw [e]; omega
  · have c := ln_ch h (by omega)
    have c1 : ln s (i + 2) = ln s (i + 1) ∧ cl s (i + 2) = cl s (i + 1) := ln_tl (tl_of h1)
    have c2 : ln s (i + 3) = ln s (i + 2) ∧ cl s (i + 3) = cl s (i + 2) := ln_tl (tl_of h2)
    have c3 : ln s (i + 4) = ln s (i + 3) ∧ cl s (i + 4) = cl s (i + 3) := ln_tl (tl_of h3)
    rw [e]; omega
end Go.Proofs.Ytipalibkonggkaa.Join

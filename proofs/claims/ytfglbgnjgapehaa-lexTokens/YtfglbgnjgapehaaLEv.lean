/- Texts that are escaped: as valid as they were (no walk). -/
import Derived.Test.YtfglbgnjgapehaaUJn
import Derived.Test.YtfglbgnjgapehaaLCv
namespace Go.Proofs.Ytfglbgnjgapehaa.LEv
open Go.RowKit Go.Proofs.Ytfglbgnjgapehaa.UBase Go.Proofs.Ytfglbgnjgapehaa.LCv
set_option linter.unusedVariables false

def gt (l : List UInt8) (m : Nat) : Nat := (l.getD m 0).toNat
theorem at_list (X : ByteArray) (j m : Nat) : at' X (j + m) = gt (X.data.toList.drop j) m := by
  unfold gt
  by_cases h : j + m < X.size
  · rw [at_get X _ h, List.getD_eq_getElem?_getD, List.getElem?_drop, List.getElem?_eq_getElem (by rw [len_l]; exact h)]
    rfl
  · rw [at_out X _ h, List.getD_eq_getElem?_getD, List.getElem?_drop, List.getElem?_eq_none (by rw [len_l]; omega)]
    rfl
/-- Bytes that agree as far as they could be a character's. -/
def Sm (l l' : List UInt8) : Prop :=
  (gt l 0 = gt l' 0 ∧ ((gt l 1 = gt l' 1 ∧ (gt l 2 = gt l' 2 ∨ (gt l 2 < 128 ∧ gt l' 2 < 128))) ∨ (gt l 1 < 128 ∧ gt l' 1 < 128))) ∨ (gt l 0 < 128 ∧ gt l' 0 < 128)
theorem len4_sim {a b c d b' c' d' : Nat} (h : (b = b' ∧ ((c = c' ∧ (d = d' ∨ (d < 128 ∧ d' < 128))) ∨ (c < 128 ∧ c' < 128))) ∨ (b < 128 ∧ b' < 128)) : len4 a b c d = len4 a b' c' d' := by
  unfold len4
  rcases h with ⟨rfl, ⟨rfl, rfl | h⟩ | h⟩ | h
  · rfl
  all_goals (repeat' split) <;> omega
theorem ascii_one (q : Bool) (c : UInt8) (h : c.toNat < 128) : (∀ x ∈ HBase.one q c, x.toNat < 128) ∧ HBase.one q c ≠ [] := by
  unfold HBase.one
  split
  · exact ⟨fun x hx => by rw [List.mem_singleton] at hx; rw [hx]; exact h, by simp⟩
  · rename_i hn
    refine ⟨?_, fun e => hn (.inl e)⟩
    unfold HBase.ent
    intro x hx
    repeat' split at hx
    all_goals (clear hn; revert x; decide)
theorem high_one (q : Bool) (c : UInt8) (h : ¬ c.toNat < 128) : HBase.one q c = [c] := by
  unfold HBase.one
  rw [if_pos (.inl (HBase.ent_none (by omega) (by omega) (by omega) (by omega) (by omega)))]
def Asc (T : List UInt8) : Prop := ∀ x ∈ T, x.toNat < 128
theorem gt_asc {T : List UInt8} (h : Asc T) (m : Nat) : gt T m < 128 := by
  unfold gt
  rw [List.getD_eq_getElem?_getD]
  cases e : T[m]? with
  | none => decide
  | some x => exact h x (List.mem_of_getElem? e)
theorem gt_zero_esc {q : Bool} {r T : List UInt8} (hT : Asc T) : (gt r 0 = gt (HBase.esc q r ++ T) 0 ∧ ∃ d r2, r = d :: r2 ∧ HBase.esc q r ++ T = d :: (HBase.esc q r2 ++ T)) ∨ (gt r 0 < 128 ∧ gt (HBase.esc q r ++ T) 0 < 128) := by
  cases r with
  | nil => exact .inr ⟨by decide, gt_asc hT 0⟩
  | cons d r2 =>
    by_cases h : d.toNat < 128
    · refine .inr ⟨h, ?_⟩
      obtain ⟨h1, h2⟩ := ascii_one q d h
      rw [HBase.esc_cons]
      cases e : HBase.one q d with
      | nil => exact absurd e h2
      | cons y ys => rw [e] at h1; exact h1 y (by simp)
    · refine .inl ⟨?_, d, r2, rfl, ?_⟩
      · rw [HBase.esc_cons, high_one q d h]; rfl
      · rw [HBase.esc_cons, high_one q d h]; rfl
theorem gt_succ (d : UInt8) (r : List UInt8) (m : Nat) : gt (d :: r) (m + 1) = gt r m := rfl
theorem sm_esc {q : Bool} {r T : List UInt8} (hT : Asc T) : Sm r (HBase.esc q r ++ T) := by
  rcases gt_zero_esc (q := q) (r := r) hT with ⟨h, d, r2, rfl, e⟩ | h
  · refine .inl ⟨h, ?_⟩
    rw [e]
    simp only [gt_succ]
    rcases gt_zero_esc (q := q) (r := r2) hT with ⟨h1, d1, r3, rfl, e1⟩ | h1
    · refine .inl ⟨h1, ?_⟩
      rw [e1]
      simp only [gt_succ]
      rcases gt_zero_esc (q := q) (r := r3) hT with ⟨h2, -⟩ | h2
      · exact .inl h2
      · exact .inr h2
    · exact .inr h1
  · exact .inr h
theorem bad_asc (X : ByteArray) : ∀ (A : List UInt8) (j : Nat) (U : List UInt8), X.data.toList.drop j = A ++ U → Asc A → bad X j = bad X (j + A.length)
  | [], j, U, _, _ => rfl
  | a :: A, j, U, h, hA => by
    have hj : j < X.size := by
      have := congrArg List.length h
      rw [List.length_drop, len_l] at this
      simp at this
      omega
    have ha : at' X j < 128 := by
      have := at_list X j 0
      rw [Nat.add_zero, h] at this
      rw [this]
      exact hA a (by simp)
    have hl : len X j = 1 := by unfold len; rw [if_pos ha]
    rw [bad_step hj (by omega), hl]
    have h2 : X.data.toList.drop (j + 1) = A ++ U := by rw [← List.drop_drop, h]; rfl
    have := bad_asc X A (j + 1) U h2 (fun x hx => hA x (List.mem_cons_of_mem _ hx))
    rw [this, List.length_cons]
    congr 1
    omega
theorem bad_tail (X : ByteArray) (T : List UInt8) (hT : Asc T) (j : Nat) (h : X.data.toList.drop j = T) : bad X j = none := by
  have h1 := bad_asc X T j [] (by rw [List.append_nil]; exact h) hT
  have hl := congrArg List.length h
  rw [List.length_drop, len_l] at hl
  rw [h1, bad_end (by omega)]
theorem esc_drop (q : Bool) (T : List UInt8) : ∀ (m : Nat) (r : List UInt8), (∀ t, t < m → 128 ≤ gt r t) → (HBase.esc q r ++ T).drop m = HBase.esc q (r.drop m) ++ T
  | 0, r, _ => rfl
  | m + 1, [], h => by
    have := h 0 (by omega)
    exact absurd this (by decide)
  | m + 1, d :: r, h => by
    have hd : ¬ d.toNat < 128 := by have : 128 ≤ d.toNat := h 0 (by omega); omega
    rw [HBase.esc_cons, high_one q d hd]
    exact esc_drop q T m r (fun t ht => h (t + 1) (by omega))
theorem len_cont (s : ByteArray) (i t : Nat) (h : t + 1 < len s i) : 128 ≤ at' s (i + (t + 1)) := by
  rw [len_eq] at h
  have ht : t = 0 ∨ t = 1 ∨ t = 2 ∨ 3 ≤ t := by omega
  unfold len4 at h
  rcases ht with rfl | rfl | rfl | ht
  · simp only [Nat.zero_add]; (repeat' split at h) <;> omega
  · simp only [Nat.reduceAdd]; (repeat' split at h) <;> omega
  · simp only [Nat.reduceAdd]; (repeat' split at h) <;> omega
  · (repeat' split at h) <;> omega
/-- What is escaped, with plain bytes behind it, is valid just where the text was. -/
theorem bad_esc (q : Bool) (s X : ByteArray) (T : List UInt8) (hT : Asc T) : ∀ (k i j : Nat), s.size - i ≤ k → X.data.toList.drop j = HBase.esc q (s.data.toList.drop i) ++ T → (bad X j = none ↔ bad s i = none) := by
  intro k
  induction k with
  | zero =>
    intro i j hk h
    have e : s.data.toList.drop i = [] := List.drop_of_length_le (by rw [len_l]; omega)
    rw [e] at h
    rw [bad_tail X T hT j h, bad_end (by omega)]
  | succ k ih =>
    intro i j hk h
    by_cases hi : i < s.size
    · have hd : s.data.toList.drop i = s[i] :: s.data.toList.drop (i + 1) := HFind.drop_at hi
      generalize s[i] = c at hd
      have hai : at' s i = c.toNat := by have := at_list s i 0; rw [Nat.add_zero, hd] at this; exact this
      rw [hd, HBase.esc_cons, List.append_assoc] at h
      by_cases hc : c.toNat < 128
      · have hl : len s i = 1 := by unfold len; rw [if_pos (by rw [hai]; exact hc)]
        rw [bad_step hi (by omega), hl, bad_asc X _ j _ h (ascii_one q c hc).1]
        refine ih (i + 1) _ (by omega) ?_
        rw [← List.drop_drop, h, List.drop_left]
      · rw [high_one q c hc] at h
        have haj : at' X j = c.toNat := by have := at_list X j 0; rw [Nat.add_zero, h] at this; exact this
        have hj : j < X.size := by
          have := congrArg List.length h
          rw [List.length_drop, len_l] at this
          simp at this
          omega
        have hs := sm_esc (q := q) (r := s.data.toList.drop (i + 1)) hT
        have hL : len X j = len s i := by
          rw [len_eq, len_eq, haj, hai]
          refine (len4_sim ?_).symm
          have e1 : ∀ m, at' s (i + (m + 1)) = gt (s.data.toList.drop (i + 1)) m := fun m => by rw [at_list, hd]; rfl
          have e2 : ∀ m, at' X (j + (m + 1)) = gt (HBase.esc q (s.data.toList.drop (i + 1)) ++ T) m := fun m => by rw [at_list, h]; rfl
          have a1 := e1 0; have a2 := e1 1; have a3 := e1 2; have b1 := e2 0; have b2 := e2 1; have b3 := e2 2
          simp only [Nat.zero_add, Nat.reduceAdd] at a1 a2 a3 b1 b2 b3
          rw [a1, a2, a3, b1, b2, b3]
          exact hs
        by_cases h0 : len s i = 0
        · rw [bad_here hi h0, bad_here hj (by rw [hL]; exact h0)]
          simp
        · rw [bad_step hi h0, bad_step hj (by rw [hL]; exact h0), hL]
          refine ih _ _ (by omega) ?_
          obtain ⟨n, hn⟩ : ∃ n, len s i = n + 1 := ⟨len s i - 1, by omega⟩
          have hg : ∀ t, t < n → 128 ≤ gt (s.data.toList.drop (i + 1)) t := fun t ht => by
            have := len_cont s i t (by omega)
            rw [at_list, hd] at this
            exact this
          have hdr := esc_drop q T n (s.data.toList.drop (i + 1)) hg
          have e1 : X.data.toList.drop (j + (n + 1)) = (X.data.toList.drop j).drop (n + 1) := List.drop_drop.symm
          have e2 : s.data.toList.drop (i + (n + 1)) = (s.data.toList.drop (i + 1)).drop n := by rw [List.drop_drop]; congr 1; omega
          rw [hn, e1, e2, h]
          exact hdr
    · have e : s.data.toList.drop i = [] := List.drop_of_length_le (by rw [len_l]; omega)
      rw [e] at h
      rw [bad_tail X T hT j h, bad_end (by omega)]
end Go.Proofs.Ytfglbgnjgapehaa.LEv

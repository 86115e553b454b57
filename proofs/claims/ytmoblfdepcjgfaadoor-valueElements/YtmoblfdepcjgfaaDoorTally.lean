/- What a value that may be says of its parts: they may be, are less deep, and are counted. -/
import Derived.Test.YtmoblfdepcjgfaaDoorPart
import Derived.Test.YtmoblfdepcjgfaaDoorMeasure
namespace Go.Proofs.YtmoblfdepcjgfaaDoor.Tally
open Go.RowKit Go.Proofs.YtmoblfdepcjgfaaDoor.Base Go.Proofs.YtmoblfdepcjgfaaDoor.Eq Go.Proofs.YtmoblfdepcjgfaaDoor.Names Go.Proofs.YtmoblfdepcjgfaaDoor.Pure Go.Proofs.YtmoblfdepcjgfaaDoor.Fault Go.Proofs.YtmoblfdepcjgfaaDoor.Walk Go.Proofs.YtmoblfdepcjgfaaDoor.Measure Go.Proofs.YtmoblfdepcjgfaaDoor.Part Go.Proofs.YtmoblfdepcjgfaaDoor.Shallow
set_option linter.unusedVariables false

theorem ft_mono {c : C} {d q d' q' : Int} (h : ft c d q = 0) (hd : d' ≤ d) (hq : q' ≤ q) : ft c d' q' = 0 := by
  unfold ft at h ⊢
  by_cases h1 : 16384 < q
  · rw [if_pos h1] at h; omega
  rw [if_neg h1] at h
  by_cases h2 : 24 < d
  · rw [if_pos h2] at h; omega
  rw [if_neg h2] at h
  rw [if_neg (by omega), if_neg (by omega)]
  exact h
theorem ft_le {c : C} {d q : Int} (h : ft c d q = 0) : q ≤ 16384 ∧ d ≤ 24 ∧ 1 ≤ c.k ∧ c.k ≤ 6 ∧ fm c = true := by
  unfold ft at h
  by_cases h1 : 16384 < q
  · rw [if_pos h1] at h; omega
  rw [if_neg h1] at h
  by_cases h2 : 24 < d
  · rw [if_pos h2] at h; omega
  rw [if_neg h2] at h
  by_cases h3 : c.k < 1 ∨ 6 < c.k
  · rw [if_pos h3] at h; omega
  rw [if_neg h3] at h
  by_cases h4 : fm c = true
  · exact ⟨by omega, by omega, by omega, by omega, h4⟩
  · rw [if_neg h4] at h; omega
theorem ms_bad : ∀ (L : List (Nat × C)) (D k : Nat), (ms D k L).2.2 ≠ 0 → (ms D k L).1 = 0 ∧ (ms D k L).2.1 = 0 := by
  intro L
  induction L with
  | nil => intro D k h; simp [ms] at h
  | cons x r ih =>
    intro D k h
    obtain ⟨d, c⟩ := x
    rw [ms] at h ⊢
    by_cases e : ft c d (k + 1 : Nat) = 0
    · rw [if_pos e] at h ⊢; exact ih _ _ h
    · rw [if_neg e]; exact ⟨rfl, rfl⟩
theorem ms_all : ∀ (L : List (Nat × C)) (D k : Nat), (ms D k L).2.2 = 0 → ∀ j (h : j < L.length), ft L[j].2 L[j].1 (k + j + 1 : Nat) = 0 := by
  intro L
  induction L with
  | nil => intro D k h j hj; simp at hj
  | cons x r ih =>
    intro D k h j hj
    obtain ⟨d, c⟩ := x
    rw [ms] at h
    by_cases e : ft c d (k + 1 : Nat) = 0
    · rw [if_pos e] at h
      cases j with
      | zero => exact e
      | succ j =>
        have := ih _ _ h j (by simpa using hj)
        simp only [List.getElem_cons_succ]
        rw [show k + (j + 1) + 1 = k + 1 + j + 1 by omega]
        exact this
    · rw [if_neg e] at h; exact absurd h e
theorem ms_good : ∀ (L : List (Nat × C)) (D k : Nat), (∀ j (h : j < L.length), ft L[j].2 L[j].1 (k + j + 1 : Nat) = 0) → ms D k L = (((L.foldl (fun D x => max D x.1) D : Nat) : Int), ((k + L.length : Nat) : Int), 0) := by
  intro L
  induction L with
  | nil => intro D k h; simp [ms]
  | cons x r ih =>
    intro D k h
    obtain ⟨d, c⟩ := x
    have e : ft c d (k + 1 : Nat) = 0 := h 0 (by simp)
    rw [ms, if_pos e, ih]
    · simp only [List.foldl_cons, List.length_cons]
      rw [show k + 1 + r.length = k + (r.length + 1) by omega]
    · intro j hj
      have := h (j + 1) (by simpa using hj)
      simp only [List.getElem_cons_succ] at this
      rw [show k + 1 + j + 1 = k + (j + 1) + 1 by omega]
      exact this
theorem fold_max : ∀ (L : List (Nat × C)) (D : Nat), L.foldl (fun D x => max D x.1) D = max D (mx L) := by
  intro L
  induction L with
  | nil => intro D; simp [mx]
  | cons x r ih =>
    intro D
    have h2 : mx (x :: r) = max x.1 (mx r) := by
      unfold mx
      rw [List.foldl_cons, ih]
      unfold mx
      omega
    rw [List.foldl_cons, ih, h2]
    omega
theorem mx_cons (x : Nat × C) (r : List (Nat × C)) : mx (x :: r) = max x.1 (mx r) := by
  unfold mx
  rw [List.foldl_cons, fold_max]
  unfold mx
  omega
theorem mx_append (a b : List (Nat × C)) : mx (a ++ b) = max (mx a) (mx b) := by
  unfold mx
  rw [List.foldl_append, fold_max]
  rfl
def up (x : Nat × C) : Nat × C := (x.1 + 1, x.2)
theorem plL_up (n : Nat) : (∀ c d, dep c ≤ n → pl (d + 1) c = (pl d c).map up) ∧ (∀ l d, depL l ≤ n → plL (d + 1) l = (plL d l).map up) := by
  induction n with
  | zero =>
    refine ⟨fun c d h => ?_, fun l d h => ?_⟩
    · obtain ⟨k, b, i, s, n, l⟩ := c
      simp [dep] at h
    · cases l with
      | nil => simp [plL]
      | cons c cs =>
        obtain ⟨k, b, i, s, n, l⟩ := c
        simp [depL] at h
  | succ m ih =>
    have h1 : ∀ c d, dep c ≤ m + 1 → pl (d + 1) c = (pl d c).map up := by
      intro c d h
      obtain ⟨k, b, i, s, n, l⟩ := c
      rw [dep] at h
      rw [pl, pl, ih.2 l (d + 1) (by omega), List.map_cons]
      rfl
    refine ⟨h1, fun l => ?_⟩
    induction l with
    | nil => intro d h; simp [plL]
    | cons c cs ihc =>
      intro d h
      rw [depL_cons, Nat.max_le] at h
      rw [plL_cons, plL_cons, h1 c d h.1, ihc d h.2, List.map_append]
theorem pl_up (c : C) (d : Nat) : pl (d + 1) c = (pl d c).map up := (plL_up _).1 c d (Nat.le_refl _)
theorem plL_up' (l : List C) (d : Nat) : plL (d + 1) l = (plL d l).map up := (plL_up _).2 l d (Nat.le_refl _)
theorem mx_up : ∀ (L : List (Nat × C)), max 1 (mx (L.map up)) = mx L + 1 := by
  intro L
  induction L with
  | nil => simp [mx]
  | cons x r ih =>
    rw [List.map_cons, mx_cons, mx_cons]
    show max 1 (max (x.1 + 1) _) = _
    omega
/-- All of a value's parts, itself at their head. -/
theorem all_parts {c : C} (h : (ms 0 0 (pl 1 c)).2.2 = 0) : ∀ j (h : j < (pl 1 c).length), ft (pl 1 c)[j].2 (pl 1 c)[j].1 (j + 1 : Nat) = 0 := by
  intro j hj
  have := ms_all _ _ _ h j hj
  rw [show 0 + j + 1 = j + 1 by omega] at this
  exact this
theorem ms_ok {c : C} (h : (ms 0 0 (pl 1 c)).2.2 = 0) : ms 0 0 (pl 1 c) = (((mx (pl 1 c) : Nat) : Int), (((pl 1 c).length : Nat) : Int), 0) := by
  have := ms_good (pl 1 c) 0 0 (ms_all _ _ _ h)
  rw [this, Nat.zero_add]
  rfl
theorem head_ok {c : C} (h : (ms 0 0 (pl 1 c)).2.2 = 0) : fm c = true := by
  have hh := all_parts h
  obtain ⟨k, b, i, s, n, l⟩ := c
  have := hh 0 (by simp [pl])
  simp only [pl, List.getElem_cons_zero] at this
  exact (ft_le this).2.2.2.2
theorem len_ok {c : C} (h : (ms 0 0 (pl 1 c)).2.2 = 0) : (pl 1 c).length ≤ 16384 := by
  by_cases h0 : (pl 1 c).length = 0
  · omega
  · have := (ft_le (all_parts h ((pl 1 c).length - 1) (by omega))).1
    omega
theorem mx_le : ∀ (L : List (Nat × C)) (q : Nat), (∀ j (h : j < L.length), L[j].1 ≤ q) → mx L ≤ q := by
  intro L q
  induction L with
  | nil => intro _; simp [mx]
  | cons x r ih =>
    intro h
    rw [mx_cons]
    have h1 := h 0 (by simp)
    have h2 := ih fun j hj => h (j + 1) (by simpa using hj)
    simp only [List.getElem_cons_zero] at h1
    omega
theorem mx_ok {c : C} (h : (ms 0 0 (pl 1 c)).2.2 = 0) : mx (pl 1 c) ≤ 24 := mx_le _ _ fun j hj => by
  have := (ft_le (all_parts h j hj)).2.1
  omega
theorem part_ok {c : C} (h : (ms 0 0 (pl 1 c)).2.2 = 0) (q : Nat) (hq : q < c.l.length) : (ms 0 0 (pl 1 c.l[q])).2.2 = 0 := by
  have hh := all_parts h
  obtain ⟨k, b, i, s, n, l⟩ := c
  simp only [C.l] at hq ⊢
  have hs : plL 2 l = plL 2 (l.take q) ++ pl 2 l[q] ++ plL 2 (l.drop (q + 1)) := by
    rw [← plL_take 2 l q hq, ← plL_append, List.take_append_drop]
  have := ms_good (pl 1 l[q]) 0 0 fun j hj => by
    have hj2 : j < (pl 2 l[q]).length := by rw [pl_up]; simpa using hj
    have hlt : 1 + (plL 2 (l.take q)).length + j < (pl 1 (.mk k b i s n l)).length := by
      rw [pl, hs]; simp; omega
    have e := hh (1 + (plL 2 (l.take q)).length + j) hlt
    have hx : (pl 1 (.mk k b i s n l))[1 + (plL 2 (l.take q)).length + j] = up (pl 1 l[q])[j] := by
      have : (pl 1 (.mk k b i s n l))[1 + (plL 2 (l.take q)).length + j]? = some (up (pl 1 l[q])[j]) := by
        rw [pl, hs, show 1 + (plL 2 (l.take q)).length + j = ((plL 2 (l.take q)).length + j) + 1 by omega, List.getElem?_cons_succ, List.getElem?_append_left (by simp; omega), List.getElem?_append_right (by omega), Nat.add_sub_cancel_left, pl_up, List.getElem?_map, List.getElem?_eq_getElem hj]
        rfl
      rw [List.getElem?_eq_getElem hlt] at this
      exact Option.some.inj this
    rw [hx] at e
    refine ft_mono e ?_ ?_
    · show ((pl 1 l[q])[j].1 : Int) ≤ ((pl 1 l[q])[j].1 + 1 : Nat)
      omega
    · omega
  rw [this]
theorem count_all {c : C} : (pl 1 c).length = 1 + (plL 2 c.l).length := by
  obtain ⟨k, b, i, s, n, l⟩ := c
  rw [pl, List.length_cons]
  exact Nat.add_comm _ _
theorem count_next (l : List C) (q : Nat) (hq : q < l.length) : (plL 2 (l.take (q + 1))).length = (plL 2 (l.take q)).length + (pl 1 l[q]).length := by
  rw [plL_take 2 l q hq, List.length_append, pl_up, List.length_map]
theorem deep_next (l : List C) (q : Nat) (hq : q < l.length) : mx (plL 1 (l.take (q + 1))) = max (mx (plL 1 (l.take q))) (mx (pl 1 l[q])) := by
  rw [plL_take 1 l q hq, mx_append]
theorem deep_all {c : C} : mx (pl 1 c) = mx (plL 1 c.l) + 1 := by
  obtain ⟨k, b, i, s, n, l⟩ := c
  rw [pl, mx_cons, plL_up' l 1, mx_up]
  rfl
theorem fm_list {c : C} (h : fm c = true) (hk : ¬ c.k = 5) (hq : 0 < c.l.length) : c.k = 6 := by
  unfold fm pu at h
  by_cases e : c.k = 6
  · exact e
  · have h2 : ¬ (c.k = 5 ∨ c.k = 6) := by omega
    have h3 : ¬ c.l.length = 0 := by omega
    simp [h2, h3] at h
theorem fm_names {c : C} (h : fm c = true) (hk : c.k = 6) : c.n.length = c.l.length ∧ c.n.Nodup := by
  unfold fm nmb at h
  simp [hk] at h
  exact ⟨h.2.1.1, nd_iff.1 h.2.2⟩
theorem io_ok {c : C} (hk : c.k = 5) (q : Nat) (hq : q < c.l.length) : io c q = some c.l[q] := by
  unfold io eo
  rw [if_pos hk]
  simp [hq]
theorem fo_ok {c : C} (h : fm c = true) (hk : c.k = 6) (q : Nat) (hq : q < c.l.length) (hq' : q < c.n.length) : fo c c.n[q] = some c.l[q] := by
  obtain ⟨h1, h2⟩ := fm_names h hk
  have e : fi c.n c.n[q] = some q := fi_some hq' (eqB_eq.2 rfl) fun j hj hlt => by
    by_cases e : eqB c.n[q] c.n[j] = true
    · have := (List.getElem_inj h2).1 (eqB_eq.1 e)
      omega
    · simpa using e
  unfold fo eo fiI
  rw [if_pos hk, e]
  simp [hq]
end Go.Proofs.YtmoblfdepcjgfaaDoor.Tally

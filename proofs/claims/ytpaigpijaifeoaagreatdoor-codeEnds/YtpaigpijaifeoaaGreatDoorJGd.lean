/- What an expression over the stack comes to may be (no walk). -/
import Derived.Test.YtpaigpijaifeoaaGreatDoorUOwn
import Derived.Test.YtpaigpijaifeoaaGreatDoorGWf
import Derived.Test.YtpaigpijaifeoaaGreatDoorVRs
namespace Go.Proofs.YtpaigpijaifeoaaGreatDoor.UJn
open Go.Proofs.YtpaigpijaifeoaaGreatDoor.UBase
set_option linter.unusedVariables false

theorem bad_some {s : ByteArray} : ∀ (k i m : Nat), s.size - i ≤ k → bad s i = some m → i ≤ m ∧ m < s.size := by
  intro k
  induction k with
  | zero => intro i m hk h; rw [bad_end (by omega)] at h; cases h
  | succ k ih =>
    intro i m hk h
    by_cases hi : i < s.size
    · by_cases hl : len s i = 0
      · rw [bad_here hi hl] at h
        cases h
        exact ⟨Nat.le_refl _, hi⟩
      · rw [bad_step hi hl] at h
        have := ih _ _ (by omega) h
        omega
    · rw [bad_end hi] at h
      cases h
/-- The length of a character is told by its own bytes. -/
theorem len4_same {a b c d a' b' c' d' k : Nat} (h : len4 a b c d = k) (h0 : k ≠ 0) (ea : a' = a) (eb : 2 ≤ k → b' = b) (ec : 3 ≤ k → c' = c) (ed : 4 ≤ k → d' = d) : len4 a' b' c' d' = k := by
  subst ea
  unfold len4 at h
  split at h
  · unfold len4; rw [if_pos (by assumption)]; exact h
  · split at h
    · have e := eb (by omega); subst e; unfold len4; rw [if_neg (by assumption), if_pos (by assumption)]; exact h
    · split at h
      · split at h
        · omega
        · have e := eb (by omega); subst e; have e := ec (by omega); subst e
          unfold len4; rw [if_neg (by assumption), if_neg (by assumption), if_pos (by assumption), if_neg (by assumption)]; exact h
      · split at h
        · split at h
          · omega
          · have e := eb (by omega); subst e; have e := ec (by omega); subst e; have e := ed (by omega); subst e
            unfold len4; rw [if_neg (by assumption), if_neg (by assumption), if_neg (by assumption), if_pos (by assumption), if_neg (by assumption)]; exact h
        · omega
theorem len_same {s u : ByteArray} {m i : Nat} (ag : ∀ j, j < m → at' u j = at' s j) (h0 : len s i ≠ 0) (hm : i + len s i ≤ m) : len u i = len s i := by
  rw [len_eq u]
  exact len4_same (len_eq s i).symm h0 (ag _ (by omega)) (fun _ => ag _ (by omega)) (fun _ => ag _ (by omega)) (fun _ => ag _ (by omega))
/-- The front up to a fault is valid. -/
theorem bad_front {s u : ByteArray} {m : Nat} (hu : u.size = m) (ag : ∀ j, j < m → at' u j = at' s j) : ∀ (k i : Nat), m - i ≤ k → bad s i = some m → bad u i = none := by
  intro k
  induction k with
  | zero => intro i hk h; exact bad_end (by omega)
  | succ k ih =>
    intro i hk h
    have b := bad_some _ _ _ (Nat.le_refl _) h
    by_cases e : i = m
    · exact bad_end (by omega)
    · have hi : i < s.size := by omega
      have hl : len s i ≠ 0 := fun hl => by rw [bad_here hi hl] at h; cases h; exact e rfl
      rw [bad_step hi hl] at h
      have b2 := bad_some _ _ _ (Nat.le_refl _) h
      have el := len_same ag hl b2.1
      rw [bad_step (s := u) (by omega) (by omega), el]
      exact ih _ (by omega) h
theorem bad_shift (s t : ByteArray) : ∀ (k j : Nat), t.size - j ≤ k → bad (s ++ t) (s.size + j) = (bad t j).map (s.size + ·) := by
  intro k
  induction k with
  | zero => intro j hk; rw [bad_end (s := t) (by omega), bad_end (by simp; omega)]; rfl
  | succ k ih =>
    intro j hk
    have el : len (s ++ t) (s.size + j) = len t j := by
      rw [len_eq, len_eq, Nat.add_assoc, Nat.add_assoc, Nat.add_assoc, at_append_right, at_append_right, at_append_right, at_append_right]
    by_cases hj : j < t.size
    · by_cases hl : len t j = 0
      · rw [bad_here hj hl, bad_here (s := s ++ t) (by simp; omega) (by omega)]
        rfl
      · rw [bad_step hj hl, bad_step (s := s ++ t) (by simp; omega) (by omega), el, Nat.add_assoc]
        exact ih _ (by omega)
    · rw [bad_end hj, bad_end (by simp; omega)]
      rfl
/-- What is valid, joined to a text. -/
theorem bad_join {s t : ByteArray} : ∀ (k i : Nat), s.size - i ≤ k → i ≤ s.size → bad s i = none → bad (s ++ t) i = (bad t 0).map (s.size + ·) := by
  intro k
  induction k with
  | zero =>
    intro i hk hi h
    obtain rfl : i = s.size + 0 := by omega
    exact bad_shift s t _ _ (Nat.le_refl _)
  | succ k ih =>
    intro i hk hi h
    by_cases e : i = s.size
    · obtain rfl : i = s.size + 0 := by omega
      exact bad_shift s t _ _ (Nat.le_refl _)
    · have hi' : i < s.size := by omega
      have hl : len s i ≠ 0 := fun hl => by rw [bad_here hi' hl] at h; cases h
      rw [bad_step hi' hl] at h
      have b2 := len_in hi'
      have el := len_same (s := s) (u := s ++ t) (m := s.size) (fun j hj => at_append_left s t j hj) hl b2
      rw [bad_step (s := s ++ t) (by simp; omega) (by omega), el]
      exact ih _ (by omega) b2 h
theorem verr_join {s t : ByteArray} (h : bad s 0 = none) : verr (s ++ t) = verr t := by
  unfold verr
  rw [bad_join _ _ (Nat.le_refl _) (by omega) h]
  cases bad t 0 <;> simp
end Go.Proofs.YtpaigpijaifeoaaGreatDoor.UJn

namespace Go.Proofs.YtpaigpijaifeoaaGreatDoor.JGd
open Go.RowKit Go.Proofs.YtpaigpijaifeoaaGreatDoor.Base Go.Proofs.YtpaigpijaifeoaaGreatDoor.EPure Go.Proofs.YtpaigpijaifeoaaGreatDoor.VPure
open Go.Proofs.YtpaigpijaifeoaaGreatDoor.Walk (pl plL)
open Go.Proofs.YtpaigpijaifeoaaGreatDoor.UBase (at' verr)
set_option linter.unusedVariables false

/-- What value.Check tells. -/
def code (c : C) : Int := (Measure.ms 0 0 (Walk.pl 1 c)).2.2
def rg (i : Int) : Prop := -9223372036854775808 ≤ i ∧ i ≤ 9223372036854775807
/-- A part in its place: how deep, which. -/
def okP (c : C) (d q : Nat) : Prop := q ≤ 16384 ∧ d ≤ 24 ∧ (1 ≤ c.k ∧ c.k ≤ 6) ∧ Fault.fm c = true
theorem ft_iff (c : C) (d q : Nat) : Fault.ft c d q = 0 ↔ okP c d q := by
  unfold Fault.ft okP
  by_cases h1 : 16384 < (q : Int)
  · rw [if_pos h1]; exact ⟨fun h => (by cases h), fun h => (by omega)⟩
  rw [if_neg h1]
  by_cases h2 : 24 < (d : Int)
  · rw [if_pos h2]; exact ⟨fun h => (by cases h), fun h => (by omega)⟩
  rw [if_neg h2]
  by_cases h3 : c.k < 1 ∨ 6 < c.k
  · rw [if_pos h3]; exact ⟨fun h => (by cases h), fun h => (by omega)⟩
  rw [if_neg h3]
  by_cases h4 : Fault.fm c = true
  · rw [if_pos h4]; exact ⟨fun _ => ⟨by omega, by omega, by omega, h4⟩, fun _ => rfl⟩
  · rw [if_neg h4]; exact ⟨fun h => (by cases h), fun h => (h4 h.2.2.2).elim⟩
theorem ms_iff : ∀ (r : List (Nat × C)) (D k : Nat), (Measure.ms D k r).2.2 = 0 ↔ ∀ j (h : j < r.length), okP r[j].2 r[j].1 (k + j + 1)
  | [], _, _ => by rw [Measure.ms]; exact ⟨fun _ j h => absurd h (by simp), fun _ => rfl⟩
  | (d, c) :: r, D, k => by
    rw [Measure.ms]
    by_cases hf : Fault.ft c d (k + 1 : Nat) = 0
    · rw [if_pos hf, ms_iff r]
      constructor
      · intro h j hj
        cases j with
        | zero => exact (ft_iff c d (k + 1)).1 hf
        | succ j =>
          have := h j (by simpa using hj)
          rw [show k + 1 + j + 1 = k + (j + 1) + 1 from by omega] at this
          simpa using this
      · intro h j hj
        have := h (j + 1) (by simpa using hj)
        rw [show k + (j + 1) + 1 = k + 1 + j + 1 from by omega] at this
        simpa using this
    · rw [if_neg hf]
      constructor
      · intro h; exact (hf h).elim
      · intro h
        exact (hf ((ft_iff c d (k + 1)).2 (h 0 (by simp)))).elim
theorem code_iff (c : C) : code c = 0 ↔ ∀ j (h : j < (pl 1 c).length), okP (pl 1 c)[j].2 (pl 1 c)[j].1 (j + 1) := by
  unfold code
  rw [ms_iff]
  constructor <;> intro h j hj <;> simpa using h j hj
/-- A value that may be, of integers. -/
def Gd (c : C) : Prop := code c = 0 ∧ ∀ p ∈ pl 1 c, rg p.2.i
theorem plL_up : ∀ (l : List C) (d : Nat), plL (d + 1) l = (plL d l).map fun p => (p.1 + 1, p.2)
  | [], _ => by rw [plL, plL]; rfl
  | .mk k b i s n l :: t, d => by rw [plL, plL, plL_up l (d + 1), plL_up t d]; simp
theorem pl_up (c : C) (d : Nat) : pl (d + 1) c = (pl d c).map fun p => (p.1 + 1, p.2) := by
  obtain ⟨k, b, i, s, n, l⟩ := c
  rw [pl, pl, plL_up l (d + 1)]
  rfl
theorem plL_at : ∀ (l : List C) (d q : Nat) (h : q < l.length), ∃ A B, plL d l = A ++ pl d l[q] ++ B
  | [], _, q, h => absurd h (by simp)
  | c :: t, d, 0, h => ⟨[], plL d t, by rw [Walk.plL_cons]; rfl⟩
  | c :: t, d, q + 1, h => by
    obtain ⟨A, B, e⟩ := plL_at t d q (by simpa using h)
    exact ⟨pl d c ++ A, B, by rw [Walk.plL_cons, e]; simp⟩
theorem pl_len (c : C) : c.l.length < (pl 1 c).length := by
  have h : ∀ (l : List C) (d : Nat), l.length ≤ (plL d l).length := by
    intro l
    induction l with
    | nil => intro d; simp
    | cons c t ih => intro d; rw [Walk.plL_cons]; obtain ⟨k, b, i, s, n, l⟩ := c; rw [pl]; simp; have := ih d; omega
  obtain ⟨k, b, i, s, n, l⟩ := c
  rw [pl]
  have := h l (1 + 1)
  simp only [List.length_cons, C.l]
  omega
theorem Gd.self {c : C} (h : Gd c) : (1 ≤ c.k ∧ c.k ≤ 6) ∧ Fault.fm c = true ∧ rg c.i ∧ c.l.length ≤ 16384 := by
  have hp := (code_iff c).1 h.1
  have hl := pl_len c
  have hlast := hp ((pl 1 c).length - 1) (by omega)
  have h0 := hp 0 (by omega)
  have e : (pl 1 c)[0]'(by omega) = (1, c) := by obtain ⟨k, b, i, s, n, l⟩ := c; simp [pl]
  rw [e] at h0
  have hm := h.2 (1, c) (by rw [← e]; exact List.getElem_mem _)
  exact ⟨h0.2.2.1, h0.2.2.2, hm, by have := hlast.1; omega⟩
theorem Gd.sub {c : C} (h : Gd c) {q : Nat} (hq : q < c.l.length) : Gd (c.l.getD q zerC) := by
  have eg : c.l.getD q zerC = c.l[q] := by rw [List.getD_eq_getElem?_getD, List.getElem?_eq_getElem hq]; rfl
  rw [eg]
  obtain ⟨A, B, e⟩ := plL_at c.l 2 q hq
  have ep : pl 1 c = (1, c) :: (A ++ pl 2 c.l[q] ++ B) := by rw [← e]; obtain ⟨k, b, i, s, n, l⟩ := c; rw [pl]; rfl
  have eu := pl_up c.l[q] 1
  have hp := (code_iff c).1 h.1
  refine ⟨(code_iff _).2 fun j hj => ?_, fun p hp' => ?_⟩
  · have hj2 : j < (pl 2 c.l[q]).length := by rw [eu]; simpa using hj
    have hlen : 1 + A.length + j < (pl 1 c).length := by rw [ep]; simp; omega
    have hh := hp (1 + A.length + j) hlen
    have eq? : (pl 1 c)[1 + A.length + j]? = (pl 2 c.l[q])[j]? := by
      rw [ep, show 1 + A.length + j = (A.length + j) + 1 from by omega, List.getElem?_cons_succ, List.getElem?_append_left (by simp; omega), List.getElem?_append_right (by omega)]
      simp
    have eidx : (pl 1 c)[1 + A.length + j] = (pl 2 c.l[q])[j] := by
      rw [List.getElem?_eq_getElem hlen, List.getElem?_eq_getElem hj2] at eq?
      injection eq?
    have eel : (pl 2 c.l[q])[j] = ((pl 1 c.l[q])[j].1 + 1, (pl 1 c.l[q])[j].2) := by simp [eu]
    rw [eidx, eel] at hh
    exact ⟨by have := hh.1; omega, by have := hh.2.1; simp only at this; omega, hh.2.2.1, hh.2.2.2⟩
  · have hm : (p.1 + 1, p.2) ∈ pl 2 c.l[q] := by rw [eu, List.mem_map]; exact ⟨p, hp', rfl⟩
    exact h.2 (p.1 + 1, p.2) (by rw [ep]; exact List.mem_cons_of_mem _ (List.mem_append_left _ (List.mem_append_right _ hm)))
theorem Gd.one {k i : Int} {b : Bool} {s : ByteArray} (hk : 1 ≤ k ∧ k ≤ 6) (hf : Fault.fm (.mk k b i s [] []) = true) (hi : rg i) : Gd (.mk k b i s [] []) := by
  have e : pl 1 (.mk k b i s [] []) = [(1, .mk k b i s [] [])] := by simp [pl, plL]
  refine ⟨(code_iff _).2 fun j hj => ?_, fun p hp => ?_⟩
  · have hj0 : j = 0 := by rw [e] at hj; simpa using hj
    subst hj0
    simp only [e, List.getElem_cons_zero]
    exact ⟨by omega, by omega, hk, hf⟩
  · rw [e] at hp
    simp only [List.mem_cons, List.not_mem_nil, or_false] at hp
    rw [hp]
    exact hi
theorem bad_low (s : ByteArray) (h : ∀ j, j < s.size → at' s j < 128) : ∀ (k i : Nat), s.size - i ≤ k → UBase.bad s i = none := by
  intro k
  induction k with
  | zero => intro i hk; rw [UBase.bad, if_neg (by omega)]
  | succ k ih =>
    intro i hk
    rw [UBase.bad]
    by_cases hi : i < s.size
    · have e : UBase.len s i = 1 := by unfold UBase.len; rw [if_pos (h i hi)]
      rw [if_pos hi, if_neg (by omega), e]
      exact ih (i + 1) (by omega)
    · rw [if_neg hi]
theorem tg_low {L : List UInt8} (h : ∀ c ∈ L, c.toNat < 128) (hl : L.length ≤ 4096) : Pure.tg ⟨L.toArray⟩ = true := by
  have e : UBase.bad ⟨L.toArray⟩ 0 = none := bad_low _ (fun j hj => by
    have hj' : j < L.length := hj
    rw [USmall.at_list]
    simp only [List.getElem?_eq_getElem hj']
    exact h _ (List.getElem_mem hj')) _ 0 (Nat.le_refl _)
  have hs : (⟨L.toArray⟩ : ByteArray).size = L.length := rfl
  unfold Pure.tg verr
  rw [if_pos e, hs]
  simp [hl]
theorem dec_low : ∀ (u : Nat), ∀ c ∈ Lib.decDigits u, c.toNat < 128 := by
  intro u
  induction u using Nat.strongRecOn with
  | _ u ih =>
    intro c hc
    rw [Lib.decDigits] at hc
    by_cases h : u < 10
    · rw [dif_pos h] at hc
      simp only [List.mem_cons, List.not_mem_nil, or_false] at hc
      subst hc
      simp; omega
    · rw [dif_neg h, List.mem_append] at hc
      rcases hc with hc | hc
      · exact ih (u / 10) (by omega) c hc
      · simp only [List.mem_cons, List.not_mem_nil, or_false] at hc
        subst hc
        simp; omega
theorem itoa_low (i : Int) : ∀ c ∈ Lib.itoa i, c.toNat < 128 := by
  intro c hc
  unfold Lib.itoa at hc
  by_cases h : i < 0
  · rw [if_pos h] at hc
    rcases List.mem_cons.1 hc with rfl | hc
    · decide
    · exact dec_low _ c hc
  · rw [if_neg h] at hc; exact dec_low _ c hc
end Go.Proofs.YtpaigpijaifeoaaGreatDoor.JGd

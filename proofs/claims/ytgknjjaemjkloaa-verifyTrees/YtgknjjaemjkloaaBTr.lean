/- The blocks of a program that is taken are a tree (package verify), plainly. -/
import Derived.Test.YtgknjjaemjkloaaBVf
namespace Go.Proofs.Ytgknjjaemjkloaa.BTr
open Go.Proofs.Ytgknjjaemjkloaa.BPl Go.Proofs.Ytgknjjaemjkloaa.BGd Go.Proofs.Ytgknjjaemjkloaa.BVf Go.Proofs.Ytgknjjaemjkloaa.BBf
open Go.Proofs.Ytgknjjaemjkloaa.YPl (Oq Bk Pg)
set_option linter.unusedVariables false

/-- What is owned stays as it is. -/
def Kh (H H' : List Ar) : Prop := H'.length = H.length ∧ ∀ n, (H.getD n ar0).ow = true → H'.getD n ar0 = H.getD n ar0
theorem Kh.refl (H : List Ar) : Kh H H := ⟨rfl, fun _ _ => rfl⟩
theorem Kh.trans {A B C : List Ar} (h : Kh A B) (k : Kh B C) : Kh A C := ⟨k.1.trans h.1, fun n hn => by
  have h1 := h.2 n hn
  exact (k.2 n (by rw [h1]; exact hn)).trans h1⟩
theorem getD_set (H : List Ar) (m n : Nat) (A : Ar) (hm : m < H.length) : (H.set m A).getD n ar0 = if n = m then A else H.getD n ar0 := by
  rw [List.getD_eq_getElem?_getD, List.getD_eq_getElem?_getD, List.getElem?_set]
  by_cases h : m = n
  · subst h
    simp [hm]
  · rw [if_neg h, if_neg (fun e => h e.symm)]
theorem kh_set {H : List Ar} {m : Nat} {A : Ar} (hm : m < H.length) (ho : (H.getD m ar0).ow = false) : Kh H (H.set m A) := ⟨by simp, fun n hn => by
  rw [getD_set H m n A hm]
  split
  · rename_i e
    rw [e, ho] at hn
    cases hn
  · rfl⟩
theorem clm_kh {nb : Nat} {A : Ar} : ∀ (l : List Int) (H H' : List Ar), clm nb A l H = some H' → Kh H H'
  | [], H, H', h => by cases h; exact Kh.refl _
  | n :: r, H, H', h => by
    unfold clm at h
    split at h
    · cases h
    · rename_i hn
      have h1 : ¬ (H.length : Int) ≤ n := fun e => hn (.inr (.inl e))
      have h2 : ¬ n ≤ (nb : Int) := fun e => hn (.inl e)
      have h3 : (H.getD n.toNat ar0).ow = false := by
        cases e : (H.getD n.toNat ar0).ow with
        | false => rfl
        | true => exact (hn (.inr (.inr e))).elim
      exact (kh_set (by omega) h3).trans (clm_kh r _ _ h)
section
variable {S : Sh} {nb : Nat} {ops : List Oq}
theorem opf_kh {b : Bd} {H H' : List Ar} {p : Nat} {o : Oq} (h : opf S nb ops b H p o = .ok H') : Kh H H' := clm_kh _ _ _ (opf_ok h).2.2.2.2.1
theorem gos_kh : ∀ (l : List Oq) (i : Nat) (b : Bd) (H : List Ar) (be : Bd) (He : List Ar), gos S nb ops i l b H = .ok (be, He) → Kh H He
  | [], i, b, H, be, He, h => by rw [gos] at h; cases h; exact Kh.refl _
  | o :: r, i, b, H, be, He, h => by
    rw [gos] at h
    cases e : opf S nb ops b H i o with
    | error c => rw [e] at h; cases h
    | ok H' => rw [e] at h; exact (opf_kh e).trans (gos_kh r _ _ _ _ _ h)
/-- A block that is taken. -/
theorem blf_ok {k : Bk} {H H' : List Ar} (h : blf S nb k H = .ok H') : (H.getD nb ar0).ow = true ∧ k.d = (H.getD nb ar0).st ∧ ∃ be, gos S nb k.o 0 (k.o.drop 0) ⟨H.getD nb ar0, 0, [], 0⟩ H = .ok (be, H') := by
  unfold blf at h
  split at h
  · cases h
  split at h
  · cases h
  rename_i h1 h2
  cases e : gos S nb k.o 0 k.o ⟨H.getD nb ar0, 0, [], 0⟩ H with
  | error q => rw [e] at h; cases h
  | ok y =>
    obtain ⟨be, He⟩ := y
    rw [e] at h
    dsimp only at h
    split at h
    · cases h
    split at h
    · cases h
    split at h
    · cases h
    · cases h
      refine ⟨by simpa using h1, Decidable.not_not.1 h2, be, ?_⟩
      rw [List.drop_zero]
      exact e
end
theorem bls_ok {S : Sh} {l : List Bk} {q : Nat} {H : List Ar} (hq : q < l.length) (h : (bls S q (l.drop q) H).2.2 = 0) : ∃ H', blf S q l[q] H = .ok H' ∧ (bls S (q + 1) (l.drop (q + 1)) H').2.2 = 0 := by
  rw [bls_step hq] at h
  cases e : blf S q l[q] H with
  | error c =>
    rw [e] at h
    exact (blf_ne e h).elim
  | ok H' =>
    rw [e] at h
    exact ⟨H', rfl, h⟩
/-- Blocks to come have the depth that was left for them. -/
theorem fut {S : Sh} {l : List Bk} : ∀ (m q : Nat) (H : List Ar), l.length - q = m → (bls S q (l.drop q) H).2.2 = 0 → ∀ n (hn : n < l.length), q ≤ n → (H.getD n ar0).ow = true → l[n].d = (H.getD n ar0).st
  | 0, q, H, hm, h, n, hn, hq, ho => by omega
  | m + 1, q, H, hm, h, n, hn, hq, ho => by
    obtain ⟨H', h1, h2⟩ := bls_ok (by omega) h
    obtain ⟨g1, g2, be, g3⟩ := blf_ok h1
    by_cases e : q = n
    · subst e
      exact g2
    · have hk := gos_kh _ _ _ _ _ _ g3
      have := fut m (q + 1) H' (by omega) h2 n hn (by omega) (by rw [hk.2 n ho]; exact ho)
      rw [hk.2 n ho] at this
      exact this
/-- Homes and how often a block was met. -/
def Rl (H : List Ar) (U : List Int) : Prop := U.length = H.length ∧ 0 < H.length ∧ U.getD 0 0 = 0 ∧ H.getD 0 ar0 = ⟨true, false, 1, 0, 0⟩ ∧ ∀ n, 0 < n → U.getD n 0 = if (H.getD n ar0).ow = true then 1 else 0
theorem getI_set (U : List Int) (m n : Nat) (z : Int) (hm : m < U.length) : (U.set m z).getD n 0 = if n = m then z else U.getD n 0 := by
  rw [List.getD_eq_getElem?_getD, List.getD_eq_getElem?_getD, List.getElem?_set]
  by_cases h : m = n
  · subst h
    simp [hm]
  · rw [if_neg h, if_neg (fun e => h e.symm)]
theorem rl_set {H : List Ar} {U : List Int} {m : Nat} {A : Ar} (h : Rl H U) (hm0 : 0 < m) (hm : m < H.length) (hA : A.ow = true) : Rl (H.set m A) (U.set m 1) := by
  obtain ⟨h1, h2, h3, h4, h5⟩ := h
  refine ⟨by simp [h1], by simpa using h2, ?_, ?_, fun n hn => ?_⟩
  · rw [getI_set U m 0 1 (by omega), if_neg (by omega)]; exact h3
  · rw [getD_set H m 0 A hm, if_neg (by omega)]; exact h4
  · rw [getI_set U m n 1 (by omega), getD_set H m n A hm]
    by_cases e : n = m
    · rw [if_pos e, if_pos e, if_pos hA]
    · rw [if_neg e, if_neg e]
      exact h5 n hn
theorem rl_0 {n : Nat} (hn : 0 < n) : Rl (hm0 n) (List.replicate n 0) := by
  unfold hm0
  refine ⟨by simp, by simpa using hn, ?_, ?_, fun k hk => ?_⟩
  · rw [List.getD_eq_getElem?_getD, List.getElem?_replicate]; split <;> rfl
  · rw [getD_set _ 0 0 _ (by simpa using hn), if_pos rfl]
  · have e1 : (List.replicate n (0 : Int)).getD k 0 = 0 := by rw [List.getD_eq_getElem?_getD, List.getElem?_replicate]; split <;> rfl
    have e2 : (List.replicate n ar0).getD k ar0 = ar0 := by rw [List.getD_eq_getElem?_getD, List.getElem?_replicate]; split <;> rfl
    rw [e1, getD_set _ 0 k _ (by simpa using hn), if_neg (show ¬ k = 0 by omega), e2]
    rfl
/-- A body goes on: its stack is no less than its block's depth. -/
theorem gos_pass {S : Sh} {nb : Nat} {ops : List Oq} {p : Nat} (hp : p < ops.length) {b : Bd} {H : List Ar} {be : Bd} {He : List Ar} (h : gos S nb ops p (ops.drop p) b H = .ok (be, He)) : ∃ H', opf S nb ops b H p ops[p] = .ok H' ∧ gos S nb ops (p + 1) (ops.drop (p + 1)) (pass b p ops[p]) H' = .ok (be, He) := by
  rw [gos_step hp] at h
  cases e : opf S nb ops b H p ops[p] with
  | error c => rw [e] at h; cases h
  | ok H' => rw [e] at h; exact ⟨H', rfl, h⟩
def Sd (d : Int) (b : Bd) : Prop := d + b.lt + b.ou.sum = b.ar.st
theorem sd_pass {S : Sh} {nb : Nat} {ops : List Oq} {p : Nat} {b : Bd} {H H' : List Ar} {o : Oq} {d : Int} (h : opf S nb ops b H p o = .ok H') (hs : Sd d b) : Sd d (pass b p o) := by
  obtain ⟨h1, h2, h3, h4, h5, h6, h7⟩ := opf_ok h
  unfold Sd at *
  by_cases k3 : o.k = 3
  · rw [pass_3 k3]
    show d + 0 + (b.ou ++ [b.lt]).sum = b.ar.st
    rw [List.sum_append]
    simp
    omega
  by_cases k6 : o.k = 6
  · obtain ⟨h8, h9⟩ := stands_close h4 k6
    obtain ⟨l, x, e⟩ := snoc _ h8
    rw [pass_6 k6 e]
    rw [e, List.sum_append] at hs
    simp at hs
    show d + x + l.sum = b.ar.st
    omega
  by_cases k11 : o.k = 11
  · rw [pass_11 k11]
    show d + (b.lt + 1) + b.ou.sum = b.ar.st + 1
    omega
  by_cases k12 : o.k = 12
  · rw [pass_12 k12]
    show d + (b.lt - o.a) + b.ou.sum = b.ar.st - o.a
    omega
  rw [pass_0 k3 k6 k11 k12]
  exact hs
end Go.Proofs.Ytgknjjaemjkloaa.BTr

/- One block's last operation gone (package verify), plainly. -/
import Derived.Test.YtgknjjaemjkloaaBVf
namespace Go.Proofs.Ytgknjjaemjkloaa.BTr
open Go.Proofs.Ytgknjjaemjkloaa.BPl Go.Proofs.Ytgknjjaemjkloaa.BGd Go.Proofs.Ytgknjjaemjkloaa.BVf Go.Proofs.Ytgknjjaemjkloaa.BBf
open Go.Proofs.Ytgknjjaemjkloaa.YPl (Oq Bk Pg)
set_option linter.unusedVariables false

/-- What is owned stays as it is. -/
def Kh (H H' : List Ar) : Prop := H'.length = H.length ∧ ∀ n, (H.getD n ar0).ow = true → H'.getD n ar0 = H.getD n ar0
theorem Kh.refl (H : List Ar) : Kh H H := ⟨rfl, fun _ _ => rfl⟩
theorem Kh.trans {A B C : List Ar} (h : Kh A B) (k : Kh B C) : Kh A C := ⟨k.1.trans h.1, fun n hn => by
  have h1 := h.2 n hn
  exact (k.2 n (by rw [h1]; exact hn)).trans h1⟩
theorem getD_set (H : List Ar) (m n : Nat) (A : Ar) (hm : m < H.length) : (H.set m A).getD n ar0 = if n = m then A else H.getD n ar0 := by
  rw [List.getD_eq_getElem?_getD, List.getD_eq_getElem?_getD, List.getElem?_set]
  by_cases h : m = n
  · subst h
    simp [hm]
  · rw [if_neg h, if_neg (fun e => h e.symm)]
theorem kh_set {H : List Ar} {m : Nat} {A : Ar} (hm : m < H.length) (ho : (H.getD m ar0).ow = false) : Kh H (H.set m A) := ⟨by simp, fun n hn => by
  rw [getD_set H m n A hm]
  split
  · rename_i e
    rw [e, ho] at hn
    cases hn
  · rfl⟩
theorem clm_kh {nb : Nat} {A : Ar} : ∀ (l : List Int) (H H' : List Ar), clm nb A l H = some H' → Kh H H'
  | [], H, H', h => by cases h; exact Kh.refl _
  | n :: r, H, H', h => by
    unfold clm at h
    split at h
    · cases h
    · rename_i hn
      have h1 : ¬ (H.length : Int) ≤ n := fun e => hn (.inr (.inl e))
      have h2 : ¬ n ≤ (nb : Int) := fun e => hn (.inl e)
      have h3 : (H.getD n.toNat ar0).ow = false := by
        cases e : (H.getD n.toNat ar0).ow with
        | false => rfl
        | true => exact (hn (.inr (.inr e))).elim
      exact (kh_set (by omega) h3).trans (clm_kh r _ _ h)
section
variable {S : Sh} {nb : Nat} {ops : List Oq}
theorem opf_kh {b : Bd} {H H' : List Ar} {p : Nat} {o : Oq} (h : opf S nb ops b H p o = .ok H') : Kh H H' := clm_kh _ _ _ (opf_ok h).2.2.2.2.1
theorem gos_kh : ∀ (l : List Oq) (i : Nat) (b : Bd) (H : List Ar) (be : Bd) (He : List Ar), gos S nb ops i l b H = .ok (be, He) → Kh H He
  | [], i, b, H, be, He, h => by rw [gos] at h; cases h; exact Kh.refl _
  | o :: r, i, b, H, be, He, h => by
    rw [gos] at h
    cases e : opf S nb ops b H i o with
    | error c => rw [e] at h; cases h
    | ok H' => rw [e] at h; exact (opf_kh e).trans (gos_kh r _ _ _ _ _ h)
/-- A block that is taken. -/
theorem blf_ok {k : Bk} {H H' : List Ar} (h : blf S nb k H = .ok H') : (H.getD nb ar0).ow = true ∧ k.d = (H.getD nb ar0).st ∧ ∃ be, gos S nb k.o 0 (k.o.drop 0) ⟨H.getD nb ar0, 0, [], 0⟩ H = .ok (be, H') := by
  unfold blf at h
  split at h
  · cases h
  split at h
  · cases h
  rename_i h1 h2
  cases e : gos S nb k.o 0 k.o ⟨H.getD nb ar0, 0, [], 0⟩ H with
  | error q => rw [e] at h; cases h
  | ok y =>
    obtain ⟨be, He⟩ := y
    rw [e] at h
    dsimp only at h
    split at h
    · cases h
    split at h
    · cases h
    split at h
    · cases h
    · cases h
      refine ⟨by simpa using h1, Decidable.not_not.1 h2, be, ?_⟩
      rw [List.drop_zero]
      exact e
end
theorem bls_ok {S : Sh} {l : List Bk} {q : Nat} {H : List Ar} (hq : q < l.length) (h : (bls S q (l.drop q) H).2.2 = 0) : ∃ H', blf S q l[q] H = .ok H' ∧ (bls S (q + 1) (l.drop (q + 1)) H').2.2 = 0 := by
  rw [bls_step hq] at h
  cases e : blf S q l[q] H with
  | error c =>
    rw [e] at h
    exact (blf_ne e h).elim
  | ok H' =>
    rw [e] at h
    exact ⟨H', rfl, h⟩
/-- Blocks to come have the depth that was left for them. -/
theorem fut {S : Sh} {l : List Bk} : ∀ (m q : Nat) (H : List Ar), l.length - q = m → (bls S q (l.drop q) H).2.2 = 0 → ∀ n (hn : n < l.length), q ≤ n → (H.getD n ar0).ow = true → l[n].d = (H.getD n ar0).st
  | 0, q, H, hm, h, n, hn, hq, ho => by omega
  | m + 1, q, H, hm, h, n, hn, hq, ho => by
    obtain ⟨H', h1, h2⟩ := bls_ok (by omega) h
    obtain ⟨g1, g2, be, g3⟩ := blf_ok h1
    by_cases e : q = n
    · subst e
      exact g2
    · have hk := gos_kh _ _ _ _ _ _ g3
      have := fut m (q + 1) H' (by omega) h2 n hn (by omega) (by rw [hk.2 n ho]; exact ho)
      rw [hk.2 n ho] at this
      exact this
/-- Homes and how often a block was met. -/
def Rl (H : List Ar) (U : List Int) : Prop := U.length = H.length ∧ 0 < H.length ∧ U.getD 0 0 = 0 ∧ H.getD 0 ar0 = ⟨true, false, 1, 0, 0⟩ ∧ ∀ n, 0 < n → U.getD n 0 = if (H.getD n ar0).ow = true then 1 else 0
theorem getI_set (U : List Int) (m n : Nat) (z : Int) (hm : m < U.length) : (U.set m z).getD n 0 = if n = m then z else U.getD n 0 := by
  rw [List.getD_eq_getElem?_getD, List.getD_eq_getElem?_getD, List.getElem?_set]
  by_cases h : m = n
  · subst h
    simp [hm]
  · rw [if_neg h, if_neg (fun e => h e.symm)]
theorem rl_set {H : List Ar} {U : List Int} {m : Nat} {A : Ar} (h : Rl H U) (hm0 : 0 < m) (hm : m < H.length) (hA : A.ow = true) : Rl (H.set m A) (U.set m 1) := by
  obtain ⟨h1, h2, h3, h4, h5⟩ := h
  refine ⟨by simp [h1], by simpa using h2, ?_, ?_, fun n hn => ?_⟩
  · rw [getI_set U m 0 1 (by omega), if_neg (by omega)]; exact h3
  · rw [getD_set H m 0 A hm, if_neg (by omega)]; exact h4
  · rw [getI_set U m n 1 (by omega), getD_set H m n A hm]
    by_cases e : n = m
    · rw [if_pos e, if_pos e, if_pos hA]
    · rw [if_neg e, if_neg e]
      exact h5 n hn
theorem rl_0 {n : Nat} (hn : 0 < n) : Rl (hm0 n) (List.replicate n 0) := by
  unfold hm0
  refine ⟨by simp, by simpa using hn, ?_, ?_, fun k hk => ?_⟩
  · rw [List.getD_eq_getElem?_getD, List.getElem?_replicate]; split <;> rfl
  · rw [getD_set _ 0 0 _ (by simpa using hn), if_pos rfl]
  · have e1 : (List.replicate n (0 : Int)).getD k 0 = 0 := by rw [List.getD_eq_getElem?_getD, List.getElem?_replicate]; split <;> rfl
    have e2 : (List.replicate n ar0).getD k ar0 = ar0 := by rw [List.getD_eq_getElem?_getD, List.getElem?_replicate]; split <;> rfl
    rw [e1, getD_set _ 0 k _ (by simpa using hn), if_neg (show ¬ k = 0 by omega), e2]
    rfl
/-- A body goes on: its stack is no less than its block's depth. -/
theorem gos_pass {S : Sh} {nb : Nat} {ops : List Oq} {p : Nat} (hp : p < ops.length) {b : Bd} {H : List Ar} {be : Bd} {He : List Ar} (h : gos S nb ops p (ops.drop p) b H = .ok (be, He)) : ∃ H', opf S nb ops b H p ops[p] = .ok H' ∧ gos S nb ops (p + 1) (ops.drop (p + 1)) (pass b p ops[p]) H' = .ok (be, He) := by
  rw [gos_step hp] at h
  cases e : opf S nb ops b H p ops[p] with
  | error c => rw [e] at h; cases h
  | ok H' => rw [e] at h; exact ⟨H', rfl, h⟩
def Sd (d : Int) (b : Bd) : Prop := d + b.lt + b.ou.sum = b.ar.st
theorem sd_pass {S : Sh} {nb : Nat} {ops : List Oq} {p : Nat} {b : Bd} {H H' : List Ar} {o : Oq} {d : Int} (h : opf S nb ops b H p o = .ok H') (hs : Sd d b) : Sd d (pass b p o) := by
  obtain ⟨h1, h2, h3, h4, h5, h6, h7⟩ := opf_ok h
  unfold Sd at *
  by_cases k3 : o.k = 3
  · rw [pass_3 k3]
    show d + 0 + (b.ou ++ [b.lt]).sum = b.ar.st
    rw [List.sum_append]
    simp
    omega
  by_cases k6 : o.k = 6
  · obtain ⟨h8, h9⟩ := stands_close h4 k6
    obtain ⟨l, x, e⟩ := snoc _ h8
    rw [pass_6 k6 e]
    rw [e, List.sum_append] at hs
    simp at hs
    show d + x + l.sum = b.ar.st
    omega
  by_cases k11 : o.k = 11
  · rw [pass_11 k11]
    show d + (b.lt + 1) + b.ou.sum = b.ar.st + 1
    omega
  by_cases k12 : o.k = 12
  · rw [pass_12 k12]
    show d + (b.lt - o.a) + b.ou.sum = b.ar.st - o.a
    omega
  rw [pass_0 k3 k6 k11 k12]
  exact hs
end Go.Proofs.Ytgknjjaemjkloaa.BTr

namespace Go.Proofs.Ytgknjjaemjkloaa.BMo
open Go.Proofs.Ytgknjjaemjkloaa.BPl Go.Proofs.Ytgknjjaemjkloaa.BGd Go.Proofs.Ytgknjjaemjkloaa.BVf Go.Proofs.Ytgknjjaemjkloaa.BBf Go.Proofs.Ytgknjjaemjkloaa.BTr Go.Proofs.Ytgknjjaemjkloaa.BSt
open Go.Proofs.Ytgknjjaemjkloaa.YPl (Oq Bk Pg)
open Go.Proofs.Ytgknjjaemjkloaa.TBase (T)
open Go.Proofs.Ytgknjjaemjkloaa.CPu (Ins)
set_option linter.unusedVariables false

/-- The same texts, more codes and statics. -/
def Sx (S S' : Sh) : Prop := S'.t = S.t ∧ (∃ a, S'.n = S.n ++ a) ∧ ∃ b, S'.d = S.d ++ b
theorem isN_more {i : Int} {n n' : Nat} (h : isN i n = true) (hn : n ≤ n') : isN i n' = true := by
  unfold isN at *
  obtain ⟨h1, h2⟩ := band h
  have h2 : i < (n : Int) := by simpa using h2
  rw [h1]
  simp only [cond_true, decide_eq_true_eq]
  omega
theorem getD_more {α : Type} {l a : List α} {i : Int} {d : α} (h : isN i l.length = true) : (l ++ a).getD i.toNat d = l.getD i.toNat d := by
  unfold isN at h
  obtain ⟨h1, h2⟩ := band h
  have h1 : 0 ≤ i := by simpa using h1
  have h2 : i < (l.length : Int) := by simpa using h2
  rw [List.getD_eq_getElem?_getD, List.getD_eq_getElem?_getD, List.getElem?_append_left (by omega)]
theorem zr_more {n n' : Bool} {a b c : Int} {l : Nat} (hn : n = true → n' = true) (h : zr n a b c l = true) : zr n' a b c l = true := by
  have h1 := zr_true h
  rw [hn h1]
  rw [h1] at h
  exact h
section
variable {S S' : Sh} {nb : Nat} {ops : List Oq}
theorem nn (hx : Sx S S') {i : Int} (h : isN i S.n.length = true) : isN i S'.n.length = true := by
  obtain ⟨-, ⟨a, ha⟩, -⟩ := hx
  rw [ha, List.length_append]
  exact isN_more h (by omega)
theorem nd (hx : Sx S S') {i : Int} (h : isN i S.d.length = true) : isN i S'.d.length = true := by
  obtain ⟨-, -, ⟨a, ha⟩⟩ := hx
  rw [ha, List.length_append]
  exact isN_more h (by omega)
theorem nda_more (hx : Sx S S') {i : Int} (h : isN i S.n.length = true) : nda S' i = nda S i := by
  obtain ⟨-, ⟨a, ha⟩, -⟩ := hx
  unfold nda
  rw [ha]
  exact getD_more h
theorem dpa_more (hx : Sx S S') {i : Int} (h : isN i S.d.length = true) : dpa S' i = dpa S i := by
  obtain ⟨-, -, ⟨a, ha⟩⟩ := hx
  unfold dpa
  rw [ha]
  exact getD_more h
theorem txa_more (hx : Sx S S') (i : Int) : txa S' i = txa S i := by unfold txa; rw [hx.1]
theorem tg_more (hx : Sx S S') (i : Int) : isTg S' i = isTg S i := by unfold isTg; rw [txa_more hx, hx.1]
theorem isV_more (hx : Sx S S') {o : Oq} (h : isV S o = true) : isV S' o = true := by
  unfold isV at *
  cases e : o.k == 4 with
  | true => rw [e] at h; rw [hx.1]; exact h
  | false => rw [e] at h; exact nn hx h
theorem both {a b a' b' : Bool} (h : (bif a then b else false) = true) (ha : a = true → a' = true) (hb : b = true → b' = true) : (bif a' then b' else false) = true := by
  obtain ⟨h1, h2⟩ := band h
  rw [ha h1, hb h2]
  rfl
theorem fits_more (hx : Sx S S') {o : Oq} (h : fits S o = true) : fits S' o = true := by
  unfold fits at *
  split at h
  · rename_i e; rw [if_pos e, hx.1]; exact h
  rename_i e1; rw [if_neg e1]
  split at h
  · rename_i e; rw [if_pos e]; exact zr_more (fun h => both h (isV_more hx) (fun h => by rw [tg_more hx]; exact h)) h
  rename_i e2; rw [if_neg e2]
  split at h
  · rename_i e; rw [if_pos e, tg_more hx]; exact h
  rename_i e3; rw [if_neg e3]
  split at h
  · rename_i e; rw [if_pos e]; exact zr_more (fun h => both h (nn hx) (nn hx)) h
  rename_i e4; rw [if_neg e4]
  split at h
  · rename_i e; rw [if_pos e]; exact zr_more (nn hx) h
  rename_i e5; rw [if_neg e5]
  split at h
  · rename_i e; rw [if_pos e]; exact zr_more (nn hx) h
  rename_i e6; rw [if_neg e6]
  split at h
  · rename_i e
    rw [if_pos e]
    refine zr_more (fun h => both h id fun h => ?_) h
    cases e2 : o.l.any fun i => !isN i S'.n.length with
    | false => rfl
    | true =>
      obtain ⟨z, hz, hz2⟩ := List.any_eq_true.1 e2
      have : (o.l.any fun i => !isN i S.n.length) = true := List.any_eq_true.2 ⟨z, hz, by
        cases e3 : isN z S.n.length with
        | false => rfl
        | true => rw [nn hx e3] at hz2; exact hz2⟩
      rw [this] at h
      cases h
  rename_i e7; rw [if_neg e7]
  split at h
  · rename_i e; rw [if_pos e]; exact zr_more (nd hx) h
  rename_i e8; rw [if_neg e8]
  exact h
theorem reaches_more (hx : Sx S S') {st : Int} {o : Oq} (hf : fits S o = true) (h : reaches S st o = true) : reaches S' st o = true := by
  unfold reaches at *
  split at h
  · rename_i e; rw [if_pos e, nda_more hx (fits_codeB hf (.inl e))]; exact h
  rename_i e1; rw [if_neg e1]
  split at h
  · rename_i e
    rw [if_pos e]
    have hl := (fits_list hf e).2
    have : (o.l.any fun i => decide (st < nda S' i)) = (o.l.any fun i => decide (st < nda S i)) := by
      rw [Bool.eq_iff_iff, List.any_eq_true, List.any_eq_true]
      constructor
      · rintro ⟨z, hz, h⟩; exact ⟨z, hz, by rw [nda_more hx (hl z hz)] at h; exact h⟩
      · rintro ⟨z, hz, h⟩; exact ⟨z, hz, by rw [nda_more hx (hl z hz)]; exact h⟩
    rw [this]
    exact h
  rename_i e2; rw [if_neg e2]
  split at h
  · rename_i e; rw [if_pos e, nda_more hx (fits_codeB hf (.inr e)), nda_more hx (fits_code hf (.inr (.inr (.inl e))))]; exact h
  rename_i e3; rw [if_neg e3]
  split at h
  · rename_i e; rw [if_pos e, nda_more hx (fits_code hf (by omega))]; exact h
  rename_i e4; rw [if_neg e4]
theorem stands_more (hx : Sx S S') {b : Bd} {p : Nat} {o : Oq} (hf : fits S o = true) (h : stands S ops b p o = true) : stands S' ops b p o = true := by
  have hr : rises S' ops p o = rises S ops p o := by unfold rises; rw [txa_more hx, txa_more hx]
  unfold stands at *
  rw [hr]
  by_cases h7 : o.k = 7
  · rw [dpa_more hx (fits_static hf h7)]
    exact h
  · simp only [if_neg h7] at h ⊢
    exact h
theorem opf_more (hx : Sx S S') {b : Bd} {H H' : List Ar} {p : Nat} {o : Oq} (h : opf S nb ops b H p o = .ok H') : opf S' nb ops b H p o = .ok H' := by
  obtain ⟨h1, h2, h3, h4, h5, h6, h7⟩ := opf_ok h
  unfold opf
  rw [if_neg (by rw [fits_more hx h2]; simp [h1]), if_neg (by rw [reaches_more hx h2 h3]; decide), if_neg (by rw [stands_more hx h2 h4]; decide), h5]
  dsimp only
  rw [if_neg (by omega), if_neg h7]
theorem gos_more (hx : Sx S S') : ∀ (l : List Oq) (i : Nat) (b : Bd) (H : List Ar) (y : Bd × List Ar), gos S nb ops i l b H = .ok y → gos S' nb ops i l b H = .ok y
  | [], i, b, H, y, h => h
  | o :: r, i, b, H, y, h => by
    rw [gos] at h ⊢
    cases e : opf S nb ops b H i o with
    | error c => rw [e] at h; cases h
    | ok H' =>
      rw [e] at h
      rw [opf_more hx e]
      exact gos_more hx r _ _ _ _ h
def nou (k : Bk) : Bk := ⟨k.d, k.o, []⟩
theorem blf_more (hx : Sx S S') {k : Bk} {H H' : List Ar} (h : blf S nb k H = .ok H') : blf S' nb (nou k) H = .ok H' := by
  obtain ⟨kd, ko, ku⟩ := k
  show blf S' nb ⟨kd, ko, []⟩ H = .ok H'
  unfold blf at *
  dsimp only at *
  split at h
  · cases h
  rename_i h1; rw [if_neg h1]
  split at h
  · cases h
  rename_i h2; rw [if_neg h2]
  cases e : gos S nb ko 0 ko ⟨H.getD nb ar0, 0, [], 0⟩ H with
  | error q => rw [e] at h; cases h
  | ok y =>
    obtain ⟨be, He⟩ := y
    rw [e] at h
    rw [gos_more hx _ _ _ _ _ e]
    dsimp only at h ⊢
    split at h
    · cases h
    rename_i h3; rw [if_neg h3]
    split at h
    · cases h
    rename_i h4; rw [if_neg h4]
    split at h
    · cases h
    cases h
    rw [if_neg (by rw [upd]; simp)]
end
theorem bls_more {S S' : Sh} (hx : Sx S S') : ∀ (l : List Bk) (q : Nat) (H : List Ar), (bls S q l H).2.2 = 0 → (bls S' q (l.map nou) H).2.2 = 0
  | [], q, H, h => by rw [List.map_nil, bls]
  | k :: r, q, H, h => by
    rw [bls] at h
    rw [List.map_cons, bls]
    cases e : blf S q k H with
    | error c => rw [e] at h; exact (blf_ne e h).elim
    | ok H' =>
      rw [e] at h
      rw [blf_more hx e]
      exact bls_more hx r _ _ h
theorem ixf_all {α : Type} {f : α → Bool} : ∀ (l : List α) (i : Nat), (∀ y ∈ l, f y = true) → ixf f i l = -1
  | [], _, _ => rfl
  | z :: r, i, h => by
    rw [ixf, if_pos (h z (List.mem_cons_self ..))]
    exact ixf_all r _ fun y hy => h y (List.mem_cons_of_mem _ hy)
theorem fwr_all {α : Type} {lim : Nat} {f : α → Bool} {l : List α} (h : l.length ≤ lim) (hf : ∀ y ∈ l, f y = true) : ¬ 0 ≤ fwr lim f l := by
  unfold fwr
  rw [List.take_of_length_le h, ixf_all l 0 hf, if_neg (by omega)]
  decide
/-- Without updates, a code and a static more. -/
def mor (x : Pg) (L : List Ins) (t : T) : Pg := ⟨x.t, x.c ++ [L], x.s ++ [t], x.b.map nou⟩
theorem vf_more {x : Pg} {L : List Ins} {t : T} (h : (vf x).2.2 = 0) (hL : CPu.ck L (x.t.length : Int) 64 = 0) (ht : elm t = true) (h1 : (x.c ++ [L]).length ≤ 8192) (h2 : (x.s ++ [t]).length ≤ 4096) : (vf (mor x L t)).2.2 = 0 := by
  unfold vf at h
  split at h
  · rename_i h0
    exact (h0 h).elim
  split at h
  · cases h
  rename_i h3 h4
  obtain ⟨⟨a1, a2⟩, ⟨a3, a4⟩, a5, a6⟩ := shf_ok (Decidable.not_not.1 h3)
  have hs : shf (mor x L t) = (0, 0) := by
    unfold shf mor
    dsimp only
    rw [if_neg (fwr_all a1 a2), if_neg (fwr_all h1 fun y hy => ?_), if_neg (fwr_all h2 fun y hy => ?_)]
    · rcases List.mem_append.1 hy with hy | hy
      · exact a6 y hy
      · rw [List.mem_singleton.1 hy]; exact ht
    · rcases List.mem_append.1 hy with hy | hy
      · simpa using a4 y hy
      · rw [List.mem_singleton.1 hy]; simpa using hL
  unfold vf
  rw [hs, if_neg (by simp), if_neg (by show ¬ (x.b.map nou = [] ∨ 8192 < (x.b.map nou).length); rw [List.length_map]; simpa using h4)]
  have hx : Sx (shd x) (shd (mor x L t)) := ⟨rfl, ⟨_, by show (x.c ++ [L]).map need = _; rw [List.map_append]; rfl⟩, _, by show (x.s ++ [t]).map _ = _; rw [List.map_append]; rfl⟩
  show (bls (shd (mor x L t)) 0 (x.b.map nou) (hm0 (x.b.map nou).length)).2.2 = 0
  rw [List.length_map]
  exact bls_more hx _ _ _ h
end Go.Proofs.Ytgknjjaemjkloaa.BMo

namespace Go.Proofs.Ytgknjjaemjkloaa.BMb
open Go.Proofs.Ytgknjjaemjkloaa.BPl Go.Proofs.Ytgknjjaemjkloaa.BGd Go.Proofs.Ytgknjjaemjkloaa.BVf Go.Proofs.Ytgknjjaemjkloaa.BBf Go.Proofs.Ytgknjjaemjkloaa.BTr Go.Proofs.Ytgknjjaemjkloaa.BSt Go.Proofs.Ytgknjjaemjkloaa.BMo
open Go.Proofs.Ytgknjjaemjkloaa.YPl (Oq Bk Pg)
set_option linter.unusedVariables false

theorem getD_app {α : Type} {H : List α} {z d : α} {n : Nat} (h : n < H.length) : (H ++ [z]).getD n d = H.getD n d := by
  rw [List.getD_eq_getElem?_getD, List.getD_eq_getElem?_getD, List.getElem?_append_left h]
theorem clm_app {nb : Nat} {A z : Ar} : ∀ (l : List Int) (H H' : List Ar), clm nb A l H = some H' → clm nb A l (H ++ [z]) = some (H' ++ [z])
  | [], H, H', h => by rw [clm] at h ⊢; cases h; rfl
  | n :: r, H, H', h => by
    unfold clm at h ⊢
    split at h
    · cases h
    · rename_i hn
      have h1 : ¬ (H.length : Int) ≤ n := fun e => hn (.inr (.inl e))
      have h2 : ¬ n ≤ (nb : Int) := fun e => hn (.inl e)
      have hl : n.toNat < H.length := by omega
      rw [getD_app hl, if_neg (by
        rintro (e | e | e)
        · exact h2 e
        · rw [List.length_append] at e; simp at e; omega
        · exact hn (.inr (.inr e))), List.set_append_left _ _ hl]
      exact clm_app r _ _ h
section
variable {S : Sh} {nb : Nat} {ops : List Oq} {z : Ar}
theorem opf_app {b : Bd} {H H' : List Ar} {p : Nat} {o : Oq} (h : opf S nb ops b H p o = .ok H') : opf S nb ops b (H ++ [z]) p o = .ok (H' ++ [z]) := by
  obtain ⟨h1, h2, h3, h4, h5, h6, h7⟩ := opf_ok h
  unfold opf
  rw [if_neg (by rw [h2]; simp [h1]), if_neg (by rw [h3]; decide), if_neg (by rw [h4]; decide), clm_app _ _ _ h5]
  dsimp only
  rw [if_neg (by omega), if_neg h7]
theorem gos_app : ∀ (l : List Oq) (i : Nat) (b : Bd) (H : List Ar) (be : Bd) (He : List Ar), gos S nb ops i l b H = .ok (be, He) → gos S nb ops i l b (H ++ [z]) = .ok (be, He ++ [z])
  | [], i, b, H, be, He, h => by rw [gos] at h ⊢; cases h; rfl
  | o :: r, i, b, H, be, He, h => by
    rw [gos] at h ⊢
    cases e : opf S nb ops b H i o with
    | error c => rw [e] at h; cases h
    | ok H' =>
      rw [e] at h
      rw [opf_app e]
      exact gos_app r _ _ _ _ _ h
theorem blf_app {k : Bk} {H H' : List Ar} (hn : nb < H.length) (h : blf S nb k H = .ok H') : blf S nb k (H ++ [z]) = .ok (H' ++ [z]) ∧ H'.length = H.length := by
  have hg : (H ++ [z]).getD nb ar0 = H.getD nb ar0 := getD_app hn
  unfold blf at *
  rw [hg]
  split at h
  · cases h
  rename_i h1; rw [if_neg h1]
  split at h
  · cases h
  rename_i h2; rw [if_neg h2]
  cases e : gos S nb k.o 0 k.o ⟨H.getD nb ar0, 0, [], 0⟩ H with
  | error q => rw [e] at h; cases h
  | ok y =>
    obtain ⟨be, He⟩ := y
    rw [e] at h
    rw [gos_app _ _ _ _ _ _ e]
    dsimp only at h ⊢
    split at h
    · cases h
    rename_i h3; rw [if_neg h3]
    split at h
    · cases h
    rename_i h4; rw [if_neg h4]
    split at h
    · cases h
    rename_i h5; rw [if_neg h5]
    cases h
    exact ⟨rfl, (gos_kh _ _ _ _ _ _ e).1⟩
end
theorem bls_app {S : Sh} (k0 : Bk) : ∀ (l : List Bk) (q : Nat) (H : List Ar), q + l.length = H.length → (bls S q l H).2.2 = 0 → bls S q (l ++ [k0]) (H ++ [ar0]) = ((H.length : Int), 0, 2205)
  | [], q, H, hq, h => by
    have e : q = H.length := by simpa using hq
    subst e
    have hg : (H ++ [ar0]).getD H.length ar0 = ar0 := by rw [List.getD_eq_getElem?_getD, List.getElem?_append_right (Nat.le_refl _)]; simp
    have hb : blf S H.length k0 (H ++ [ar0]) = .error (0, 2205) := by unfold blf; rw [hg, if_pos (show ar0.ow = false from rfl)]
    rw [List.nil_append, bls, hb]
  | k :: r, q, H, hq, h => by
    rw [List.length_cons] at hq
    rw [bls] at h
    rw [List.cons_append, bls]
    cases e : blf S q k H with
    | error c => rw [e] at h; exact (blf_ne e h).elim
    | ok H' =>
      rw [e] at h
      obtain ⟨h1, h2⟩ := blf_app (z := ar0) (by omega) e
      rw [h1]
      rw [← h2]
      exact bls_app k0 r _ _ (by omega) h
theorem hm0_app {n : Nat} (hn : 0 < n) : hm0 (n + 1) = hm0 n ++ [ar0] := by
  unfold hm0
  rw [List.replicate_succ', List.set_append_left _ _ (by simpa using hn)]
theorem vf_block {x : Pg} (k0 : Bk) (h : (vf x).2.2 = 0) : vf ⟨x.t, x.c, x.s, x.b ++ [k0]⟩ = if 8192 < x.b.length + 1 then (0, 0, 2205) else ((x.b.length : Int), 0, 2205) := by
  unfold vf at h
  split at h
  · rename_i h0
    exact (h0 h).elim
  split at h
  · cases h
  rename_i h3 h4
  have hs : shf (⟨x.t, x.c, x.s, x.b ++ [k0]⟩ : Pg) = shf x := rfl
  unfold vf
  rw [hs, if_neg h3]
  have hl : (x.b ++ [k0]).length = x.b.length + 1 := by simp
  show (if x.b ++ [k0] = [] ∨ 8192 < (x.b ++ [k0]).length then _ else bls (shd x) 0 (x.b ++ [k0]) (hm0 (x.b ++ [k0]).length)) = _
  rw [hl]
  by_cases hb : 8192 < x.b.length + 1
  · rw [if_pos (.inr hb), if_pos hb]
  · rw [if_neg (by rintro (e | e); · simp at e
                   · exact hb e), if_neg hb]
    have hn : 0 < x.b.length := List.length_pos_iff.2 fun e => h4 (.inl e)
    rw [hm0_app hn, bls_app k0 x.b 0 (hm0 x.b.length) (by simp [hm0]) h]
    simp [hm0]
end Go.Proofs.Ytgknjjaemjkloaa.BMb

namespace Go.Proofs.Ytgknjjaemjkloaa.BCu
open Go.Proofs.Ytgknjjaemjkloaa.BPl Go.Proofs.Ytgknjjaemjkloaa.BGd Go.Proofs.Ytgknjjaemjkloaa.BVf Go.Proofs.Ytgknjjaemjkloaa.BBf Go.Proofs.Ytgknjjaemjkloaa.BTr Go.Proofs.Ytgknjjaemjkloaa.BSt Go.Proofs.Ytgknjjaemjkloaa.BMo Go.Proofs.Ytgknjjaemjkloaa.BMb
open Go.Proofs.Ytgknjjaemjkloaa.YPl (Oq Bk Pg)
set_option linter.unusedVariables false

section
variable {S : Sh} {nb : Nat}
/-- The operation ahead is the same in a front part. -/
theorem opf_front {l : List Oq} {o' : Oq} {b : Bd} {H : List Ar} {p : Nat} {o : Oq} (hp : p ≤ l.length) : opf S nb (l ++ [o']) b H p o = opf S nb l b H p o := by
  have hr : rises S (l ++ [o']) p o = rises S l p o := by
    unfold rises
    by_cases h0 : p = 0
    · rw [if_pos h0, if_pos h0]
    · have e : ahd (l ++ [o']) p = ahd l p := by
        unfold ahd
        rw [List.getD_eq_getElem?_getD, List.getD_eq_getElem?_getD, List.getElem?_append_left (by omega)]
      rw [e]
  have hs : stands S (l ++ [o']) b p o = stands S l b p o := by unfold stands; rw [hr]
  unfold opf
  rw [hs]
theorem gos_front {l : List Oq} {o' : Oq} : ∀ (r : List Oq) (i : Nat) (b : Bd) (H : List Ar) (be : Bd) (He : List Ar), i + r.length = l.length → gos S nb (l ++ [o']) i (r ++ [o']) b H = .ok (be, He) → ∃ bm Hm, gos S nb l i r b H = .ok (bm, Hm) ∧ opf S nb (l ++ [o']) bm Hm l.length o' = .ok He ∧ be = pass bm l.length o'
  | [], i, b, H, be, He, hi, h => by
    have e : i = l.length := by simpa using hi
    subst e
    rw [List.nil_append, gos] at h
    cases e : opf S nb (l ++ [o']) b H l.length o' with
    | error c => rw [e] at h; cases h
    | ok H' =>
      rw [e] at h
      dsimp only at h
      rw [gos] at h
      cases h
      exact ⟨b, H, by rw [gos], e, rfl⟩
  | o :: r, i, b, H, be, He, hi, h => by
    rw [List.length_cons] at hi
    rw [List.cons_append, gos] at h
    rw [opf_front (by omega)] at h
    cases e : opf S nb l b H i o with
    | error c => rw [e] at h; cases h
    | ok H' =>
      rw [e] at h
      obtain ⟨bm, Hm, h1, h2, h3⟩ := gos_front r (i + 1) _ _ _ _ (by omega) h
      refine ⟨bm, Hm, ?_, h2, h3⟩
      rw [gos, e]
      exact h1
/-- What holds of a body as it goes on: behind a beginning or an attribute an element is open; a place that ended lies behind. -/
def Qb (l : List Oq) (p : Nat) (b : Bd) : Prop := (p ≠ 0 → ((ahd l p).k = 3 ∨ (ahd l p).k = 4 ∨ (ahd l p).k = 5) → b.ou ≠ []) ∧ (b.cl = 0 ∨ b.cl < (p : Int)) ∧ 0 ≤ b.lt
theorem qb_pass {l : List Oq} {p : Nat} {b : Bd} {H H' : List Ar} (hp : p < l.length) (h : opf S nb l b H p l[p] = .ok H') (hg : Gb b) (hq : Qb l p b) : Qb l (p + 1) (pass b p l[p]) := by
  have hgp := gb_pass h hg
  obtain ⟨h1, h2, h3, h4, h5, h6, h7⟩ := opf_ok h
  have ea : ahd l (p + 1) = l[p] := by unfold ahd; rw [Nat.add_sub_cancel, List.getD_eq_getElem?_getD, List.getElem?_eq_getElem hp, Option.getD_some]
  obtain ⟨q1, q2, q3⟩ := hq
  refine ⟨fun _ hk => ?_, ?_, hgp.2.1⟩
  · rw [ea] at hk
    rcases hk with k3 | k45
    · rw [pass_3 k3]; simp
    · have hr : rises S l p l[p] = true := by unfold stands at h4; rw [if_pos k45] at h4; exact h4
      unfold rises at hr
      split at hr
      · cases hr
      rename_i hp0
      have : b.ou ≠ [] := by
        split at hr
        · rename_i k; exact q1 hp0 (.inl k)
        split at hr
        · rename_i k; exact q1 hp0 (.inr k)
        · cases hr
      rw [pass_0 (by omega) (by omega) (by omega) (by omega)]
      exact this
  · by_cases k6 : l[p].k = 6
    · obtain ⟨g1, -⟩ := stands_close h4 k6
      obtain ⟨m, y, e⟩ := snoc _ g1
      rw [pass_6 k6 e]
      dsimp only
      split
      · right; omega
      · rcases q2 with h | h
        · exact .inl h
        · right; omega
    · have e : (pass b p l[p]).cl = b.cl := by
        unfold pass
        rw [if_neg k6]
        split
        · rfl
        split
        · rfl
        split
        · rfl
        rfl
      rw [e]
      rcases q2 with h | h
      · exact .inl h
      · right; omega
theorem qb_gos {l : List Oq} : ∀ (m i : Nat) (b : Bd) (H : List Ar) (be : Bd) (He : List Ar), l.length - i = m → i ≤ l.length → gos S nb l i (l.drop i) b H = .ok (be, He) → Gb b → Qb l i b → Gb be ∧ Qb l l.length be
  | 0, i, b, H, be, He, hm, hi, h, hg, hq => by
    have e : i = l.length := by omega
    subst e
    rw [gos_end] at h
    cases h
    exact ⟨hg, hq⟩
  | m + 1, i, b, H, be, He, hm, hi, h, hg, hq => by
    obtain ⟨H', h1, h2⟩ := gos_pass (by omega) h
    exact qb_gos m (i + 1) _ _ _ _ (by omega) (by omega) h2 (gb_pass h1 hg) (qb_pass (by omega) h1 hg hq)
/-- A block whose last operation is gone. -/
theorem blf_cut {d : Int} {l : List Oq} {o : Oq} {u : List Int} {H He : List Ar} (hG : Gh H) (h : blf S nb ⟨d, l ++ [o], u⟩ H = .ok He) :
    o.k ≠ 3 ∧ o.k ≠ 4 ∧ o.k ≠ 5 ∧ o.k ≠ 11 ∧ (o.k = 6 ∨ o.k = 12 → blf S nb ⟨d, l, []⟩ H = .error ((l.length : Int), 2204)) ∧ (o.k = 1 ∨ o.k = 2 → blf S nb ⟨d, l, []⟩ H = .ok He) := by
  have hN : (H.getD nb ar0).ow = true → Ga (H.getD nb ar0) := by
    intro hw
    rw [List.getD_eq_getElem?_getD] at hw ⊢
    cases e : H[nb]? with
    | none => rw [e] at hw; cases hw
    | some A => rw [e] at hw; exact hG A (List.mem_of_getElem? e) hw
  unfold blf at *
  dsimp only at *
  split at h
  · cases h
  rename_i h1
  split at h
  · cases h
  rename_i h2
  cases e : gos S nb (l ++ [o]) 0 (l ++ [o]) ⟨H.getD nb ar0, 0, [], 0⟩ H with
  | error q => rw [e] at h; cases h
  | ok y =>
    obtain ⟨be, He'⟩ := y
    rw [e] at h
    dsimp only at h
    split at h
    · cases h
    rename_i h3
    split at h
    · cases h
    rename_i h4
    split at h
    · cases h
    cases h
    obtain ⟨bm, Hm, g1, g2, g3⟩ := gos_front l 0 _ _ _ _ (by simp) e
    have hga := hN (by simpa using h1)
    have hgb0 : Gb ⟨H.getD nb ar0, 0, [], 0⟩ := ⟨hga, Int.le_refl 0, (by simp), by simpa using hga.1, by simpa using hga.2.2.1⟩
    obtain ⟨w1, w2⟩ := qb_gos (l := l) _ 0 _ _ _ _ rfl (by omega) (by rw [List.drop_zero]; exact g1) hgb0 ⟨fun h => (h rfl).elim, .inl rfl, Int.le_refl 0⟩
    obtain ⟨f1, f2, f3, f4, f5, f6, f7⟩ := opf_ok g2
    have hou : be.ou = [] := Decidable.not_not.1 fun e => h3 (.inl e)
    have hlt : ¬ 0 < be.lt := fun e => h3 (.inr e)
    have hlen : (l ++ [o]).length = l.length + 1 := by simp
    rw [if_neg h1, if_neg h2, g1]
    dsimp only
    refine ⟨fun k => ?_, fun k => ?_, fun k => ?_, fun k => ?_, fun k => ?_, fun k => ?_⟩
    · rw [g3, pass_3 k] at hou; simp at hou
    · rw [g3, pass_0 (by omega) (by omega) (by omega) (by omega)] at hou
      rw [opf_front (Nat.le_refl _)] at g2
      have hr : rises S l l.length o = true := by have := (opf_ok g2).2.2.2.1; unfold stands at this; rw [if_pos (.inl k)] at this; exact this
      unfold rises at hr
      split at hr
      · cases hr
      rename_i hp0
      split at hr
      · rename_i k'; exact w2.1 hp0 (.inl k') hou
      split at hr
      · rename_i k'; exact w2.1 hp0 (.inr k') hou
      · cases hr
    · rw [g3, pass_0 (by omega) (by omega) (by omega) (by omega)] at hou
      rw [opf_front (Nat.le_refl _)] at g2
      have hr : rises S l l.length o = true := by have := (opf_ok g2).2.2.2.1; unfold stands at this; rw [if_pos (.inr k)] at this; exact this
      unfold rises at hr
      split at hr
      · cases hr
      rename_i hp0
      split at hr
      · rename_i k'; exact w2.1 hp0 (.inl k') hou
      split at hr
      · rename_i k'; exact w2.1 hp0 (.inr k') hou
      · cases hr
    · rw [g3, pass_11 k] at hlt
      have := w2.2.2
      exact hlt (by show 0 < bm.lt + 1; omega)
    · rw [if_pos (by
        rcases k with k | k
        · exact .inl (stands_close f4 k).1
        · have := fits_drop f2 k
          have := stands_drop f4 k
          right; omega)]
    · have hb : be = bm := by rw [g3]; exact pass_0 (by omega) (by omega) (by omega) (by omega)
      have hH : Hm = He := by
        have e0 : bks o = [] := by unfold bks; rw [if_neg (by omega), if_neg (by omega)]
        rw [e0, clm] at f5
        exact Option.some.inj f5
      rw [hb] at hou hlt h4
      rw [if_neg (by rintro (h | h); · exact h hou
                     · exact hlt h), if_neg (by
        rintro ⟨a1, a2⟩
        have hi : item (l ++ [o]) bm.cl = true := by
          cases e : item (l ++ [o]) bm.cl with
          | true => rfl
          | false => exact (h4 ⟨a1, e⟩).elim
        unfold item at hi
        split at hi
        · cases hi
        rename_i hne
        cases l with
        | nil =>
          have e0 : (([] : List Oq) ++ [o]).getD 0 ⟨0, 0, 0, 0, []⟩ = o := rfl
          rw [e0, if_neg (by omega), if_neg (by omega)] at hi
          cases hi
        | cons c r =>
          rw [hlen] at hi
          split at hi
          · have hi : (((c :: r).length + 1 : Nat) : Int) = 1 := of_decide_eq_true hi
            rw [List.length_cons] at hi
            omega
          split at hi
          · have hi : bm.cl = ((r.length + 1 + 1 : Nat) : Int) - 1 := by simpa using hi
            have := w2.2.1
            rw [List.length_cons] at this
            omega
          · cases hi), if_neg (by rw [upd]; simp), hH]
end
end Go.Proofs.Ytgknjjaemjkloaa.BCu

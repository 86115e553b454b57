/- Templates joined: the tokens of both (no walk). -/
import Derived.Test.YtfkgcignlhmodaaLTp
namespace Go.Proofs.Ytfkgcignlhmodaa.LJp
open Go.RowKit Go.Proofs.Ytfkgcignlhmodaa.UBase Go.Proofs.Ytfkgcignlhmodaa.EPure Go.Proofs.Ytfkgcignlhmodaa.LPure Go.Proofs.Ytfkgcignlhmodaa.LRd Go.Proofs.Ytfkgcignlhmodaa.LSk Go.Proofs.Ytfkgcignlhmodaa.LNm Go.Proofs.Ytfkgcignlhmodaa.LUp Go.Proofs.Ytfkgcignlhmodaa.LTe Go.Proofs.Ytfkgcignlhmodaa.LSc Go.Proofs.Ytfkgcignlhmodaa.LOc Go.Proofs.Ytfkgcignlhmodaa.LEn Go.Proofs.Ytfkgcignlhmodaa.LIn Go.Proofs.Ytfkgcignlhmodaa.LMu Go.Proofs.Ytfkgcignlhmodaa.LTk Go.Proofs.Ytfkgcignlhmodaa.LLz Go.Proofs.Ytfkgcignlhmodaa.LCv Go.Proofs.Ytfkgcignlhmodaa.LEv Go.Proofs.Ytfkgcignlhmodaa.LTp
set_option linter.unusedVariables false

/-! ### The front: up to a '<' that stands behind it -/
section
variable {s U : ByteArray} {R : List UInt8} (hU : U.data.toList = s.data.toList ++ 60 :: R)
include hU
theorem fr_size : s.size < U.size := by
  have := congrArg List.length hU
  rw [len_l, List.length_append, len_l, List.length_cons] at this
  omega
theorem fr_drop {j : Nat} (hj : j ≤ s.size) : U.data.toList.drop j = s.data.toList.drop j ++ 60 :: R := by
  rw [hU, List.drop_append_of_le_length (by rw [len_l]; exact hj)]
theorem fr_at {j : Nat} (hj : j < s.size) : at' U j = at' s j := by
  have e1 := at_list U 0 j
  have e2 := at_list s 0 j
  rw [Nat.zero_add, List.drop_zero] at e1 e2
  rw [e1, e2, hU]
  unfold gt
  rw [List.getD_eq_getElem?_getD, List.getD_eq_getElem?_getD, List.getElem?_append_left (by rw [len_l]; exact hj)]
theorem fr_end : at' U s.size = 60 := by
  have e1 := at_list U s.size 0
  rw [Nat.add_zero, fr_drop hU (Nat.le_refl _), List.drop_of_length_le (by rw [len_l]; exact Nat.le_refl _)] at e1
  exact e1
theorem fr_pre {j : Nat} {c : UInt8} {r : List UInt8} (hj : j ≤ s.size) (hc : j < s.size ∨ c ≠ 60) (hr : ∀ x ∈ r, x ≠ 60) : pre U j (c :: r) = pre s j (c :: r) := by
  rw [Bool.eq_iff_iff, pre_iff, pre_iff, fr_drop hU hj]
  have hl : (s.data.toList.drop j).length = s.size - j := by rw [List.length_drop, len_l]
  have hu := fr_size hU
  constructor
  · rintro ⟨h1, h2⟩
    by_cases h : j + (c :: r).length ≤ s.size
    · exact ⟨h, List.prefix_of_prefix_length_le h2 (List.prefix_append _ _) (by rw [hl]; omega)⟩
    · exfalso
      obtain ⟨t, ht⟩ := h2
      have hk : ((c :: r) ++ t)[s.size - j]? = some 60 := by
        rw [ht, List.getElem?_append_right (by rw [hl]; exact Nat.le_refl _), hl, Nat.sub_self]
        rfl
      rw [List.getElem?_append_left (by omega)] at hk
      rcases Nat.eq_zero_or_pos (s.size - j) with h0 | h0
      · rw [h0] at hk
        simp at hk
        rcases hc with hc | hc
        · omega
        · exact hc hk
      · obtain ⟨m, hm⟩ : ∃ m, s.size - j = m + 1 := ⟨s.size - j - 1, by omega⟩
        rw [hm, List.getElem?_cons_succ] at hk
        exact hr 60 (List.mem_of_getElem? hk) rfl
  · rintro ⟨h1, h2⟩
    exact ⟨by omega, h2.trans (List.prefix_append _ _)⟩
theorem fr_skp {p : Nat → Bool} (hp : p 60 = false) : ∀ (k i : Nat), s.size - i ≤ k → i ≤ s.size → skp p U i = skp p s i := by
  have hu := fr_size hU
  have stop : skp p U s.size = skp p s s.size := by
    rw [skp_stop (i := s.size) (s := U) (by rw [fr_end hU, hp]; simp), skp_stop (by omega)]
  intro k
  induction k with
  | zero =>
    intro i hk hi
    obtain rfl : i = s.size := by omega
    exact stop
  | succ k ih =>
    intro i hk hi
    by_cases hl : i < s.size
    · by_cases hc : p (at' s i) = true
      · rw [skp_step (by omega) (by rw [fr_at hU hl]; exact hc), skp_step hl hc]
        exact ih (i + 1) (by omega) hl
      · rw [skp_stop (fun h => hc (by rw [← fr_at hU hl]; exact h.2)), skp_stop (fun h => hc h.2)]
    · obtain rfl : i = s.size := by omega
      exact stop
theorem fr_tnd : ∀ (k i : Nat), s.size - i ≤ k → i ≤ s.size → tnd U i = tnd s i := by
  have hu := fr_size hU
  have stop : tnd U s.size = tnd s s.size := by
    rw [tnd_stop (i := s.size) (s := U) (by rw [fr_end hU]; simp), tnd_stop (by omega)]
  intro k
  induction k with
  | zero =>
    intro i hk hi
    obtain rfl : i = s.size := by omega
    exact stop
  | succ k ih =>
    intro i hk hi
    by_cases hl : i < s.size
    · have hq : pre U i [123, 123] = pre s i [123, 123] := fr_pre hU hi (.inl hl) (by simp)
      by_cases hc : at' s i ≠ 60 ∧ pre s i [123, 123] = false
      · rw [tnd_step (by omega) (by rw [fr_at hU hl]; exact hc.1) (by rw [hq]; exact hc.2), tnd_step hl hc.1 hc.2]
        exact ih (i + 1) (by omega) hl
      · rw [tnd_stop (fun h => hc ⟨by rw [← fr_at hU hl]; exact h.2.1, by rw [← hq]; exact h.2.2⟩), tnd_stop (fun h => hc h.2)]
    · obtain rfl : i = s.size := by omega
      exact stop
theorem fr_sub {i j : Nat} (hi : i ≤ s.size) (hj : j ≤ s.size) : sub U i j = sub s i j := by
  have hu := fr_size hU
  refine ext_b ?_
  rw [sub_list (by omega), sub_list hj, fr_drop hU hi]
  by_cases h : i ≤ j
  · rw [List.take_append_of_le_length (by rw [List.length_drop, len_l]; omega)]
  · rw [show j - i = 0 by omega]
    rfl
theorem fr_ux {i : Nat} {c : UInt8} {r : List UInt8} (hi : i ≤ s.size) (hc : c ≠ 60) (hr : ∀ x ∈ r, x ≠ 60) (h : 0 ≤ ux s i (c :: r)) : ux U i (c :: r) = ux s i (c :: r) := by
  have hu := fr_size hU
  have hrm := ux_room hi h
  rcases ux_spec hi (by simp : 0 < (c :: r).length) with ⟨h1, -⟩ | ⟨k, hk, hp, hn⟩
  · exact absurd h h1
  rw [hk] at hrm ⊢
  rw [Int.toNat_natCast] at hrm
  have hp' : pre U (i + k) (c :: r) = true := by rw [fr_pre hU (by omega) (.inr hc) hr]; exact hp
  rcases ux_spec (s := U) (i := i) (by omega) (by simp : 0 < (c :: r).length) with ⟨-, h2⟩ | ⟨k', hk', hp2, hn2⟩
  · rw [h2 _ (by omega)] at hp'; cases hp'
  · rw [hk']
    rcases Nat.lt_trichotomy k' k with h3 | h3 | h3
    · rw [fr_pre hU (by omega) (.inr hc) hr, hn _ (by omega) (by omega)] at hp2; cases hp2
    · rw [h3]
    · rw [hn2 _ (by omega) (by omega)] at hp'; cases hp'
theorem fr_mpl {j : Nat} {c : UInt8} (hj : j ≤ s.size) (hc : c ≠ 60) : mpl U [c] j = mpl s [c] j := by
  unfold mpl
  rw [fr_pre hU hj (.inr hc) (by simp)]
set_option maxHeartbeats 1600000 in
/-- A token of the front is the same one in the whole. -/
theorem fr_tok {i : Nat} {b : Bool} (hi : i ≤ s.size) (hc : b = true ∨ i < s.size) (hf : (LSn.tok s i b (0, 0)).f.1 = 0) : LSn.tok U i b (0, 0) = LSn.tok s i b (0, 0) := by
  have p1 : ∀ {j : Nat} {c : UInt8}, j ≤ s.size → c ≠ 60 → pre U j [c] = pre s j [c] := fun hj hc => fr_pre hU hj (.inr hc) (by simp)
  have kb : ∀ {j : Nat}, j ≤ s.size → skp isb U j = skp isb s j := fun hj => fr_skp hU (by decide) _ _ (Nat.le_refl _) hj
  have kt : ∀ {j : Nat}, j ≤ s.size → skp tgb U j = skp tgb s j := fun hj => fr_skp hU (by decide) _ _ (Nat.le_refl _) hj
  cases b with
  | true =>
    have hYs : skp isb s i ≤ s.size := skp_in hi
    unfold LSn.tok at hf ⊢
    rw [if_pos rfl] at hf ⊢
    rw [if_pos rfl, kb hi, p1 hYs (by decide), p1 hYs (by decide)]
    generalize skp isb s i = Y at *
    have hm : mpl s [47] Y ≤ s.size := mpl_in hYs
    have hE : LSn.tkE U Y (0, 0) = LSn.tkE s Y (0, 0) := by
      unfold LSn.tkE eK
      rw [p1 hYs (by decide), fr_mpl hU hYs (by decide), p1 hm (by decide), fr_mpl hU hm (by decide)]
    by_cases q0 : pre s Y [62] = true
    · rw [if_pos q0, if_pos q0]; exact hE
    rw [if_neg q0] at hf ⊢
    rw [if_neg q0]
    by_cases q1 : pre s Y [47] = true
    · rw [if_pos q1, if_pos q1]; exact hE
    rw [if_neg q1] at hf ⊢
    rw [if_neg q1]
    by_cases hap : i < Y
    · rw [if_pos hap] at hf ⊢
      rw [if_pos hap]
      have h7 : (LAt.f7 s Y (0, 0)).1 = 0 := hf
      have h6 : (LAt.f6 s Y (0, 0)).1 = 0 := by
        unfold LAt.f7 at h7
        split at h7
        · exact h7
        · exact (fif_zero h7 (by simp)).2
      obtain ⟨-, h5⟩ := fif_zero (h6 : (fif _ _ _).1 = 0) (by simp)
      obtain ⟨hu, -⟩ := fif_zero (h5 : (fif _ _ _).1 = 0) (by simp)
      have hu : 0 ≤ ux s (LAt.a4 s Y) [34] := of_decide_eq_true hu
      have i1 : LAt.a1 s Y ≤ s.size := mpl_in hYs
      have i2 : LAt.a2 s Y ≤ s.size := skp_in i1
      have i3 : LAt.a3 s Y ≤ s.size := mpl_in i2
      have i4 : LAt.a4 s Y ≤ s.size := mpl_in i3
      have e1 : LAt.a1 U Y = LAt.a1 s Y := fr_mpl hU hYs (by decide)
      have e2 : LAt.a2 U Y = LAt.a2 s Y := by unfold LAt.a2 nE; rw [e1]; exact kt i1
      have e3 : LAt.a3 U Y = LAt.a3 s Y := by unfold LAt.a3; rw [e2]; exact fr_mpl hU i2 (by decide)
      have e4 : LAt.a4 U Y = LAt.a4 s Y := by unfold LAt.a4; rw [e3]; exact fr_mpl hU i3 (by decide)
      have eu : ux U (LAt.a4 s Y) [34] = ux s (LAt.a4 s Y) [34] := fr_ux hU i4 (by decide) (by simp) hu
      have hr := ux_room i4 hu
      simp only [List.length_cons, List.length_nil] at hr
      have ew : LAt.aW U Y = LAt.aW s Y := by
        unfold LAt.aW utx
        rw [e4, eu, if_pos hu, if_pos hu]
        exact fr_sub hU i4 (by omega)
      have et : LAt.aT U Y = LAt.aT s Y := by unfold LAt.aT; rw [ew]
      have e5 : LAt.a5 U Y = LAt.a5 s Y := by unfold LAt.a5 upl; rw [e4, eu]
      have en : nT U (LAt.a1 U Y) = nT s (LAt.a1 s Y) := by
        rw [e1]
        show sub U (LAt.a1 s Y) (skp tgb U (LAt.a1 s Y)) = _
        rw [kt i1]
        exact fr_sub hU i1 i2
      have c2 : LAt.f2 U Y (0, 0) = LAt.f2 s Y (0, 0) := by
        unfold LAt.f2 nF
        have en' : sub U (LAt.a1 U Y) (skp tgb U (LAt.a1 U Y)) = sub s (LAt.a1 s Y) (skp tgb s (LAt.a1 s Y)) := en
        rw [en', e1]
      have c3 : LAt.f3 U Y (0, 0) = LAt.f3 s Y (0, 0) := by unfold LAt.f3; rw [c2, e2, p1 i2 (by decide)]
      have c4 : LAt.f4 U Y (0, 0) = LAt.f4 s Y (0, 0) := by unfold LAt.f4; rw [c3, e3, p1 i3 (by decide)]
      have c5 : LAt.f5 U Y (0, 0) = LAt.f5 s Y (0, 0) := by unfold LAt.f5; rw [c4, e4, eu, e3]
      have c6 : LAt.f6 U Y (0, 0) = LAt.f6 s Y (0, 0) := by unfold LAt.f6; rw [c5, ew, e4]
      have c7 : LAt.f7 U Y (0, 0) = LAt.f7 s Y (0, 0) := by unfold LAt.f7; rw [c6, et, e3, p1 hYs (by decide)]
      have ck : LAt.aK U Y = LAt.aK s Y := by unfold LAt.aK; rw [p1 hYs (by decide)]
      unfold LSn.tkA
      rw [ck, en, et, e5, c7]
    · rw [if_neg hap, if_neg hap]
  | false =>
    have hlt : i < s.size := by simpa using hc
    have q2 : ∀ {c d : UInt8}, d ≠ 60 → pre U i [c, d] = pre s i [c, d] := fun hd => fr_pre hU hi (.inl hlt) (by simpa using hd)
    have q1 : pre U i [60] = pre s i [60] := fr_pre hU hi (.inl hlt) (by simp)
    have qa : pre U i [123, 123] = pre s i [123, 123] := q2 (by decide)
    have qb : pre U i [60, 47] = pre s i [60, 47] := q2 (by decide)
    unfold LSn.tok at hf ⊢
    simp only [Bool.false_eq_true, if_false] at hf ⊢
    rw [qa, qb, q1]
    by_cases p0 : pre s i [123, 123] = true
    · rw [if_pos p0] at hf ⊢
      rw [if_pos p0]
      have hr : i + 2 ≤ s.size := ((pre_iff _ _ _).1 p0).1
      obtain ⟨hu, -⟩ := fif_zero (hf : (fif (decide (0 ≤ ux s (i + 2) [125, 125])) (0, 0) (1205, i)).1 = 0) (by simp)
      have hu : 0 ≤ ux s (i + 2) [125, 125] := of_decide_eq_true hu
      have eu : ux U (i + 2) [125, 125] = ux s (i + 2) [125, 125] := fr_ux hU hr (by decide) (by simp) hu
      have hm := ux_room hr hu
      simp only [List.length_cons, List.length_nil] at hm
      unfold LSn.tkI utx upl
      rw [eu, if_pos hu, if_pos hu, if_pos hu, fr_sub hU hr (by omega)]
    rw [if_neg p0] at hf ⊢
    rw [if_neg p0]
    by_cases p1' : pre s i [60, 47] = true
    · rw [if_pos p1'] at hf ⊢
      rw [if_pos p1']
      have hr : i + 2 ≤ s.size := ((pre_iff _ _ _).1 p1').1
      have h2 : skp tgb s (i + 2) ≤ s.size := skp_in hr
      have h3 : skp isb s (skp tgb s (i + 2)) ≤ s.size := skp_in h2
      unfold LSn.tkC
      simp only [nT, nE, nF]
      rw [kt hr, fr_sub hU hr h2, kb h2, p1 h3 (by decide), fr_mpl hU h3 (by decide)]
    rw [if_neg p1'] at hf ⊢
    rw [if_neg p1']
    by_cases p2 : pre s i [60] = true
    · rw [if_pos p2] at hf ⊢
      rw [if_pos p2]
      have h2 : skp tgb s (i + 1) ≤ s.size := skp_in (by omega)
      unfold LSn.tkO
      simp only [nT, nE, nF]
      rw [kt (by omega), fr_sub hU (by omega) h2]
    rw [if_neg p2] at hf ⊢
    rw [if_neg p2]
    have ht := fr_tnd hU _ i (Nat.le_refl _) hi
    have hti : tnd s i ≤ s.size := tnd_in hi
    unfold LSn.tkT LTx.xL LTx.xF LTx.xT
    rw [ht, fr_sub hU hi hti]
theorem fr_lxs : ∀ (k i : Nat) (b : Bool) (acc xs : List Tz), s.size + 1 ≤ k + i → i ≤ s.size → (lxs s k i b acc).2.1 = 0 → (lxs s k i b acc).1 = xs → ∀ K, U.size + 1 ≤ K + i → ∃ K', U.size + 1 ≤ K' + s.size ∧ lxs U K i b acc = lxs U K' s.size false xs := by
  have hu := fr_size hU
  intro k
  induction k with
  | zero => intro i b acc xs hk hi; omega
  | succ k ih =>
    intro i b acc xs hk hi hf hx K hK
    by_cases hc : b = true ∨ i < s.size
    · by_cases h0 : (LSn.tok s i b (0, 0)).f.1 = 0
      · have ht := tok_tg hi hc h0
        have g1 := ht.ge
        have g2 := ht.lt
        have hfr := fr_tok hU hi hc h0
        rw [lxs_more hc h0] at hf hx
        obtain ⟨K0, rfl⟩ : ∃ K0, K = K0 + 1 := ⟨K - 1, by omega⟩
        have hc' : b = true ∨ i < U.size := hc.imp_right (by omega)
        rw [lxs_more hc' (by rw [hfr]; exact h0), hfr]
        exact ih _ _ _ _ (by omega) ht.le hf hx K0 (by omega)
      · rw [lxs_bad hc h0] at hf
        exact absurd hf h0
    · rw [lxs_end hc] at hx
      have hb : b = false := by simp at hc; exact hc.1
      have hi' : i = s.size := by simp at hc; omega
      subst hb hi'
      have hx : acc = xs := hx
      exact ⟨K, hK, by rw [hx]⟩
end
/-! ### The rest: the same, further on -/
def sh (m : Nat) (x : Tz) : Tz := ⟨x.k, x.n, x.t, m + x.a, m + x.i, x.b, x.f⟩
section
variable {t U : ByteArray} {m : Nat} (hU : U.data.toList.drop m = t.data.toList) (hm : U.size = m + t.size)
include hU
theorem sh_drop (j : Nat) : U.data.toList.drop (m + j) = t.data.toList.drop j := by rw [← List.drop_drop, hU]
theorem sh_at (j : Nat) : at' U (m + j) = at' t j := by
  have e1 := at_list U (m + j) 0
  have e2 := at_list t j 0
  rw [Nat.add_zero, sh_drop hU] at e1
  rw [Nat.add_zero] at e2
  rw [e1, e2]
include hm
theorem sh_pre (j : Nat) (x : List UInt8) : pre U (m + j) x = pre t j x := by
  rw [Bool.eq_iff_iff, pre_iff, pre_iff, sh_drop hU]
  exact and_congr_left fun _ => by omega
theorem sh_skp (p : Nat → Bool) : ∀ (k i : Nat), t.size - i ≤ k → skp p U (m + i) = m + skp p t i := by
  intro k
  induction k with
  | zero => intro i hk; rw [skp_stop (by omega), skp_stop (by omega)]
  | succ k ih =>
    intro i hk
    by_cases hc : i < t.size ∧ p (at' t i) = true
    · rw [skp_step (by omega) (by rw [sh_at hU]; exact hc.2), skp_step hc.1 hc.2]
      exact ih (i + 1) (by omega)
    · rw [skp_stop (i := i) hc, skp_stop (fun h => hc ⟨by omega, by rw [← sh_at hU]; exact h.2⟩)]
theorem sh_tnd : ∀ (k i : Nat), t.size - i ≤ k → tnd U (m + i) = m + tnd t i := by
  intro k
  induction k with
  | zero => intro i hk; rw [tnd_stop (by omega), tnd_stop (by omega)]
  | succ k ih =>
    intro i hk
    by_cases hc : i < t.size ∧ at' t i ≠ 60 ∧ pre t i [123, 123] = false
    · rw [tnd_step (by omega) (by rw [sh_at hU]; exact hc.2.1) (by rw [sh_pre hU hm]; exact hc.2.2), tnd_step hc.1 hc.2.1 hc.2.2]
      exact ih (i + 1) (by omega)
    · rw [tnd_stop (i := i) hc, tnd_stop (fun h => hc ⟨by omega, by rw [← sh_at hU]; exact h.2.1, by rw [← sh_pre hU hm]; exact h.2.2⟩)]
theorem sh_sub {i j : Nat} (hj : j ≤ t.size) : sub U (m + i) (m + j) = sub t i j := by
  refine ext_b ?_
  rw [sub_list (by omega), sub_list hj, sh_drop hU, show m + j - (m + i) = j - i by omega]
omit hm in
theorem sh_ux (i : Nat) (x : List UInt8) : ux U (m + i) x = ux t i x := by
  unfold ux
  rw [ext_list, ext_list, sh_drop hU]
theorem sh_mpl (j : Nat) (x : List UInt8) : mpl U x (m + j) = m + mpl t x j := by
  unfold mpl
  rw [sh_pre hU hm]
  split <;> omega
omit hm in
theorem sh_upl (j : Nat) (x : List UInt8) : upl U (m + j) x = m + upl t j x := by
  unfold upl
  rw [sh_ux hU]
  split <;> omega
theorem sh_utx {j : Nat} (x : List UInt8) (hj : j ≤ t.size) : utx U (m + j) x = utx t j x := by
  unfold utx
  rw [sh_ux hU]
  split
  · rename_i hu
    have := ux_room hj hu
    rw [Nat.add_assoc]
    exact sh_sub hU hm (by omega)
  · rfl
omit hU hm in
theorem fif_yes {c : Bool} {f e e' : F} (h : c = true) : fif c f e = fif c f e' := by rw [h]; rfl
set_option maxHeartbeats 1600000 in
theorem sh_tok {i : Nat} {b : Bool} (hi : i ≤ t.size) (hf : (LSn.tok t i b (0, 0)).f.1 = 0) : LSn.tok U (m + i) b (0, 0) = sh m (LSn.tok t i b (0, 0)) := by
  have kb : ∀ j : Nat, skp isb U (m + j) = m + skp isb t j := fun j => sh_skp hU hm _ _ _ (Nat.le_refl _)
  have kt : ∀ j : Nat, skp tgb U (m + j) = m + skp tgb t j := fun j => sh_skp hU hm _ _ _ (Nat.le_refl _)
  cases b with
  | true =>
    have hYs : skp isb t i ≤ t.size := skp_in hi
    unfold LSn.tok at hf ⊢
    simp only [if_true] at hf ⊢
    rw [kb, sh_pre hU hm, sh_pre hU hm]
    generalize skp isb t i = Y at *
    have hE : (LSn.tkE t Y (0, 0)).f.1 = 0 → LSn.tkE U (m + Y) (0, 0) = sh m (LSn.tkE t Y (0, 0)) := by
      intro hf
      obtain ⟨h1, -⟩ := fif_zero (hf : (fif (pre t (mpl t [47] Y) [62]) (0, 0) (1202, mpl t [47] Y)).1 = 0) (by simp)
      unfold LSn.tkE eK sh
      dsimp only
      rw [sh_pre hU hm, sh_mpl hU hm, sh_pre hU hm, sh_mpl hU hm, h1]
      rfl
    by_cases q0 : pre t Y [62] = true
    · rw [if_pos q0] at hf ⊢; rw [if_pos q0]; exact hE hf
    rw [if_neg q0] at hf ⊢
    rw [if_neg q0]
    by_cases q1 : pre t Y [47] = true
    · rw [if_pos q1] at hf ⊢; rw [if_pos q1]; exact hE hf
    rw [if_neg q1] at hf ⊢
    rw [if_neg q1]
    by_cases hap : i < Y
    · rw [if_pos hap] at hf ⊢
      rw [if_pos (by omega)]
      have h7 : (LAt.f7 t Y (0, 0)).1 = 0 := hf
      have h6 : (LAt.f6 t Y (0, 0)).1 = 0 := by
        unfold LAt.f7 at h7
        split at h7
        · exact h7
        · exact (fif_zero h7 (by simp)).2
      have i1 : LAt.a1 t Y ≤ t.size := mpl_in hYs
      have i2 : LAt.a2 t Y ≤ t.size := skp_in i1
      have i3 : LAt.a3 t Y ≤ t.size := mpl_in i2
      have i4 : LAt.a4 t Y ≤ t.size := mpl_in i3
      have e1 : LAt.a1 U (m + Y) = m + LAt.a1 t Y := sh_mpl hU hm _ _
      have e2 : LAt.a2 U (m + Y) = m + LAt.a2 t Y := by unfold LAt.a2 nE; rw [e1]; exact kt _
      have e3 : LAt.a3 U (m + Y) = m + LAt.a3 t Y := by unfold LAt.a3; rw [e2]; exact sh_mpl hU hm _ _
      have e4 : LAt.a4 U (m + Y) = m + LAt.a4 t Y := by unfold LAt.a4; rw [e3]; exact sh_mpl hU hm _ _
      have e5 : LAt.a5 U (m + Y) = m + LAt.a5 t Y := by unfold LAt.a5; rw [e4]; exact sh_upl hU _ _
      have ew : LAt.aW U (m + Y) = LAt.aW t Y := by unfold LAt.aW; rw [e4]; exact sh_utx hU hm _ i4
      have et : LAt.aT U (m + Y) = LAt.aT t Y := by unfold LAt.aT; rw [ew]
      have en : nT U (LAt.a1 U (m + Y)) = nT t (LAt.a1 t Y) := by
        rw [e1]
        show sub U (m + LAt.a1 t Y) (skp tgb U (m + LAt.a1 t Y)) = _
        rw [kt]
        exact sh_sub hU hm i2
      obtain ⟨b6, h5⟩ := fif_zero (h6 : (fif (HBase.perr (LAt.aW t Y) == 0) (LAt.f5 t Y (0, 0)) (1204, LAt.a4 t Y + HBase.pat (LAt.aW t Y))).1 = 0) (by simp)
      obtain ⟨b5, h4⟩ := fif_zero (h5 : (fif (decide (0 ≤ ux t (LAt.a4 t Y) [34])) (LAt.f4 t Y (0, 0)) (1203, LAt.a3 t Y)).1 = 0) (by simp)
      obtain ⟨b4, h3⟩ := fif_zero (h4 : (fif (pre t (LAt.a3 t Y) [34]) (LAt.f3 t Y (0, 0)) (1202, LAt.a3 t Y)).1 = 0) (by simp)
      obtain ⟨b3, h2⟩ := fif_zero (h3 : (fif (pre t (LAt.a2 t Y) [61]) (LAt.f2 t Y (0, 0)) (1202, LAt.a2 t Y)).1 = 0) (by simp)
      obtain ⟨b2, -⟩ := fif_zero (h2 : (fif (word (nT t (LAt.a1 t Y)) 45) (0, 0) (1202, LAt.a1 t Y)).1 = 0) (by simp)
      have c2 : LAt.f2 U (m + Y) (0, 0) = LAt.f2 t Y (0, 0) := by
        show fif (word (nT U (LAt.a1 U (m + Y))) 45) (0, 0) _ = fif (word (nT t (LAt.a1 t Y)) 45) (0, 0) _
        rw [en]
        exact fif_yes b2
      have c3 : LAt.f3 U (m + Y) (0, 0) = LAt.f3 t Y (0, 0) := by unfold LAt.f3; rw [c2, e2, sh_pre hU hm]; exact fif_yes b3
      have c4 : LAt.f4 U (m + Y) (0, 0) = LAt.f4 t Y (0, 0) := by unfold LAt.f4; rw [c3, e3, sh_pre hU hm]; exact fif_yes b4
      have c5 : LAt.f5 U (m + Y) (0, 0) = LAt.f5 t Y (0, 0) := by unfold LAt.f5; rw [c4, e4, sh_ux hU]; exact fif_yes b5
      have c6 : LAt.f6 U (m + Y) (0, 0) = LAt.f6 t Y (0, 0) := by unfold LAt.f6; rw [c5, ew]; exact fif_yes b6
      have c7 : LAt.f7 U (m + Y) (0, 0) = LAt.f7 t Y (0, 0) := by
        unfold LAt.f7 at h7 ⊢
        rw [c6, et, sh_pre hU hm]
        split
        · rfl
        · rename_i hq
          rw [if_neg hq] at h7
          exact fif_yes (fif_zero h7 (by simp)).1
      have ck : LAt.aK U (m + Y) = LAt.aK t Y := by unfold LAt.aK; rw [sh_pre hU hm]
      unfold LSn.tkA sh
      dsimp only
      rw [ck, en, et, e5, c7]
    · rw [if_neg hap] at hf
      exfalso
      unfold LSn.tkN rf at hf
      simp at hf
  | false =>
    unfold LSn.tok at hf ⊢
    simp only [Bool.false_eq_true, if_false] at hf ⊢
    rw [sh_pre hU hm, sh_pre hU hm, sh_pre hU hm]
    by_cases p0 : pre t i [123, 123] = true
    · rw [if_pos p0] at hf ⊢
      rw [if_pos p0]
      have hr : i + 2 ≤ t.size := ((pre_iff _ _ _).1 p0).1
      obtain ⟨hu, -⟩ := fif_zero (hf : (fif (decide (0 ≤ ux t (i + 2) [125, 125])) (0, 0) (1205, i)).1 = 0) (by simp)
      unfold LSn.tkI sh
      dsimp only
      rw [Nat.add_assoc, sh_utx hU hm _ hr, sh_upl hU, sh_ux hU, hu]
      rfl
    rw [if_neg p0] at hf ⊢
    rw [if_neg p0]
    by_cases p1 : pre t i [60, 47] = true
    · rw [if_pos p1] at hf ⊢
      rw [if_pos p1]
      have hr : i + 2 ≤ t.size := ((pre_iff _ _ _).1 p1).1
      have h2 : skp tgb t (i + 2) ≤ t.size := skp_in hr
      obtain ⟨b1, h3⟩ := fif_zero (hf : (fif (pre t (skp isb t (skp tgb t (i + 2))) [62]) (fif (word (nT t (i + 2)) 45) (0, 0) (1202, i + 2)) (1202, skp isb t (skp tgb t (i + 2)))).1 = 0) (by simp)
      obtain ⟨b2, -⟩ := fif_zero h3 (by simp)
      have b2' : word (sub t (i + 2) (skp tgb t (i + 2))) 45 = true := b2
      unfold LSn.tkC sh
      simp only [nT, nE, nF]
      rw [Nat.add_assoc, kt, sh_sub hU hm h2, kb, sh_pre hU hm, sh_mpl hU hm, b1, b2']
      rfl
    rw [if_neg p1] at hf ⊢
    rw [if_neg p1]
    by_cases p2 : pre t i [60] = true
    · rw [if_pos p2] at hf ⊢
      rw [if_pos p2]
      have hr : i + 1 ≤ t.size := ((pre_iff _ _ _).1 p2).1
      have h2 : skp tgb t (i + 1) ≤ t.size := skp_in hr
      obtain ⟨b2, -⟩ := fif_zero (hf : (fif (word (nT t (i + 1)) 45) (0, 0) (1202, i + 1)).1 = 0) (by simp)
      have b2' : word (sub t (i + 1) (skp tgb t (i + 1))) 45 = true := b2
      unfold LSn.tkO sh
      simp only [nT, nE, nF]
      rw [Nat.add_assoc, kt, sh_sub hU hm h2, b2']
      rfl
    rw [if_neg p2] at hf ⊢
    rw [if_neg p2]
    have ht := sh_tnd hU hm _ i (Nat.le_refl _)
    have hti : tnd t i ≤ t.size := tnd_in hi
    obtain ⟨b1, h3⟩ := fif_zero (hf : (fif (decide ((LTx.xT t i).size ≤ 4096)) (LTx.xF t i (0, 0)) (1201, i)).1 = 0) (by simp)
    obtain ⟨b2, -⟩ := fif_zero (h3 : (fif (HBase.perr (sub t i (tnd t i)) == 0) (0, 0) (1204, i + HBase.pat (sub t i (tnd t i)))).1 = 0) (by simp)
    have hx : LTx.xT U (m + i) = LTx.xT t i := by unfold LTx.xT; rw [ht, sh_sub hU hm hti]
    have hF : LTx.xF U (m + i) (0, 0) = LTx.xF t i (0, 0) := by unfold LTx.xF; rw [ht, sh_sub hU hm hti]; exact fif_yes b2
    have hL : LTx.xL U (m + i) (0, 0) = LTx.xL t i (0, 0) := by unfold LTx.xL; rw [hx, hF]; exact fif_yes b1
    unfold LSn.tkT sh
    dsimp only
    rw [hx, hL, ht]
theorem sh_lxs : ∀ (k i : Nat) (b : Bool) (acc A : List Tz), t.size + 1 ≤ k + i → i ≤ t.size → (lxs t k i b acc).2.1 = 0 → ∀ K, U.size + 1 ≤ K + (m + i) → ∃ zs, (lxs t k i b acc).1 = acc ++ zs ∧ lxs U K (m + i) b A = (A ++ zs.map (sh m), (0, 0)) := by
  intro k
  induction k with
  | zero => intro i b acc A hk hi; omega
  | succ k ih =>
    intro i b acc A hk hi hf K hK
    obtain ⟨K0, rfl⟩ : ∃ K0, K = K0 + 1 := ⟨K - 1, by omega⟩
    by_cases hc : b = true ∨ i < t.size
    · have hc' : b = true ∨ m + i < U.size := hc.imp_right (by omega)
      by_cases h0 : (LSn.tok t i b (0, 0)).f.1 = 0
      · have ht := tok_tg hi hc h0
        have g1 := ht.ge
        have g2 := ht.lt
        have hsh := sh_tok hU hm hi h0
        rw [lxs_more hc h0] at hf ⊢
        rw [lxs_more hc' (by rw [hsh]; exact h0), hsh]
        obtain ⟨zs, h1, h2⟩ := ih _ _ (acc ++ [LSn.tok t i b (0, 0)]) (A ++ [sh m (LSn.tok t i b (0, 0))]) (by omega) ht.le hf K0 (by omega)
        refine ⟨LSn.tok t i b (0, 0) :: zs, ?_, ?_⟩
        · rw [h1]; simp
        · show lxs U K0 (m + (LSn.tok t i b (0, 0)).i) (LSn.tok t i b (0, 0)).b _ = _
          rw [h2]
          simp
      · rw [lxs_bad hc h0] at hf
        exact absurd hf h0
    · have hc' : ¬ (b = true ∨ m + i < U.size) := fun h => hc (h.imp_right (by omega))
      rw [lxs_end hc, lxs_end hc']
      exact ⟨[], by simp, by simp⟩
end
/-! ### Both -/
def jn (s t : ByteArray) : ByteArray := (s ++ ⟨#[60, 47, 113, 62]⟩) ++ t
theorem jn_list (s t : ByteArray) : (jn s t).data.toList = s.data.toList ++ 60 :: 47 :: 113 :: 62 :: t.data.toList := by
  unfold jn
  simp [ByteArray.data_append]
theorem jn_size (s t : ByteArray) : (jn s t).size = s.size + 4 + t.size := by
  rw [← len_l, jn_list, List.length_append, len_l]
  simp only [List.length_cons, len_l]
  omega
theorem lxa_parts {s : ByteArray} (h : (lxa s).2.1 = 0) : s.size ≤ 65536 ∧ verr s = 0 ∧ (lxs s (s.size + 1) 0 false []).2.1 = 0 ∧ (lxa s).1 = (lxs s (s.size + 1) 0 false []).1 := by
  unfold lxa at *
  split at h
  · cases h
  · rename_i h1
    rw [if_neg h1]
    split at h
    · cases h
    · rename_i h2
      rw [if_neg h2]
      split at h
      · rename_i h3
        rw [if_pos h3]
        exact ⟨by omega, by simpa using h2, h3, rfl⟩
      · rename_i h3; exact absurd h h3
theorem jn_tok (s t : ByteArray) : LSn.tok (jn s t) s.size false (0, 0) = ⟨8, ⟨#[113]⟩, ⟨#[]⟩, s.size, s.size + 4, false, (0, 0)⟩ := by
  have hz := jn_size s t
  have hd : (jn s t).data.toList.drop s.size = 60 :: 47 :: 113 :: 62 :: t.data.toList := by rw [jn_list, List.drop_left' (len_l s)]
  have hd1 : (jn s t).data.toList.drop (s.size + 1) = 47 :: 113 :: 62 :: t.data.toList := by rw [← List.drop_drop, hd]; rfl
  have hd2 : (jn s t).data.toList.drop (s.size + 2) = 113 :: 62 :: t.data.toList := by rw [← List.drop_drop, hd]; rfl
  have hd3 : (jn s t).data.toList.drop (s.size + 3) = 62 :: t.data.toList := by rw [← List.drop_drop, hd]; rfl
  have a0 : at' (jn s t) s.size = 60 := by have := at_list (jn s t) s.size 0; rw [hd] at this; exact this
  have a2 : at' (jn s t) (s.size + 2) = 113 := by have := at_list (jn s t) (s.size + 2) 0; rw [hd2] at this; exact this
  have a3 : at' (jn s t) (s.size + 2 + 1) = 62 := by have := at_list (jn s t) (s.size + 3) 0; rw [hd3] at this; exact this
  have p0 : pre (jn s t) s.size [60, 47] = true := pre_true (by omega) (t := _) hd
  have hk : skp tgb (jn s t) (s.size + 2) = s.size + 3 := skp_to (by omega) (by rw [a2]; decide) (by rw [a3]; decide)
  have hb : skp isb (jn s t) (s.size + 3) = s.size + 3 := skp_stop (fun h => by
    have h' : isb (at' (jn s t) (s.size + 2 + 1)) = true := h.2
    rw [a3] at h'
    exact absurd h' (by decide))
  have hs : sub (jn s t) (s.size + 2) (s.size + 3) = ⟨#[113]⟩ := sub_one (by omega) hd2
  have p3 : pre (jn s t) (s.size + 3) [62] = true := pre_true (by omega) (t := _) hd3
  unfold LSn.tok
  simp only [Bool.false_eq_true, if_false]
  rw [if_neg (by rw [pre_no (by rw [a0]; decide)]; decide), if_pos p0]
  unfold LSn.tkC
  simp only [nT, nE, nF, hk, hs, hb]
  rw [p3, mpl_t p3, show UBase.word ⟨#[113]⟩ 45 = true from by decide]
  rfl
theorem jn_valid {s t : ByteArray} (h1 : verr s = 0) (h2 : verr t = 0) : verr (jn s t) = 0 := by
  have b1 : bad s 0 = none := (verr_iff s).1 h1
  have hq : verr (s ++ ⟨#[60, 47, 113, 62]⟩) = 0 := by
    rw [UJn.verr_join b1, verr_iff]
    exact bad_tail _ [60, 47, 113, 62] (asc_of _ rfl) 0 rfl
  unfold jn
  rw [UJn.verr_join ((verr_iff _).1 hq)]
  exact h2
theorem jn_lex {s t : ByteArray} (h1 : (lxa s).2.1 = 0) (h2 : (lxa t).2.1 = 0) (hz : s.size + t.size + 4 ≤ 65536) :
    (lxa (jn s t)).2 = (0, 0) ∧ ∃ q, (lxa (jn s t)).1 = (lxa s).1 ++ q :: (lxa t).1.map (sh (s.size + 4)) ∧ q.k = 8 ∧ q.n = ⟨#[113]⟩ ∧ q.t = ⟨#[]⟩ ∧ q.a = s.size := by
  obtain ⟨-, v1, f1, e1⟩ := lxa_parts h1
  obtain ⟨-, v2, f2, e2⟩ := lxa_parts h2
  have hs := jn_size s t
  have hv := jn_valid v1 v2
  have ht := jn_tok s t
  have hl := jn_list s t
  obtain ⟨K, hK, hx⟩ := fr_lxs (U := jn s t) hl (s.size + 1) 0 false [] _ (by omega) (Nat.zero_le _) f1 rfl ((jn s t).size + 1) (by omega)
  obtain ⟨K0, rfl⟩ : ∃ K0, K = K0 + 1 := ⟨K - 1, by omega⟩
  have hd : (jn s t).data.toList.drop (s.size + 4) = t.data.toList := by
    rw [hl, ← List.drop_drop, List.drop_left' (len_l s)]
    rfl
  obtain ⟨zs, hy1, hy2⟩ := sh_lxs (U := jn s t) (m := s.size + 4) hd (by omega) (t.size + 1) 0 false [] ((lxs s (s.size + 1) 0 false []).1 ++ [LSn.tok (jn s t) s.size false (0, 0)]) (by omega) (Nat.zero_le _) f2 K0 (by omega)
  have hi : (LSn.tok (jn s t) s.size false (0, 0)).i = s.size + 4 + 0 := by rw [ht]
  have hb : (LSn.tok (jn s t) s.size false (0, 0)).b = false := by rw [ht]
  have hst := lxs_more (n := K0) (acc := (lxs s (s.size + 1) 0 false []).1) (.inr (by omega) : false = true ∨ s.size < (jn s t).size) (by rw [ht] : (LSn.tok (jn s t) s.size false (0, 0)).f.1 = 0)
  rw [hi, hb, hy2] at hst
  rw [hst] at hx
  rw [List.nil_append] at hy1
  have hA : lxa (jn s t) = ((lxs s (s.size + 1) 0 false []).1 ++ [LSn.tok (jn s t) s.size false (0, 0)] ++ zs.map (sh (s.size + 4)), (0, 0)) := by
    unfold lxa
    rw [if_neg (by omega), if_neg (by rw [hv]; simp), hx, if_pos rfl]
  rw [hA]
  refine ⟨rfl, LSn.tok (jn s t) s.size false (0, 0), ?_, ?_⟩
  · rw [e1, e2, hy1]
    simp
  · rw [ht]
    exact ⟨rfl, rfl, rfl, rfl⟩
end Go.Proofs.Ytfkgcignlhmodaa.LJp

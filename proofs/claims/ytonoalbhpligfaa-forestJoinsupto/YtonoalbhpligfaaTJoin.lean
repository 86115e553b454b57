/- How many nodes, how deep: what forests joined and wrapped answer. -/
import Derived.Test.YtonoalbhpligfaaRLook
import Derived.Test.YtonoalbhpligfaaTWrite
namespace Go.Proofs.Ytonoalbhpligfaa.TJoin
open Go.RowKit Go.Proofs.Ytonoalbhpligfaa.TBase Go.Proofs.Ytonoalbhpligfaa.TPure Go.Proofs.Ytonoalbhpligfaa.TMay Go.Proofs.Ytonoalbhpligfaa.TVisit Go.Proofs.Ytonoalbhpligfaa.TMeas Go.Proofs.Ytonoalbhpligfaa.TShallow Go.Proofs.Ytonoalbhpligfaa.RLook Go.Proofs.Ytonoalbhpligfaa.TSpecH Go.Proofs.Ytonoalbhpligfaa.TWrite
set_option linter.unusedVariables false

/-- How many nodes; may each of them be? -/
def cn : List T → Nat
  | [] => 0
  | .mk _ _ _ l :: cs => 1 + cn l + cn cs
def ak : List T → Bool
  | [] => true
  | .mk g s n l :: cs => alone (.mk g s n l) && (ak l && ak cs)
theorem cn_nil : cn [] = 0 := by rw [cn]
theorem cn_cons (c : T) (cs : List T) : cn (c :: cs) = 1 + cn c.l + cn cs := by
  obtain ⟨g, s, n, l⟩ := c
  rw [cn]
  rfl
theorem ak_nil : ak [] = true := by rw [ak]
theorem ak_cons (c : T) (cs : List T) : ak (c :: cs) = (alone c && (ak c.l && ak cs)) := by
  obtain ⟨g, s, n, l⟩ := c
  rw [ak]
  rfl
theorem cn_append (a b : List T) : cn (a ++ b) = cn a + cn b := by
  induction a with
  | nil => rw [List.nil_append, cn_nil]; omega
  | cons c a ih => rw [List.cons_append, cn_cons, cn_cons, ih]; omega
theorem ak_append (a b : List T) : ak (a ++ b) = (ak a && ak b) := by
  induction a with
  | nil => rw [List.nil_append, ak_nil]; rfl
  | cons c a ih => rw [List.cons_append, ak_cons, ak_cons, ih]; simp [Bool.and_assoc]
theorem depL_append (a b : List T) : depL (a ++ b) = max (depL a) (depL b) := by
  induction a with
  | nil => rw [List.nil_append]; simp [depL]
  | cons c a ih => rw [List.cons_append, depL_cons, depL_cons, ih]; omega
theorem flt_ok {c : T} {d k : Nat} (h1 : k ≤ 4096) (h2 : d ≤ 64) (h : alone c = true) : flt c d k = 0 := by
  unfold flt
  rw [if_neg (by omega), if_neg (by omega), if_pos h]
theorem flt_deep {c : T} {d k : Nat} (h1 : k ≤ 4096) (h2 : 64 < d) : flt c d k = 701 := by
  unfold flt
  rw [if_neg (by omega), if_pos h2]
theorem lk_yes : ∀ (m : Nat) (l : List T) (d k : Nat), SizeOf.sizeOf l ≤ m → ak l = true → k + cn l ≤ 4096 → depL l + d ≤ 65 → lk l d k = (k + cn l, 0) := by
  intro m
  induction m with
  | zero =>
    intro l d k hm ha hk hd
    cases l with
    | nil => rw [lk_nil, cn_nil]; rfl
    | cons c cs => simp at hm
  | succ m ih =>
    intro l d k hm ha hk hd
    cases l with
    | nil => rw [lk_nil, cn_nil]; rfl
    | cons c cs =>
      obtain ⟨g, s, n, l⟩ := c
      simp at hm
      rw [ak_cons, Bool.and_eq_true, Bool.and_eq_true] at ha
      rw [cn_cons] at hk
      rw [depL_cons] at hd
      simp only [T.l] at ha hk hd
      have e : lk l (d + 1) (k + 1) = (k + 1 + cn l, 0) := ih l (d + 1) (k + 1) (by omega) ha.2.1 (by omega) (by omega)
      have hl : (T.mk g s n l).l = l := rfl
      rw [lk_cons, if_pos (flt_ok (by omega) (by omega) ha.1), hl]
      rw [e, if_pos rfl, ih cs d _ (by omega) ha.2.2 (by show k + 1 + cn l + cn cs ≤ 4096; omega) (by omega), cn_cons]
      simp only [T.l, Prod.mk.injEq, and_true]
      omega
theorem lk_deep : ∀ (m : Nat) (l : List T) (d k : Nat), SizeOf.sizeOf l ≤ m → ak l = true → k + cn l ≤ 4096 → d ≤ 65 → 65 < depL l + d → (lk l d k).2 = 701 := by
  intro m
  induction m with
  | zero =>
    intro l d k hm ha hk hd h
    cases l with
    | nil => simp [depL] at h; omega
    | cons c cs => simp at hm
  | succ m ih =>
    intro l d k hm ha hk hd h
    cases l with
    | nil => simp [depL] at h; omega
    | cons c cs =>
      obtain ⟨g, s, n, l⟩ := c
      simp at hm
      rw [ak_cons, Bool.and_eq_true, Bool.and_eq_true] at ha
      rw [cn_cons] at hk
      rw [depL_cons] at h
      simp only [T.l] at ha hk h
      have hl : (T.mk g s n l).l = l := rfl
      rw [lk_cons, hl]
      by_cases h64 : 64 < d
      · have e := flt_deep (c := .mk g s n l) (d := d) (k := k + 1) (by omega) h64
        rw [e, if_neg (by omega)]
      · rw [if_pos (flt_ok (by omega) (by omega) ha.1)]
        by_cases hk2 : depL l + (d + 1) ≤ 65
        · rw [lk_yes _ l (d + 1) (k + 1) (Nat.le_refl _) ha.2.1 (by omega) hk2, if_pos rfl]
          exact ih cs d _ (by omega) ha.2.2 (by show k + 1 + cn l + cn cs ≤ 4096; omega) hd (by omega)
        · have e := ih l (d + 1) (k + 1) (by omega) ha.2.1 (by omega) (by omega) (by omega)
          rw [if_neg (by rw [e]; omega), e]
theorem lk_inv : ∀ (m : Nat) (l : List T) (d k : Nat), SizeOf.sizeOf l ≤ m → k ≤ 4096 → d ≤ 65 → (lk l d k).2 = 0 → ak l = true ∧ (lk l d k).1 = k + cn l ∧ k + cn l ≤ 4096 ∧ depL l + d ≤ 65 := by
  intro m
  induction m with
  | zero =>
    intro l d k hm hk hd h
    cases l with
    | nil => rw [lk_nil, cn_nil, ak_nil]; exact ⟨rfl, rfl, hk, by simp [depL]; omega⟩
    | cons c cs => simp at hm
  | succ m ih =>
    intro l d k hm hk hd h
    cases l with
    | nil => rw [lk_nil, cn_nil, ak_nil]; exact ⟨rfl, rfl, hk, by simp [depL]; omega⟩
    | cons c cs =>
      obtain ⟨g, s, n, l⟩ := c
      simp at hm
      have hl : (T.mk g s n l).l = l := rfl
      rw [lk_cons, hl] at h ⊢
      by_cases h1 : flt (.mk g s n l) d (k + 1) = 0
      · rw [if_pos h1] at h ⊢
        obtain ⟨f1, f2, f3⟩ := flt_zero h1
        by_cases h2 : (lk l (d + 1) (k + 1)).2 = 0
        · rw [if_pos h2] at h ⊢
          obtain ⟨i1, i2, i3, i4⟩ := ih l (d + 1) (k + 1) (by omega) f1 (by omega) h2
          rw [i2] at h ⊢
          obtain ⟨j1, j2, j3, j4⟩ := ih cs d _ (by omega) i3 hd h
          rw [ak_cons, cn_cons, depL_cons]
          simp only [T.l]
          exact ⟨by rw [f3, i1, j1]; rfl, by rw [j2]; omega, by omega, by omega⟩
        · rw [if_neg h2] at h
          exact (h2 h).elim
      · rw [if_neg h1] at h
        exact (h1 h).elim
/-- What Check takes. -/
theorem ck_inv {l : List T} (h : ck l = 0) : ak l = true ∧ ct l = cn l ∧ cn l ≤ 4096 ∧ dp l = depL l ∧ depL l ≤ 64 := by
  have h2 := h
  rw [ck_lk] at h2
  obtain ⟨h3, h4, h5, h6⟩ := lk_inv _ l 1 0 (Nat.le_refl _) (by omega) (by omega) h2
  exact ⟨h3, by rw [ct_lk l h, h4]; omega, by omega, dp_lk l h, by omega⟩
theorem ck_yes {l : List T} (ha : ak l = true) (hk : cn l ≤ 4096) (hd : depL l ≤ 64) : ck l = 0 ∧ ct l = cn l ∧ dp l = depL l := by
  have e := lk_yes _ l 1 0 (Nat.le_refl _) ha (by omega) (by omega)
  have h : ck l = 0 := by rw [ck_lk, e]
  exact ⟨h, (ck_inv h).2.1, (ck_inv h).2.2.2.1⟩
theorem ck_deep {l : List T} (ha : ak l = true) (hk : cn l ≤ 4096) (hd : 64 < depL l) : ck l = 701 := by
  rw [ck_lk]
  exact lk_deep _ l 1 0 (Nat.le_refl _) ha (by omega) (by omega) (by omega)
/-- An element around. -/
def tq (l : List T) : T := .mk ⟨#[113]⟩ ⟨#[]⟩ [] l
theorem alone_q (l : List T) : alone (tq l) = true := by
  unfold alone
  show (if (⟨#[113]⟩ : ByteArray).toList.isEmpty = true then _ else UBase.word ⟨#[113]⟩ 45 && ((⟨#[]⟩ : ByteArray).toList.isEmpty && attrsOK [])) = _
  rw [show (⟨#[113]⟩ : ByteArray).toList.isEmpty = false by kernel_rfl, if_neg (by simp), show UBase.word ⟨#[113]⟩ 45 = true by kernel_rfl, show (⟨#[]⟩ : ByteArray).toList.isEmpty = true by kernel_rfl]
  rfl
theorem q_parts (l : List T) : ak [tq l] = ak l ∧ cn [tq l] = 1 + cn l ∧ depL [tq l] = 1 + depL l ∧ ht [tq l] = [60, 113, 62] ++ (ht l ++ [60, 47, 113, 62]) ∧ wt [tq l] = 2 + wt l := by
  have hl : (tq l).l = l := rfl
  refine ⟨?_, ?_, ?_, ?_, ?_⟩
  · rw [ak_cons, alone_q, ak_nil, hl]; simp
  · rw [cn_cons, cn_nil, hl]; omega
  · rw [depL_cons, hl]; simp [depL]; omega
  · rw [ht_cons, ht_nil, List.append_nil]
    unfold h1
    rw [show (tq l).g.toList.isEmpty = false by kernel_rfl, if_neg (by simp), hl]
    show 60 :: ([113] ++ (ats [] ++ 62 :: (ht l ++ 60 :: 47 :: ([113] ++ [62])))) = _
    simp [ats]
  · rw [wt_cons, wt_nil]
    unfold TSpecH.w1
    rw [hl]
    show 1 + 0 + 0 + 1 + wt l + 0 = _
    omega
theorem htB_ok {l : List T} (h : ck l = 0) : htB l = ⟨(ht l).toArray⟩ := by
  unfold htB
  rw [if_pos h]
end Go.Proofs.Ytonoalbhpligfaa.TJoin

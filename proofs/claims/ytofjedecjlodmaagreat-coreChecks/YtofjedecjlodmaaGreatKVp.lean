/- Cores gone through: how many nodes, and that no number is great. -/
import Derived.Test.YtofjedecjlodmaaGreatKNd
namespace Go.Proofs.YtofjedecjlodmaaGreat.KVp
open Go.RowKit Go.Proofs.YtofjedecjlodmaaGreat.Base Go.Proofs.YtofjedecjlodmaaGreat.EPure Go.Proofs.YtofjedecjlodmaaGreat.KBase Go.Proofs.YtofjedecjlodmaaGreat.KAr Go.Proofs.YtofjedecjlodmaaGreat.KEx Go.Proofs.YtofjedecjlodmaaGreat.KLe Go.Proofs.YtofjedecjlodmaaGreat.KNp Go.Proofs.YtofjedecjlodmaaGreat.KNd
set_option linter.unusedVariables false

/-- How many nodes. -/
def szL : List Co → Nat
  | [] => 0
  | .mk k t f p x l u :: cs => 1 + szL l + szL u + szL cs
theorem szL_nil : szL [] = 0 := by rw [szL]
theorem szL_cons (c : Co) (t : List Co) : szL (c :: t) = 1 + szL c.l + szL c.u + szL t := by
  obtain ⟨k, tg, f, p, x, l, u⟩ := c
  rw [szL]
  rfl
/-- Are the numbers of fors around each node small? -/
def lbL : Int → List Co → Bool
  | _, [] => true
  | lo, .mk k t f p x l u :: cs => decide ((if k = 4 then lo + 1 else lo) ≤ 100) && (lbL (if k = 4 then lo + 1 else lo) l && (lbL (if k = 4 then lo + 1 else lo) u && lbL lo cs))
theorem lbL_nil (lo : Int) : lbL lo [] = true := by rw [lbL]
theorem lbL_eq (lo : Int) (c : Co) (t : List Co) : lbL lo (c :: t) = (decide ((if c.k = 4 then lo + 1 else lo) ≤ 100) && (lbL (if c.k = 4 then lo + 1 else lo) c.l && (lbL (if c.k = 4 then lo + 1 else lo) c.u && lbL lo t))) := by
  obtain ⟨k, tg, f, p, x, l, u⟩ := c
  rw [lbL]
  rfl
theorem lbL_cons (lo : Int) (c : Co) (t : List Co) : (lbL lo (c :: t) = true) = ((if c.k = 4 then lo + 1 else lo) ≤ 100 ∧ lbL (if c.k = 4 then lo + 1 else lo) c.l = true ∧ lbL (if c.k = 4 then lo + 1 else lo) c.u = true ∧ lbL lo t = true) := by
  rw [lbL_eq]
  simp only [Bool.and_eq_true, decide_eq_true_eq]
theorem ent_loop {c : Co} {s e l : Int} (h : (ent c s e l).2 = true) : (ent c s e l).1.2.2 = (if c.k = 4 then l + 1 else l) := by
  unfold ent at h ⊢
  repeat' split at h
  all_goals simp_all
theorem ok_one {c : Co} {r s e l : Int} (h : (ndL [c] r s e l).2 = 0) : own c (lft c r) s e l = 0 ∧ (ndL c.l (lft c r) (ent c s e l).1.1 (ent c s e l).1.2.1 (ent c s e l).1.2.2).2 = 0 ∧ (ndL c.u (ndL c.l (lft c r) (ent c s e l).1.1 (ent c s e l).1.2.1 (ent c s e l).1.2.2).1 (ent c s e l).1.1 (ent c s e l).1.2.1 (ent c s e l).1.2.2).2 = 0 ∧ ndL [c] r s e l = ndL c.u (ndL c.l (lft c r) (ent c s e l).1.1 (ent c s e l).1.2.1 (ent c s e l).1.2.2).1 (ent c s e l).1.1 (ent c s e l).1.2.1 (ent c s e l).1.2.2 := by
  rw [ndL_one] at h ⊢
  split at h
  · next hx => exact absurd h hx
  · next hx =>
    rw [if_neg hx]
    split at h
    · next hy => exact absurd h hy
    · next hy =>
      rw [if_neg hy]
      exact ⟨Decidable.not_not.1 hx, Decidable.not_not.1 hy, h, rfl⟩
theorem ok_cons {c : Co} {t : List Co} {r s e l : Int} (h : (ndL (c :: t) r s e l).2 = 0) : (ndL [c] r s e l).2 = 0 ∧ (ndL t (ndL [c] r s e l).1 s e l).2 = 0 ∧ ndL (c :: t) r s e l = ndL t (ndL [c] r s e l).1 s e l := by
  have e0 := ndL_cons c t r s e l
  rw [e0] at h
  split at h
  · next hx => exact absurd h hx
  · next hx =>
    rw [if_neg hx] at e0
    exact ⟨Decidable.not_not.1 hx, h, e0⟩
/-- What may be has no more nodes than room, and no great numbers. -/
theorem ok_small : ∀ (n : Nat) (cs : List Co) (r s e l : Int), SizeOf.sizeOf cs ≤ n → (ndL cs r s e l).2 = 0 → 0 ≤ r → lbL l cs = true ∧ (ndL cs r s e l).1 + szL cs ≤ r := by
  intro n
  induction n with
  | zero =>
    intro cs r s e l h _ hr
    cases cs with
    | nil => rw [ndL_nil, lbL_nil, szL_nil]; exact ⟨rfl, by simp⟩
    | cons c t => exact absurd h (by simp)
  | succ n ih =>
    intro cs r s e l h h0 hr
    cases cs with
    | nil => rw [ndL_nil, lbL_nil, szL_nil]; exact ⟨rfl, by simp⟩
    | cons c t =>
      obtain ⟨h1, h2, h3⟩ := ok_cons h0
      obtain ⟨g1, g2, g3, g4⟩ := ok_one h1
      obtain ⟨o1, o2, o3, -, -⟩ := own_zero g1
      have hd := deep_no o2
      have hl : lft c r ≤ r - 1 := by
        unfold lft
        have := (KPi.bq_le _ (xsC c) (r - (1 + c.f.length + c.p.length + c.x.length)) (Nat.le_refl _)).1
        omega
      have el := ent_loop o3
      have r1 := ndL_room _ c.l (lft c r) _ _ _ (Nat.le_refl _) g2 (by omega)
      have r2 := ndL_room _ c.u _ _ _ _ (Nat.le_refl _) g3 r1.1
      obtain ⟨k, tg, f, p, x, l', u⟩ := c
      have i1 := ih l' _ _ _ _ (by simp at h; omega) g2 (by omega)
      have i2 := ih u _ _ _ _ (by simp at h; omega) g3 r1.1
      have i3 := ih t _ _ _ _ (by simp at h; omega) h2 (by rw [g4]; exact r2.1)
      rw [el] at hd
      refine ⟨?_, ?_⟩
      · rw [lbL_cons]
        rw [el] at i1 i2
        exact ⟨by omega, i1.1, i2.1, i3.1⟩
      · rw [h3, szL_cons]
        have e1 : (Co.mk k tg f p x l' u).l = l' := rfl
        have e2 : (Co.mk k tg f p x l' u).u = u := rfl
        rw [e1, e2]
        have j1 := i1.2
        have j2 := i2.2
        have j3 := i3.2
        rw [g4] at j3 ⊢
        rw [e1] at j2 j3 ⊢
        rw [e2] at j3 ⊢
        omega
end Go.Proofs.YtofjedecjlodmaaGreat.KVp

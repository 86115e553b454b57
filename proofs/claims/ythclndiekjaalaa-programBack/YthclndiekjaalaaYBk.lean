/- What is read, written again, is the same bytes: plainly. -/
import Derived.Test.YthclndiekjaalaaYRd
namespace Go.Proofs.Ythclndiekjaalaa.YBk
open Go.Proofs.Ythclndiekjaalaa.Leb Go.Proofs.Ythclndiekjaalaa.YPl Go.Proofs.Ythclndiekjaalaa.YRd
open Go.Proofs.Ythclndiekjaalaa.TBase (T)
set_option linter.unusedVariables false

def seg (b : By) (p q : Nat) : By := (b.drop p).take (q - p)
theorem seg_cat {b : By} {p q r : Nat} (h1 : p ≤ q) (h2 : q ≤ r) : seg b p q ++ seg b q r = seg b p r := by
  unfold seg
  have e : b.drop q = (b.drop p).drop (q - p) := by rw [List.drop_drop]; congr 1; omega
  rw [e, show r - p = (q - p) + (r - q) by omega, List.take_add]
theorem seg_self (b : By) (p : Nat) : seg b p p = [] := by unfold seg; simp
theorem pts_flat : ∀ (Xs : List By) (L : By), (L ++ Xs.flatten).length ≤ 1048576 → pts L Xs = L ++ Xs.flatten := by
  intro Xs
  induction Xs with
  | nil => intro L h; simp [pts]
  | cons X Xs ih =>
    intro L h
    have hl : ¬ 1048576 < L.length := by simp at h; omega
    show pts (pt L X) Xs = _
    rw [show pt L X = L ++ X by unfold pt; rw [if_neg hl], ih _ (by simpa using h)]
    simp
/-- What f reads at a place is what g writes. -/
def Bk {α : Type} (b : By) (f : Nat → Rs α) (g : α → Pc) : Prop := ∀ p x q, f p = .ok (x, q) → p ≤ q ∧ q ≤ b.length ∧ ∃ Xs, g x = some Xs ∧ Xs.flatten = seg b p q
theorem bnd_ok {α β : Type} {a : Rs α} {f : α → Nat → Rs β} {y : β} {r : Nat} (h : bnd a f = .ok (y, r)) : ∃ x q, a = .ok (x, q) ∧ f x q = .ok (y, r) := by
  cases a with
  | error z => cases h
  | ok t => obtain ⟨x, q⟩ := t; exact ⟨x, q, rfl, h⟩
theorem bk_oct (b : By) : Bk b (roct b) oct := by
  intro p x q h
  unfold roct at h
  split at h
  · rename_i hp
    cases h
    refine ⟨by omega, by omega, [[b[p]]], ?_, ?_⟩
    · unfold oct
      have := b[p].toNat_lt
      rw [if_pos ⟨by omega, by omega⟩]
      simp
    · unfold seg
      rw [show p + 1 - p = 1 by omega, List.drop_eq_getElem_cons hp]
      rfl
  · cases h
theorem zig_unz (x : Nat) : zig (unz x) = x := by unfold zig unz; split <;> split <;> omega
theorem tk_seg {b : By} {p : Nat} (h : (tk b p).2.2 = 0) : p ≤ (tk b p).2.1 ∧ (tk b p).2.1 ≤ b.length ∧ putL (tk b p).1 = seg b p (tk b p).2.1 := by
  obtain ⟨n, h1, h2, h3, h4, h5, -⟩ := tk_back h
  simp only [Int.toNat_natCast] at h3 h4 h5
  refine ⟨by omega, by omega, ?_⟩
  rw [h5, h4]
  unfold seg
  rw [show p + n - p = n by omega]
theorem bk_whl (b : By) : Bk b (rwhl b) whl := by
  intro p x q h
  unfold rwhl at h
  simp only at h
  split at h
  · rename_i h0
    cases h
    obtain ⟨h1, h2, h3⟩ := tk_seg h0
    exact ⟨h1, h2, _, rfl, by rw [zig_unz]; simpa using h3⟩
  · cases h
theorem bk_cnt (b : By) (lim : Nat) : Bk b (rcnt lim b) (fun n => cnt lim (n : Int)) := by
  intro p x q h
  unfold rcnt at h
  simp only at h
  split at h
  · rename_i h0
    cases h
    obtain ⟨h1, h2, h3⟩ := tk_seg h0.1
    refine ⟨h1, h2, [putL (tk b p).1], ?_, by simpa using h3⟩
    show cnt lim ((tk b p).1 : Int) = _
    unfold cnt
    rw [if_pos ⟨by omega, by omega⟩]
    simp
  · cases h
theorem bk_cat {α β : Type} {b : By} {f : Nat → Rs α} {g : α → Pc} {f2 : Nat → Rs β} {g2 : β → Pc} (h1 : Bk b f g) (h2 : Bk b f2 g2) {p : Nat} {x : α} {q : Nat} {y : β} {r : Nat} (e1 : f p = .ok (x, q)) (e2 : f2 q = .ok (y, r)) : p ≤ r ∧ r ≤ b.length ∧ ∃ Xs, cat (g x) (g2 y) = some Xs ∧ Xs.flatten = seg b p r := by
  obtain ⟨a1, a2, X, a3, a4⟩ := h1 p x q e1
  obtain ⟨b1, b2, Y, b3, b4⟩ := h2 q y r e2
  exact ⟨by omega, b2, X ++ Y, by rw [a3, b3]; rfl, by rw [List.flatten_append, a4, b4, seg_cat a1 b1]⟩
theorem bk_txt (b : By) : Bk b (rtxt b) txt := by
  intro p x q h
  unfold rtxt at h
  obtain ⟨n, z, h1, h2⟩ := bnd_ok h
  split at h2
  · cases h2
  · rename_i hl
    split at h2
    · rename_i hv
      cases h2
      obtain ⟨a1, a2, X, a3, a4⟩ := bk_cnt b 4096 p n z h1
      have a3 : cnt 4096 (n : Int) = some X := a3
      have hs : (sub b z n).size = n := by show ((b.drop z).take n).toArray.size = n; simp; omega
      have hn : n ≤ 4096 := by
        unfold cnt at a3
        split at a3
        · rename_i h0; omega
        · cases a3
      refine ⟨by omega, by omega, [putL (sub b z n).size, (sub b z n).data.toList], ?_, ?_⟩
      · unfold txt; rw [if_pos ⟨by omega, hv⟩]
      · have e1 : X.flatten = putL n := by
          unfold cnt at a3
          split at a3
          · cases a3; simp
          · cases a3
        rw [hs, ← seg_cat a1 (show z ≤ z + n by omega), ← a4, e1]
        simp [sub, seg]
    · cases h2
theorem bk_many {α : Type} {b : By} {f : Nat → Rs α} {g : α → Pc} (h : Bk b f g) : ∀ (n p : Nat) (l : List α) (q : Nat), p ≤ b.length → rmany f n p = .ok (l, q) → p ≤ q ∧ q ≤ b.length ∧ l.length = n ∧ ∃ Xs, lis g l = some Xs ∧ Xs.flatten = seg b p q := by
  intro n
  induction n with
  | zero => intro p l q hp e; rw [rmany] at e; cases e; exact ⟨Nat.le_refl _, hp, rfl, [], rfl, by rw [seg_self]; rfl⟩
  | succ n ih =>
    intro p l q hp e
    rw [rmany] at e
    obtain ⟨x, z, e1, e2⟩ := bnd_ok e
    obtain ⟨l', r, e3, e4⟩ := bnd_ok e2
    cases e4
    obtain ⟨a1, a2, X, a3, a4⟩ := h p x z e1
    obtain ⟨b1, b2, b3, Y, b4, b5⟩ := ih z l' q a2 e3
    exact ⟨by omega, b2, by simp [b3], X ++ Y, by rw [lis, a3, b4]; rfl, by rw [List.flatten_append, a4, b5, seg_cat a1 b1]⟩
theorem bk_lst {α : Type} {b : By} {f : Nat → Rs α} {g : α → Pc} (lim : Nat) (h : Bk b f g) : Bk b (rlst lim f b) (lst lim g) := by
  intro p l q e
  unfold rlst at e
  obtain ⟨n, z, e1, e2⟩ := bnd_ok e
  obtain ⟨a1, a2, X, a3, a4⟩ := bk_cnt b lim p n z e1
  obtain ⟨b1, b2, b3, Y, b4, b5⟩ := bk_many h n z l q a2 e2
  refine ⟨by omega, b2, X ++ Y, ?_, by rw [List.flatten_append, a4, b5, seg_cat a1 b1]⟩
  unfold lst
  simp only at a3
  rw [b3, a3, b4]
  rfl
theorem bk_ins (b : By) : Bk b (rins b) ins := by
  intro p x q h
  unfold rins at h
  obtain ⟨x1, p1, e1, h⟩ := bnd_ok h
  obtain ⟨x2, p2, e2, h⟩ := bnd_ok h
  cases h
  exact bk_cat (bk_oct b) (bk_whl b) e1 e2
theorem bk_att (b : By) : Bk b (ratt b) att := by
  intro p x q h
  unfold ratt at h
  obtain ⟨x1, p1, e1, h⟩ := bnd_ok h
  obtain ⟨x2, p2, e2, h⟩ := bnd_ok h
  cases h
  exact bk_cat (bk_txt b) (bk_txt b) e1 e2
theorem cat_seg {b : By} {p q r : Nat} {g1 g2 : Pc} (h1 : p ≤ q ∧ q ≤ b.length ∧ ∃ Xs, g1 = some Xs ∧ Xs.flatten = seg b p q) (h2 : q ≤ r ∧ r ≤ b.length ∧ ∃ Xs, g2 = some Xs ∧ Xs.flatten = seg b q r) : p ≤ r ∧ r ≤ b.length ∧ ∃ Xs, cat g1 g2 = some Xs ∧ Xs.flatten = seg b p r := by
  obtain ⟨a1, a2, X, a3, a4⟩ := h1
  obtain ⟨b1, b2, Y, b3, b4⟩ := h2
  exact ⟨by omega, b2, X ++ Y, by rw [a3, b3]; rfl, by rw [List.flatten_append, a4, b4, seg_cat a1 b1]⟩
theorem bk_opc (b : By) : Bk b (ropc b) opc := by
  intro p x q h
  unfold ropc at h
  obtain ⟨x1, p1, e1, h⟩ := bnd_ok h
  obtain ⟨x2, p2, e2, h⟩ := bnd_ok h
  obtain ⟨x3, p3, e3, h⟩ := bnd_ok h
  obtain ⟨x4, p4, e4, h⟩ := bnd_ok h
  obtain ⟨x5, p5, e5, h⟩ := bnd_ok h
  cases h
  exact cat_seg (bk_oct b _ _ _ e1) (cat_seg (bk_whl b _ _ _ e2) (cat_seg (bk_whl b _ _ _ e3) (cat_seg (bk_whl b _ _ _ e4) (bk_lst 64 (bk_whl b) _ _ _ e5))))
theorem bk_blk (b : By) : Bk b (rblk b) blk := by
  intro p x q h
  unfold rblk at h
  obtain ⟨x1, p1, e1, h⟩ := bnd_ok h
  obtain ⟨x2, p2, e2, h⟩ := bnd_ok h
  obtain ⟨x3, p3, e3, h⟩ := bnd_ok h
  cases h
  exact cat_seg (bk_cnt b 64 _ _ _ e1) (cat_seg (bk_lst 8192 (bk_opc b) _ _ _ e2) (bk_lst 8192 (bk_whl b) _ _ _ e3))
end Go.Proofs.Ythclndiekjaalaa.YBk
